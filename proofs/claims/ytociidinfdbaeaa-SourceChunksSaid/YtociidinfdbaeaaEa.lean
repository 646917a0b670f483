/- Bytes of a call in memory: as SrcAt, or none, at any place; append of them. No conditions: plain facts on memory. -/
import Derived.Test.YtociidinfdbaeaaTw
namespace Go.Proofs.Ytociidinfdbaeaa
open Go.RowKit Go.Shelf

/-- Bytes of a call: as SrcAt, or none, at any place. -/
def SrcE (w : World) (s : Value) (B : List Nat) : Prop := SrcAt w s B ∨ (B = [] ∧ ∃ a c, s = .slice (some a) 0 c)

theorem SrcE.below {w w' : World} {s : Value} {B : List Nat} (h : SrcE w s B) (hb : Below w.heap.size w w') : SrcE w' s B := by
  rcases h with h | h
  · exact .inl (h.below hb h.lt)
  · exact .inr h

theorem SrcE.rest {w w' : World} {S : Nat → Prop} {s : Value} {B : List Nat} (h : SrcE w s B) (hr : Rest S w w') (hs : ∀ k, k < w.heap.size → s.ownBlock = some k → ¬ S k) : SrcE w' s B := by
  rcases h with h | h
  · exact .inl (h.rest hr fun k hk => hs k (h.lt k hk) hk)
  · exact .inr h

theorem SrcE.src {w : World} {s : Value} {N : List Nat} (h : SrcE w s N) : Src Try.prog 1 29 s N.length (u8s N) w := by
  rcases h with h | ⟨rfl, a, c, rfl⟩
  · exact h.src
  · exact Src.ofSlice w (e' := 5) (by kernel_rfl) a 0 c [] (by simp) (fun j u hu => by simp at hu) (fun u hu => by simp at hu)

theorem run_append_src (ty : TypeId) {w : World} {v : Value} {B : List Nat} (h : Buf w v B) {x : Value} {N : List Nat} (hsrc : Src Try.prog 1 29 x N.length (u8s N) w) (hl : B.length + N.length ≤ 140737488355328) :
    ∃ v' w', (Builtin.append_ #[29, 29] ty #[v, x]).run Try.prog w = .ok v' w' ∧ Buf w' v' (B ++ N) ∧ w.grownBy w' v.ownBlock ∧ Own2 w v v' := by
  obtain ⟨i, hi, hz, hsz, hby⟩ := info_parts Try.info5
  have ht : Try.prog.underlying 29 = some (.slice 5) := by kernel_rfl
  obtain ⟨ao, b, off, cap, h⟩ := h
  have hlen : (u8s (B ++ N)).length = B.length + N.length := by rw [u8s_length]; simp
  rw [← hsz] at hsrc
  by_cases hfit : B.length + N.length ≤ cap
  · rcases Nat.eq_zero_or_pos cap with h0 | hcap
    · subst h0
      have hN : N = [] := List.eq_nil_of_length_eq_zero (by omega)
      subst hN
      refine ⟨v, w, ?_, by rw [List.append_nil]; exact ⟨ao, b, off, 0, h⟩, ⟨rfl, rfl, rfl, Nat.le_refl _, fun _ _ _ => rfl⟩, fun k hk => .inl hk⟩
      rw [h.eq]
      exact run_append_nothing w 29 29 ty 5 i ht hi ao _ 0 (by simpa using hfit) x hsrc
    · have hao := h.came.addr hcap
      have hsp : ∀ j, j < N.length → (w.cell? ⟨b, off + B.length * 1 + j, none⟩).isSome = true ∧ w.frozen? ⟨b, off + B.length * 1 + j, none⟩ = false := fun j hj => h.came.spare j (by omega)
      have hrun := run_append_room_src (P := Try.prog) w 29 29 ty 5 i ht hi b off B.length cap x N.length (u8s N) hsrc hfit (fun j hj => by rw [u8s_length] at hj; rw [hsz]; exact (hsp j hj).1) (fun j hj => by rw [u8s_length] at hj; rw [hsz]; exact (hsp j hj).2)
      rw [hsz] at hrun
      refine ⟨.slice (some ⟨b, off, none⟩) (B.length + N.length) cap, _, by rw [h.eq, hao]; exact hrun, ⟨some ⟨b, off, none⟩, b, off, cap, by simp, ?_, h.max, fun e => by simp at e, fun a ha => ?_⟩, ⟨World.os_setCells _ _ _ _, tape_setCells _ _ _ _, World.output_setCells _ _ _ _, by rw [size_setCells]; exact Nat.le_refl _, fun k hk hne => World.heap_setCells_other w b _ _ hk (fun e => hne (by rw [h.own hcap, e]))⟩, fun k hk => .inl (by rw [h.own hcap]; exact hk)⟩
      · refine ⟨by simpa using hfit, fun _ => rfl, fun _ => by rw [size_setCells]; exact h.came.lt hcap, by rw [u8s_length, Nat.mul_one], fun j u hu => ?_, fun j hj => ?_⟩
        · have hj := (List.getElem?_eq_some_iff.1 hu).1
          rw [hlen] at hj
          by_cases hjo : j < B.length
          · rw [World.cell?_setCells_out b _ _ _ _ (fun _ _ => Or.inl (by show off + j < off + B.length * 1; omega))]
            refine h.came.olds j u ?_
            rw [u8s_append, List.getElem?_append_left (by rw [u8s_length]; exact hjo)] at hu
            exact hu
          · have ht' : j - B.length < (u8s N).length := by rw [u8s_length]; omega
            have := World.cell?_setCells_in b (u8s N) (off + B.length * 1) w (fun j hj => by rw [u8s_length] at hj; exact (hsp j hj).1) (j - B.length) ht'
            rw [show off + B.length * 1 + (j - B.length) = off + j by omega] at this
            rw [this, ← hu, u8s_append, List.getElem?_append_right (by rw [u8s_length]; omega), u8s_length, List.getElem?_eq_getElem ht']
        · have e1 : off + (B ++ N).length * 1 + j = off + B.length * 1 + (N.length + j) := by simp; omega
          have hsp' := h.came.spare (N.length + j) (by simp at hj; omega)
          rw [e1]
          refine ⟨?_, (World.frozen?_setCells b _ _ _ _).trans hsp'.2⟩
          rw [World.cell?_setCells_out b _ _ _ _ (fun _ _ => Or.inr (by show off + B.length * 1 + (u8s N).length ≤ off + B.length * 1 + (N.length + j); rw [u8s_length]; omega))]
          exact hsp'.1
      · simp only [Option.some.injEq] at ha
        subst ha
        rw [size_setCells]
        exact h.came.lt hcap
  · have h63 : B.length + N.length ≤ maxLen := Nat.le_trans hl (by decide)
    have hold : (Builtin.firstCells i.size B.length (.slice ao B.length cap)).run Try.prog w.drew = .ok (u8s B).toArray w.drew := by
      rcases Nat.eq_zero_or_pos cap with h0 | hcap
      · have := h.came.le
        have hB : B = [] := List.eq_nil_of_length_eq_zero (by omega)
        subst hB; subst h0
        cases ao with
        | none => exact run_firstCells_none w.drew i.size 0 0 0
        | some a' => exact run_firstCells_some w.drew i.size 0 a' 0 0 [] (by simp) (by intro _ _ h'; simp at h')
      · rw [h.came.addr hcap]
        refine run_firstCells_some w.drew i.size B.length ⟨b, off, none⟩ B.length cap (u8s B) (by rw [u8s_length, hsz, Nat.mul_one]) (fun j u hu => ?_)
        rw [Addr.add_lit]
        exact h.came.olds j u hu
    have hrun := run_append_grow_src (P := Try.prog) w 29 29 ty 5 i (.int .u8 0) ht hi hz ao B.length cap (u8s B) hold x N.length (u8s N) hsrc (by omega) (by have : maxLen = 9223372036854775807 := rfl; omega) (growslice_fits (by omega) (by rw [hby, Nat.mul_one]; exact hl))
    have hge := grownCap_ge w (B.length + N.length) cap 5
    have hcm := grownCap_le_maxLen w (B.length + N.length) cap 5 h63
    have hblk : ∀ k, k < w.heap.size → (w.drew.alloc (.cells ((u8s B ++ u8s N).toArray ++ Builtin.zeroCells (Value.int IntKind.u8 0).cells (grownCap w (B.length + N.length) cap 5 - (B.length + N.length))) 5)).heap[k]? = w.heap[k]? := fun k hk => Below.heap_alloc w.drew _ k hk
    have hsize : ((u8s B ++ u8s N).toArray ++ Builtin.zeroCells (Value.int IntKind.u8 0).cells (grownCap w (B.length + N.length) cap 5 - (B.length + N.length))).size = grownCap w (B.length + N.length) cap 5 := by
      rw [Array.size_append, List.size_toArray, ← u8s_append, hlen, size_zeroCells]
      show B.length + N.length + _ * 1 = _
      omega
    rw [← h.eq] at hrun
    refine ⟨_, _, hrun, ⟨some ⟨w.heap.size, 0, none⟩, w.heap.size, 0, grownCap w (B.length + N.length) cap 5, by simp, ⟨by simp; omega, fun _ => rfl, fun _ => by simp, by rw [u8s_length, Nat.mul_one], fun j u hu => ?_, fun j hj => ?_⟩, hcm, fun e => by simp at e, fun a ha => ?_⟩, ⟨rfl, rfl, rfl, by simp, fun k hk _ => hblk k hk⟩, fun k hk => .inr ?_⟩
    · have e1 : (w.drew.alloc (.cells ((u8s B ++ u8s N).toArray ++ Builtin.zeroCells (Value.int IntKind.u8 0).cells (grownCap w (B.length + N.length) cap 5 - (B.length + N.length))) 5)).cell? ⟨w.heap.size, 0 + j, none⟩ = _ := World.cell?_alloc_new w.drew _ _ (0 + j)
      have hj := (List.getElem?_eq_some_iff.1 hu).1
      rw [hlen] at hj
      rw [e1, Nat.zero_add, Array.getElem?_append_left (by simp only [List.size_toArray]; rw [← u8s_append, hlen]; exact hj), List.getElem?_toArray, ← u8s_append]
      exact hu
    · have hj' : 0 + (B ++ N).length * 1 + j < grownCap w (B.length + N.length) cap 5 := by simp at hj ⊢; omega
      refine ⟨?_, World.frozen?_alloc_new w.drew _ _ _⟩
      have e1 : (w.drew.alloc (.cells ((u8s B ++ u8s N).toArray ++ Builtin.zeroCells (Value.int IntKind.u8 0).cells (grownCap w (B.length + N.length) cap 5 - (B.length + N.length))) 5)).cell? ⟨w.heap.size, 0 + (B ++ N).length * 1 + j, none⟩ = _ := World.cell?_alloc_new w.drew _ _ _
      rw [e1, Array.getElem?_eq_getElem (by rw [hsize]; exact hj')]
      rfl
    · simp only [Option.some.injEq] at ha
      subst ha
      simp
    · simp [Value.ownBlock] at hk
      omega

/-- At the list of a plain region's operations, whatever the bytes' form. -/
theorem wpList_append_src (w : World) {ops : Array Oper} {rest : List Oper} {o : Oper} {a : Act} {Q : Exit → Act → World → Prop} (hgd : o.guard = none) (s x : Operand)
    (ho : o.op = .call { callee := .builtin .append, args := #[s, x], argTypes := #[29, 29] }) {v : Value} {B : List Nat} (hv : a.eval s = v) (h : Buf w v B) {xv : Value} {N : List Nat} (hx : a.eval x = xv) (hs : Src Try.prog 1 29 xv N.length (u8s N) w) (hl : B.length + N.length ≤ 140737488355328)
    (hK : ∀ v' w', Buf w' v' (B ++ N) → w.grownBy w' v.ownBlock → Own2 w v v' → wpList Try.prog ops Q rest (a.put o.dst v') w') : wpList Try.prog ops Q (o :: rest) a w := by
  refine wpList_plain hgd fun K hK' => ?_
  obtain ⟨v', w', hrun, h1, h2, h3⟩ := run_append_src o.type h hs hl
  unfold Oper.wp
  simp [execOp, ho, resolve, invoke, builtin, hv, hx, hrun, Result.andThen]
  exact hK' _ _ (hK v' w' h1 h2 h3)
end Go.Proofs.Ytociidinfdbaeaa
