/- Bytes behind bytes: append to bytes of the call's own, whatever the source; a text's bytes. No conditions beyond the slices' reach. -/
import Derived.Test.YtpnhiaibidecnaaQa
import Derived.ArgAppend
import Derived.Lib.ConvBytes
namespace Go.Proofs.Ytpnhiaibidecnaa
open Go.RowKit Go.Shelf
attribute [local go_sem] Oper.semAt_some

theorem one_u8s (N : List Nat) : ∀ u ∈ u8s N, u.oneCell' = true := by
  intro u hu
  obtain ⟨c, _, rfl⟩ := List.mem_map.1 hu
  rfl

theorem below_new (w : World) (o : Obj) : Below w.heap.size w (w.alloc o) := (Below.refl w.heap.size w).alloc (Nat.le_refl _) o

theorem own_mono {w : World} {base base' : Nat} {e : TypeId} {size : Nat} {v : Value} {n : Nat} {xs : List Value} (h : w.ownsRow base e size v n xs) (hb : base' ≤ base) : w.ownsRow base' e size v n xs := by
  refine ⟨h.1, ?_⟩
  rcases h.2 with h0 | ⟨g, cap, cur, h1, h2, h3⟩
  · exact .inl h0
  · exact .inr ⟨g, cap, cur, h1, by omega, h3⟩

theorem src_none {w : World} {n c : Nat} {B : List Nat} (h : SrcAt w (.slice none n c) B) : B = [] ∧ n = 0 ∧ c = 0 := by
  rcases h with ⟨e, rfl⟩ | ⟨a, c1, e, ha, hc⟩
  · simp only [Value.slice.injEq] at e
    exact ⟨rfl, e.2⟩
  · simp at e

theorem pre_src {w : World} {A : Option Addr} {n c : Nat} {B : List Nat} (h : SrcAt w (.slice A n c) B) (m c' : Nat) (hm : m ≤ n) (hc' : A = none → c' = 0) : SrcAt w (.slice A m c') (B.take m) := by
  rcases h with ⟨e, rfl⟩ | ⟨a, c1, e, ha, hc⟩
  · simp only [Value.slice.injEq] at e
    obtain ⟨rfl, rfl, rfl⟩ := e
    obtain rfl : m = 0 := by omega
    exact .inl ⟨by rw [hc' rfl], by simp⟩
  · simp only [Value.slice.injEq] at e
    obtain ⟨rfl, rfl, rfl⟩ := e
    have hl : (B.take m).length = m := by rw [List.length_take]; omega
    refine .inr ⟨a, c', by rw [hl], ha, fun j u hu => ?_⟩
    have hj := (List.getElem?_eq_some_iff.1 hu).1
    rw [u8s_length, hl] at hj
    refine hc j u ?_
    rw [← hu]
    simp [u8s, hj]

theorem wpListIn_append_eq {F : Fence} {n : Nat} {P : Program} {w : World} {ops : Array Oper} {rest : List Oper} {o : Oper} {a : Go.Act} {Q : Exit → Go.Act → World → Prop} (hg : o.guard = none) (s x : Operand) (t : TypeId) (hop : o.op = Op.call { callee := Callee.builtin Builtin.append, args := #[s, x], argTypes := #[t, t] })
    {v xv v' : Value} {w' : World} (hs : a.eval s = v) (hx : a.eval x = xv) (hrun : (Builtin.append_ #[t, t] o.type #[v, xv]).run P w = .ok v' w') (hK : wpListIn F n P ops Q rest (a.put o.dst v') w') : wpListIn F n P ops Q (o :: rest) a w := by
  refine wpListIn_plain hg fun K hK' => ?_
  unfold Oper.wpIn
  refine ⟨?_, ?_⟩
  · simp [Oper.about, hop, resolve, Target.leads, Sem.run_pure]
  · rw [Oper.semAt_plain F _ _ (by rw [hop]; intro c hc'; cases hc')]
    simp [execOp, hop, resolve, invoke, builtin, hs, hx, hrun, Result.andThen]
    exact hK' _ _ hK

theorem wpList_append_eq {P : Program} {w : World} {ops : Array Oper} {rest : List Oper} {o : Oper} {a : Go.Act} {Q : Exit → Go.Act → World → Prop} (hg : o.guard = none) (s x : Operand) (t : TypeId) (hop : o.op = Op.call { callee := Callee.builtin Builtin.append, args := #[s, x], argTypes := #[t, t] })
    {v xv v' : Value} {w' : World} (hs : a.eval s = v) (hx : a.eval x = xv) (hrun : (Builtin.append_ #[t, t] o.type #[v, xv]).run P w = .ok v' w') (hK : wpList P ops Q rest (a.put o.dst v') w') : wpList P ops Q (o :: rest) a w := by
  refine wpList_plain hg fun K hK' => ?_
  unfold Oper.wp
  simp [execOp, hop, resolve, invoke, builtin, hs, hx, hrun, Result.andThen]
  exact hK' _ _ hK

theorem run_append_byte (ty : TypeId) {w : World} {base : Nat} {v : Value} {n : Nat} {xs : List Nat} (h : w.ownsRow base 5 1 v n (u8s xs)) (hb : base ≤ w.heap.size) (yi : Int) (y : Nat) (hy : yi = ((y : Nat) : Int)) (hl : n + 1 ≤ 140737488355328) :
    ∃ v' w', (Builtin.append_ #[22, 22] ty #[v, .slice (some ⟨w.heap.size, 0, none⟩) 1 1]).run Try.prog (w.alloc (.cells #[.int .u8 yi] 5)) = .ok v' w' ∧ w'.ownsRow base 5 1 v' (n + 1) (u8s (xs ++ [y])) ∧ Below base w w' := by
  subst hy
  obtain ⟨i, hi, hz, hsz, hby⟩ := info_parts Try.infB
  have hal := below_new w (.cells #[.int .u8 ((y : Nat) : Int)] 5)
  have h' : (w.alloc (.cells #[.int .u8 ((y : Nat) : Int)] 5)).ownsRow base 5 1 v n (u8s xs) := Rest.row (S := fun _ => False) (Rest.below hal) h (fun _ _ e => e)
  obtain ⟨v', w', hrun, r1, r2, _⟩ := run_append_own (P := Try.prog) (w.alloc (.cells #[.int .u8 ((y : Nat) : Int)] 5)) base 22 ty 5 i (.int .u8 0) 1 1 Try.undL hi hz hsz hby rfl (by decide) v n (u8s xs) h' ⟨w.heap.size, 0, none⟩ 1 1 (u8s [y]) rfl (fun j u hu => by
    have hj := (List.getElem?_eq_some_iff.1 hu).1
    simp [u8s] at hj
    subst hj
    simp [u8s] at hu
    subst hu
    simp [Addr.add]) (one_u8s _) (Nat.le_trans hl (by decide)) (by omega) (Nat.le_trans hb hal.size)
  refine ⟨v', w', hrun, by rw [u8s_append]; exact r1, (hal.mono hb).trans ⟨r2.os, r2.tape, r2.output, r2.size, fun k hk => r2.block k (by have := hal.size; omega) (fun e => ?_)⟩⟩
  have := (h.lt k e.symm).1
  omega

theorem own_form {w : World} {base : Nat} {e : TypeId} {v : Value} {n : Nat} {xs : List Value} (h : w.ownsRow base e 1 v n xs) : ∃ A c, v = .slice A n c ∧ n ≤ c ∧ c ≤ 9223372036854775807 := by
  rcases h.2 with ⟨rfl, rfl⟩ | ⟨g, cap, cur, rfl, _, _, h1, h2, _⟩
  · exact ⟨none, 0, rfl, Nat.le_refl _, by omega⟩
  · exact ⟨_, cap, rfl, h1, h2⟩

theorem run_append_ownS (ty : TypeId) {w : World} {base : Nat} {v : Value} {n : Nat} {xs : List Nat} (h : w.ownsRow base 5 1 v n (u8s xs)) (hb : base ≤ w.heap.size) {x : Value} {F : List Nat} (hs : SrcAt w x F) (hl : n + F.length ≤ 140737488355328) :
    ∃ v' w', (Builtin.append_ #[22, 22] ty #[v, x]).run Try.prog w = .ok v' w' ∧ w'.ownsRow base 5 1 v' (n + F.length) (u8s (xs ++ F)) ∧ w.grownBy w' v.ownBlock := by
  obtain ⟨i, hi, hz, hsz, hby⟩ := info_parts Try.infB
  rcases hs with ⟨rfl, rfl⟩ | ⟨a, c, rfl, _, hc⟩
  · have hsrc : Src Try.prog 1 22 (.slice none 0 0) 0 (u8s []) w := SrcAt.src (.inl ⟨rfl, rfl⟩)
    rw [← hsz] at hsrc
    refine ⟨v, w, ?_, by simpa using h, ⟨rfl, rfl, rfl, Nat.le_refl _, fun _ _ _ => rfl⟩⟩
    obtain ⟨A, c, rfl, h1, _⟩ := own_form h
    exact run_append_nothing w 22 22 ty 5 i Try.undL hi A n c (by simpa using h1) _ hsrc
  · obtain ⟨v', w', hrun, r1, r2, _⟩ := run_append_own (P := Try.prog) w base 22 ty 5 i (.int .u8 0) 1 1 Try.undL hi hz hsz hby rfl (by decide) v n (u8s xs) h a F.length c (u8s F) (by rw [u8s_length]; omega) hc (one_u8s F) (Nat.le_trans hl (by decide)) (by omega) hb
    exact ⟨v', w', hrun, by rw [u8s_append]; exact r1, r2⟩

theorem run_append_zero (ty : TypeId) {w : World} {base g : Nat} (hg : w.heap[g]? = some (.cells #[] 5 (0, 0))) (hbg : base ≤ g) (hb : base ≤ w.heap.size) {x : Value} {F : List Nat} (hs : SrcAt w x F) (hl : F.length ≤ 140737488355328) :
    ∃ v' w', (Builtin.append_ #[22, 22] ty #[.slice (some ⟨g, 0, none⟩) 0 0, x]).run Try.prog w = .ok v' w' ∧ w'.ownsRow base 5 1 v' F.length (u8s F) ∧ Below w.heap.size w w' := by
  obtain ⟨i, hi, hz, hsz, hby⟩ := info_parts Try.infB
  have h0 : w.ownsRow base 5 1 (.slice (some ⟨g, 0, none⟩) 0 0) 0 (u8s []) := ⟨by simp [u8s], .inr ⟨g, 0, #[], rfl, hbg, hg, Nat.le_refl _, by decide, by simp, by simp [u8s]⟩⟩
  by_cases hF : F = []
  · subst hF
    have hsrc : Src Try.prog 1 22 x 0 (u8s []) w := hs.src
    rw [← hsz] at hsrc
    exact ⟨_, w, run_append_nothing w 22 22 ty 5 i Try.undL hi _ 0 0 (by simp) x hsrc, h0, Below.refl _ _⟩
  · have h1 : 1 ≤ F.length := List.length_pos_iff.2 hF
    rcases hs with ⟨_, e⟩ | ⟨a, c, rfl, _, hc⟩
    · exact absurd e hF
    · obtain ⟨v', w', hrun, r1, r2⟩ := run_append_arg_grows (P := Try.prog) w 22 ty 5 i (.int .u8 0) 1 1 Try.undL hi hz hsz hby rfl (by decide) ⟨g, 0, none⟩ 0 0 [] rfl (fun j u hu => by simp at hu) a F.length c (u8s F) (by rw [u8s_length]; omega) hc (by omega) (Nat.le_trans (by omega) (show 140737488355328 ≤ maxLen by decide)) (by omega)
      rw [Nat.zero_add, List.nil_append] at r1
      exact ⟨v', w', hrun, own_mono r1 hb, ⟨r2.os, r2.tape, r2.output, r2.size, fun k hk => r2.block k hk (by simp)⟩⟩

theorem conv_str (w : World) (B : List Nat) (hB : ∀ c ∈ B, c < 256) (hl : B.length ≤ 1000) :
    ∃ a c w1, (convert 9 22 (.string (strOf B))).run Try.prog w = .ok (.slice (some ⟨a, 0, none⟩) B.length c) w1 ∧ SrcAt w1 (.slice (some ⟨a, 0, none⟩) B.length c) B ∧ Below w.heap.size w w1 ∧ B.length ≤ c ∧ c ≤ 9223372036854775807 := by
  have hsz : (strOf B).size = B.length := by simp [strOf, ByteArray.size]
  refine ⟨w.heap.size, grownCap w (strOf B).size 0 5, Lib.bytesWorld w 5 (strOf B), ?_, ?_, ?_, ?_, ?_⟩
  · have := Go.Lib.run_convert_string_bytes (P := Try.prog) w 9 22 5 (strOf B) Try.undS Try.undL Try.undB
    rw [this, hsz]
  · refine .inr ⟨_, _, rfl, ?_, fun j u hu => ?_⟩
    · show w.heap.size < _
      rw [Lib.bytesWorld_size]; omega
    · have hj := (List.getElem?_eq_some_iff.1 hu).1
      rw [u8s_length] at hj
      rw [Addr.add_lit, Nat.zero_add, Lib.bytesWorld_cell w _ _ j (by rw [hsz]; exact hj)]
      rw [u8s_get B j hj] at hu
      rw [← hu]
      have := hB B[j] (List.getElem_mem hj)
      simp [strOf, List.getD, hj, Nat.mod_eq_of_lt this]
  · exact ⟨rfl, rfl, rfl, by rw [Lib.bytesWorld_size]; omega, fun k hk => Lib.bytesWorld_at_old w _ _ k hk⟩
  · rw [← hsz]; exact grownCap_ge _ _ _ _
  · exact grownCap_le_maxLen w _ 0 5 (by rw [hsz]; unfold maxLen; omega)

/-- A part of a row that was made, read later. -/
theorem src_part {w1 w2 : World} {c : Array Value} {T : TypeId} (hb : Below (w1.alloc (.cells c T)).heap.size (w1.alloc (.cells c T)) w2) (o : Nat) (L : List Nat) (n : Nat) (hn : n = L.length) (hL : ∀ j u, (u8s L)[j]? = some u → c[o + j]? = some u) : SrcAt w2 (.slice (some ⟨w1.heap.size, o, none⟩) n n) L := by
  subst hn
  refine .inr ⟨_, _, rfl, ?_, fun j u hu => ?_⟩
  · have := hb.size
    simp at this ⊢
    omega
  · rw [Addr.add_lit]
    rw [hb.cell (p := ⟨w1.heap.size, o + j, none⟩) (by simp), World.cell?_alloc_new]
    exact hL j u hu
theorem SrcAt.row {w : World} {base : Nat} {v : Value} {B : List Nat} {n : Nat} (h : w.ownsRow base 5 1 v n (u8s B)) : SrcAt w v B := SrcAt.of_row h
end Go.Proofs.Ytpnhiaibidecnaa
