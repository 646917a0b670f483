/- The row of BitsYields: the bytes are opened, the walk ends in true, and what is read reads as it did. -/
import Derived.Test.YtboiiohpkoodpaaRows
import Derived.Test.YtboiiohpkoodpaaYi
import Derived.Test.YtboiiohpkoodpaaPn
namespace Go.Proofs.Ytboiiohpkoodpaa
open Go.ChangeShapes Go.WideShapes Go.ChangeAt Go.RowKit Go.Joins

theorem shape_lt {W : World} {b : Nat} {x : TypeId × Nat} (h : W.shape? b = some x) : b < W.heap.size := by
  unfold World.shape? at h
  cases hh : W.heap[b]? with
  | none => rw [hh] at h; cases h
  | some o => exact (Array.getElem?_eq_some_iff.1 hh).1

/-- A slice of bytes as an argument. -/
theorem arg_src {H : Type} {enc : TypeId × Value → H} {W : World} {base : Nat} {v1 : Value} {d1 : DataW H} {p1 : List MemPlace} (hval : Value.okWide Try.prog W .any base 28 v1) (h1 : DataW.Trod enc Try.prog W 0 (fun _ => true) true 28 v1 d1 p1) :
    ∃ A c B, v1 = .slice A (List.length B) c ∧ SrcAt W v1 B ∧ (∀ x ∈ B, x < 256) ∧ B.length ≤ 9223372036854775807 := by
  obtain ⟨a1, len, cap, rfl⟩ := okWide_slice Try.underlying28 hval
  obtain ⟨fuel, hf⟩ := h1
  rcases open_ints Try.underlying28 Try.underlying5 Try.cells5 hf with ⟨hcs, hx⟩ | ⟨a, len', cap', zs, hcs, _, hl, hm, hz, hx, hcell, hwz⟩
  · simp [Value.cells] at hcs
    obtain ⟨rfl, rfl, rfl⟩ := hcs
    exact ⟨none, 0, [], rfl, .inl ⟨rfl, rfl⟩, by simp, by simp⟩
  · simp [Value.cells] at hcs
    obtain ⟨rfl, rfl, rfl⟩ := hcs
    simp only [if_true] at hz
    have hlt : a.block < W.heap.size := by
      simp only [Value.okWide, Try.underlying28, Cell.okWide, Cell.ok] at hval
      obtain ⟨_, _, _, _, row, cells, hs, _⟩ := hval
      exact shape_lt hs
    have h0 : ∀ n ∈ zs, 0 ≤ n ∧ n ≤ 255 := fun n hn => by
      have := hwz n hn
      simp [Lit.wf] at this
      have e1 : IntKind.u8.min = 0 := rfl
      have e2 : IntKind.u8.max = 255 := rfl
      omega
    have hlen : ((zs.take len).map Int.toNat).length = len := by simp; omega
    refine ⟨some a, cap, (zs.take len).map Int.toNat, by rw [hlen], .inr ⟨a, cap, by rw [hlen], hlt, fun j u hu => ?_⟩, ?_, ?_⟩
    · have hj : j < len := by
        have := (List.getElem?_eq_some_iff.1 hu).1
        rw [u8s_length, hlen] at this
        exact this
      have hjz : j < zs.length := by omega
      have hn := h0 zs[j] (List.getElem_mem _)
      have e : u = .int .u8 (zs.getD j 0) := by
        simp [u8s, hj, hjz] at hu
        rw [List.getD_eq_getElem?_getD, List.getElem?_eq_getElem hjz, ← hu]
        simp
        omega
      rw [e]
      exact hcell j hjz
    · intro x hx
      simp only [List.mem_map] at hx
      obtain ⟨n, hn, rfl⟩ := hx
      have := h0 n (List.mem_of_mem_take hn)
      omega
    · rw [hlen]
      exact Nat.le_trans hl (Nat.le_trans hm (by decide))

theorem yields_any (s : Value) (B : List Nat) (A : Option Addr) (c : Nat) (pl : Nat) (many : Int) (w : World) (h : s = .slice A B.length c) (hs : SrcAt w s B) (hB : ∀ x ∈ B, x < 256) (hpl : pl ≤ 255) (hm : B.length ≤ 9223372036854775807) :
    Calls Try.prog 5 #[s, .int .u8 pl, .int .i64 many] w fun e w' => e = .returned (.bool true) ∧ Below w.heap.size w w' := by
  by_cases hl : 20 < B.length
  · exact yields_long s B pl many w ⟨A, c, h⟩ hl hm
  · subst h
    exact yields_short A c B pl many w hs hB hpl (Nat.le_of_not_lt hl)

set_option maxRecDepth 100000 in
theorem yields_lifted (os : Os) (started : os.Started) (H : Type) (enc : TypeId × Value → H) :
    ReturnsInHanded {} Try.checked os 5 .any (Rows.bitsYieldsSpec.pre6 enc Try.prog Try.f5 Rows.bitsYieldsRow.domain false) (Rows.bitsYieldsSpec.post enc Try.prog Try.f5 false true false false) := by
  refine returnsInHanded_of_change (C := Try.checked) Try.own started (by kernel_rfl) Try.func5
    (ChangeSpec.witness6 (enc := enc) (C := Try.checked) false ⟨#[], #[.slice none 0 0, .int .u8 0, .int .i64 0], []⟩ 8 (by kernel_rfl) (by kernel_rfl) (by kernel_rfl) (by kernel_rfl)) ?_
  intro W base args ds gs before hval0 hW hcnd _
  have hval : ∀ (j : Nat) t v, Try.f5.params[j]? = some t → args[j]? = some v → Value.okWide Try.prog W .any base t v := hval0
  have hW' := hW
  obtain ⟨p, q, hA0, hV, rfl, hfz, hnd⟩ := hW
  have hA : DataW.TrodAll enc Try.prog W 0 (fun _ => true) true Try.f5.params.toList args.toList ds p := hA0
  rw [Try.params5] at hA hval
  obtain ⟨v0, v1, v2, d0, d1, d2, p0, p1, p2, rfl, rfl, rfl, h0, h1, h2⟩ := trodAll_three hA
  obtain ⟨rfl, rfl⟩ := trodVars_none hV
  have h0k := h0
  obtain ⟨A, c, B, hv, hsrc, hB, hBl⟩ := arg_src (hval 0 28 v0 rfl rfl) h0
  obtain ⟨pl, rfl, rfl, rfl, wp⟩ := open_int Try.underlying5 (hval 1 5 v1 rfl rfl) h1
  obtain ⟨many, rfl, rfl, rfl, wm⟩ := open_int Try.underlying3 (hval 2 3 v2 rfl rfl) h2
  have hpl : 0 ≤ pl ∧ pl ≤ 255 := by
    have hw := wp
    simp [Lit.wf] at hw
    have e1 : IntKind.u8.min = 0 := rfl
    have e2 : IntKind.u8.max = 255 := rfl
    omega
  obtain ⟨n, rfl⟩ := Int.eq_ofNat_of_zero_le hpl.1
  have hlt : ∀ x ∈ p0, x.block < W.heap.size := fun x hx => hW'.lt x (by simp [hx])
  clear hA0 hval0
  simp only [List.append_nil] at hW'
  refine (yields_any v0 B A c n many W hv hsrc hB (by omega) hBl).mono fun e W' ⟨he, hb⟩ => ?_
  subst he
  refine ⟨_, rfl, _, _, _, [], p0, [], hW', ?_, ?_, rfl, hb.frame _, fun h => by cases h⟩
  · exact trodAll_mk1 (shut_bool Try.underlying4 true)
  · have := trodAll_mk3 (Below.trod Try.laidOut (by kernel_rfl) (of_decide_eq_true (by kernel_rfl)) h0k hb hlt) (shut_int (w := W') (base := 0) (spare := fun b => decide (b < W.heap.size)) (held := true) (enc := enc) Try.underlying5 wp) (shut_int (w := W') (base := 0) (spare := fun b => decide (b < W.heap.size)) (held := true) (enc := enc) Try.underlying3 wm)
    rw [List.append_nil, List.append_nil] at this
    exact this

theorem bitsYields_holds : Rows.BitsYieldsSaid :=
  OpenClaim.holds_of_wide 5 Try.f5 rfl rfl rfl rfl rfl rfl rfl ⟨rfl, rfl, rfl, rfl, rfl⟩ rfl rfl rfl rfl rfl (by kernel_rfl) Try.func5 (by kernel_rfl)
    (of_decide_eq_true (by kernel_rfl)) (by unfold Func.isWrapper; first | (rw [if_pos (by decide +kernel)]; kernel_rfl) | (rw [if_neg (by decide +kernel)]; exact ⟨rfl, rfl⟩))
    (fun os started H enc _ => yields_lifted os started H enc)

#print axioms bitsYields_holds
end Go.Proofs.Ytboiiohpkoodpaa
