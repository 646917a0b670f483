/- The row of TokenReads: the text and the calls are opened, the walk ends in true, and what it reads reads as it did. -/
import Derived.Test.YtgdjfifnnhfonaaOj
import Derived.Test.YtgdjfifnnhfonaaMi
namespace Go.Proofs.Ytgdjfifnnhfonaa
open Go.ChangeShapes Go.WideShapes Go.ChangeAt Go.RowKit Go.Joins Go.Deep

theorem Try.own : ownKnob Try.prog.godebug = none := by kernel_rfl
theorem Try.laidOut : laidOutB Try.prog = true := by kernel_rfl
theorem Try.underlying4' : Try.prog.underlying 4 = some .bool := by kernel_rfl
theorem Try.underlying9' : Try.prog.underlying 9 = some .string := by kernel_rfl
theorem Try.cells5 : Try.prog.cellsOf 5 = 1 := by kernel_rfl
theorem Try.cells53 : Try.prog.cellsOf 53 = 2 := by kernel_rfl
theorem ones53 : ∃ f0 f1 : Field, Try.prog.underlying 53 = some (.struct #[f0, f1]) ∧ f0.offset = 0 ∧ f1.offset = 1 ∧ f0.type = 5 ∧ f1.type = 9 := ⟨_, _, Try.underlying53, rfl, rfl, rfl, rfl⟩

instance : Inhabited TAct := ⟨⟨0, []⟩⟩

set_option maxRecDepth 100000 in
/-- The cells of a call, opened. -/
theorem act_open {H : Type} {enc : TypeId × Value → H} {W : World} {n : Nat} {cs : List Value} {y : DataW H × List MemPlace} (h : DataW.trod enc Try.prog W 0 (fun _ => true) true n 53 cs = some y) :
    ∃ d : TAct, cs = [.int .u8 d.kd, .string (strL d.t)] ∧ d.kd ≤ 255 := by
  obtain ⟨f0, f1, hu, o0, o1, t0, t1⟩ := ones53
  obtain ⟨y0, y1, n', _, hlen, h0, h1⟩ := trod_struct2 hu h
  rw [Try.cells53] at hlen
  obtain ⟨c0, c1, rfl⟩ := list2 hlen
  rw [o0, t0, Try.cells5] at h0
  rw [o1, t1, Try.cells9] at h1
  simp at h0 h1
  obtain ⟨k, e0, _, wk⟩ := DataW.trod_int Try.underlying5 h0
  obtain ⟨s, e1, _, _⟩ := DataW.trod_string Try.underlying9 h1
  simp at e0 e1
  subst e0 e1
  have hk : 0 ≤ k ∧ k ≤ 255 := by
    simp [Lit.wf] at wk
    have e1 : IntKind.u8.min = 0 := rfl
    have e2 : IntKind.u8.max = 255 := rfl
    omega
  obtain ⟨k', rfl⟩ := Int.eq_ofNat_of_zero_le hk.1
  exact ⟨⟨k', s.data.toList⟩, by rw [strL_of], by show k' ≤ 255; omega⟩

set_option maxRecDepth 100000 in
/-- A slice of calls as an argument. -/
theorem arg_acts {H : Type} {enc : TypeId × Value → H} {W : World} {base : Nat} {v1 : Value} {d1 : DataW H} {p1 : List MemPlace} (hval : Value.okWide Try.prog W .any base 48 v1) (h1 : DataW.Trod enc Try.prog W 0 (fun _ => true) true 48 v1 d1 p1) :
    ∃ L, TActsAt W v1 L := by
  obtain ⟨a1, len, cap, rfl⟩ := okWide_slice Try.underlying48 hval
  obtain ⟨fuel, hf⟩ := h1
  rcases open_slice Try.underlying48 hf with ⟨hcs, hx⟩ | ⟨a, len', cap', m, n, D, Pl, hcs, _, hl, hm, hmm, _, hx⟩
  · simp [Value.cells] at hcs
    obtain ⟨rfl, rfl, rfl⟩ := hcs
    exact ⟨[], none, 0, rfl, by simp, by omega, fun i d hi => by simp at hi⟩
  · simp [Value.cells] at hcs
    obtain ⟨rfl, rfl, rfl⟩ := hcs
    simp only [if_true] at hmm
    obtain ⟨g, o, sp⟩ := a
    have hsp : sp = none := by
      simp only [Value.okWide, Try.underlying48, Cell.okWide, Cell.ok] at hval
      obtain ⟨_, _, _, hspot, row, cells, hs, _⟩ := hval
      exact hspot
    subst hsp
    rw [Try.cells53] at hx
    obtain ⟨f, hfl⟩ := choose_lt (α := TAct) (n := m) (p := fun i d => d.kd ≤ 255 ∧ W.cell? ⟨g, o + i * 2, none⟩ = some (.int .u8 d.kd) ∧ W.cell? ⟨g, o + i * 2 + 1, none⟩ = some (.string (strL d.t))) (fun i hi => by
      obtain ⟨cs', hc1, hc2⟩ := hx i hi
      obtain ⟨_, _, hcc⟩ := World.cells?_some hc1
      obtain ⟨d, rfl, hk⟩ := act_open hc2
      refine ⟨d, hk, ?_, ?_⟩
      · have := hcc 0 (by omega)
        rw [add_at, add_at] at this
        simpa using this
      · have := hcc 1 (by omega)
        rw [add_at, add_at] at this
        simpa using this)
    have hmL : cap ≤ 9223372036854775807 := hm
    refine ⟨(List.range len).map f, some ⟨g, o, none⟩, cap, by simp, by simpa using hl, hmL, fun i d hi => ?_⟩
    have hil : i < len := by
      have := (List.getElem?_eq_some_iff.1 hi).1
      simpa using this
    simp [hil] at hi
    subst hi
    obtain ⟨k1, k2, k3⟩ := hfl i (by omega)
    exact ⟨k1, g, o, rfl, k2, k3⟩

set_option maxRecDepth 100000 in
theorem reads_lifted (os : Os) (started : os.Started) (H : Type) (enc : TypeId × Value → H) :
    ReturnsInHanded {} Try.checked os 5 .any (Rows.tokenReadsSpec.pre6 enc Try.prog Try.f5 Rows.tokenReadsRow.domain false) (Rows.tokenReadsSpec.post enc Try.prog Try.f5 false true false false) := by
  refine returnsInHanded_of_change (C := Try.checked) Try.own started (by kernel_rfl) Try.func5
    (ChangeSpec.witness6 (enc := enc) (C := Try.checked) false ⟨#[], #[.string ⟨#[]⟩, .slice none 0 0], [] ⟩ 7 (by kernel_rfl) (by kernel_rfl) (by kernel_rfl) (by kernel_rfl)) ?_
  intro W base args ds gs before hval0 hW hcnd _
  have hval : ∀ (j : Nat) t v, Try.f5.params[j]? = some t → args[j]? = some v → Value.okWide Try.prog W .any base t v := hval0
  have hW' := hW
  obtain ⟨p, q, hA0, hV, rfl, hfz, hnd⟩ := hW
  have hA : DataW.TrodAll enc Try.prog W 0 (fun _ => true) true Try.f5.params.toList args.toList ds p := hA0
  rw [Try.params5] at hA hval
  obtain ⟨v0, v1, d0, d1, p0, p1, rfl, rfl, rfl, h0, h1⟩ := trodAll_two hA
  obtain ⟨rfl, rfl⟩ := trodVars_none hV
  have h0k := h0
  have h1k := h1
  obtain ⟨s, rfl, _, _, hs⟩ := Go.ChangeMaps.open_string Try.underlying9' (hval 0 9 v0 rfl rfl) h0
  obtain ⟨L, hL⟩ := arg_acts (hval 1 48 v1 rfl rfl) h1
  have hlt0 : ∀ x ∈ p0, x.block < W.heap.size := fun x hx => hW'.lt x (by simp [hx])
  have hlt : ∀ x ∈ p1, x.block < W.heap.size := fun x hx => hW'.lt x (by simp [hx])
  clear hA0 hval0
  simp only [List.append_nil] at hW'
  have hwalk := reads_walk s.data.toList v1 L W hL
  rw [strL_of] at hwalk
  refine hwalk.mono fun e W' ⟨he, hb⟩ => ?_
  subst he
  refine ⟨_, rfl, _, _, _, [], p0 ++ p1, [], hW', ?_, ?_, rfl, hb.frame _, fun h => by cases h⟩
  · exact trodAll_mk1 (shut_bool Try.underlying4' true)
  · exact trodAll_mk2 (Below.trod Try.laidOut (by kernel_rfl) (of_decide_eq_true (by kernel_rfl)) h0k hb hlt0) (Below.trod Try.laidOut (by kernel_rfl) (of_decide_eq_true (by kernel_rfl)) h1k hb hlt)

theorem tokenReads_holds : Rows.TokenReadsSaid :=
  OpenClaim.holds_of_wide 5 Try.f5 rfl rfl rfl rfl rfl rfl rfl ⟨rfl, rfl, rfl, rfl, rfl⟩ rfl rfl rfl rfl rfl (by kernel_rfl) Try.func5 (by kernel_rfl)
    (of_decide_eq_true (by kernel_rfl)) (by unfold Func.isWrapper; first | (rw [if_pos (by decide +kernel)]; kernel_rfl) | (rw [if_neg (by decide +kernel)]; exact ⟨rfl, rfl⟩))
    (fun os started H enc _ => reads_lifted os started H enc)

#print axioms tokenReads_holds
end Go.Proofs.Ytgdjfifnnhfonaa
