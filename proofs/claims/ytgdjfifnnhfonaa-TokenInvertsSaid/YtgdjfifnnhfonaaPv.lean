/- The row of TokenInverts: the text and the bytes are opened, the walk ends in true, and what it reads reads as it did. -/
import Derived.Test.YtgdjfifnnhfonaaOj
import Derived.Test.YtgdjfifnnhfonaaIc
import Derived.Test.YtgdjfifnnhfonaaIe
namespace Go.Proofs.Ytgdjfifnnhfonaa
open Go.ChangeShapes Go.WideShapes Go.ChangeAt Go.RowKit Go.Joins

theorem Try.own : ownKnob Try.prog.godebug = none := by kernel_rfl
theorem Try.laidOut : laidOutB Try.prog = true := by kernel_rfl
theorem Try.underlying4' : Try.prog.underlying 4 = some .bool := by kernel_rfl
theorem Try.underlying9' : Try.prog.underlying 9 = some .string := by kernel_rfl
theorem Try.cells5 : Try.prog.cellsOf 5 = 1 := by kernel_rfl

set_option maxRecDepth 100000 in
/-- A slice of bytes as an argument. -/
theorem arg_bytes {H : Type} {enc : TypeId × Value → H} {W : World} {base : Nat} {v1 : Value} {d1 : DataW H} {p1 : List MemPlace} (hval : Value.okWide Try.prog W .any base 65 v1) (h1 : DataW.Trod enc Try.prog W 0 (fun _ => true) true 65 v1 d1 p1) :
    ∃ B, BAt W v1 B := by
  obtain ⟨a1, len, cap, rfl⟩ := okWide_slice Try.underlying65 hval
  obtain ⟨fuel, hf⟩ := h1
  rcases open_ints Try.underlying65 Try.underlying5 Try.cells5 hf with ⟨hcs, hx⟩ | ⟨a, len', cap', zs, hcs, _, hl, hm, hz, hx, hcell, hwz⟩
  · simp [Value.cells] at hcs
    obtain ⟨rfl, rfl, rfl⟩ := hcs
    exact ⟨[], none, 0, rfl, by simp, by simp, by omega, by simp, fun j y hy => by simp at hy⟩
  · simp [Value.cells] at hcs
    obtain ⟨rfl, rfl, rfl⟩ := hcs
    simp only [if_true] at hz
    obtain ⟨g, o, sp⟩ := a
    have hsp : sp = none := by
      simp only [Value.okWide, Try.underlying65, Cell.okWide, Cell.ok] at hval
      obtain ⟨_, _, _, hspot, row, cells, hs, _⟩ := hval
      exact hspot
    subst hsp
    have h0 : ∀ n ∈ zs, 0 ≤ n ∧ n ≤ 255 := fun n hn => by
      have := hwz n hn
      simp [Lit.wf] at this
      have e1 : IntKind.u8.min = 0 := rfl
      have e2 : IntKind.u8.max = 255 := rfl
      omega
    have hlen : ((zs.take len).map Int.toNat).length = len := by simp; omega
    have hcm : cap ≤ 9223372036854775807 := hm
    refine ⟨(zs.take len).map Int.toNat, some ⟨g, o, none⟩, cap, by rw [hlen], by rw [hlen]; omega, by rw [hlen]; exact hl, hcm, ?_, ?_⟩
    · intro x hx
      simp only [List.mem_map] at hx
      obtain ⟨n, hn, rfl⟩ := hx
      have := h0 n (List.mem_of_mem_take hn)
      omega
    · intro j y hy
      refine ⟨g, o, rfl, ?_⟩
      have hj : j < len := by
        have := (List.getElem?_eq_some_iff.1 hy).1
        rwa [hlen] at this
      have hjz : j < zs.length := by omega
      have hn := h0 zs[j] (List.getElem_mem _)
      have hc := hcell j hjz
      rw [add_at] at hc
      rw [hc]
      simp [hj, hjz] at hy
      rw [List.getD_eq_getElem?_getD, List.getElem?_eq_getElem hjz, ← hy]
      simp
      omega

set_option maxRecDepth 100000 in
set_option maxHeartbeats 1600000 in
theorem inverts_walk (l : List UInt8) (v : Value) (B : List Nat) (w : World) (hv : BAt w v B) (hl : l.length ≤ 9223372036854775807) :
    Calls Try.prog 6 #[.string (strL l), v] w fun e w' => e = .returned (.bool true) ∧ Below w.heap.size w w' := by
  by_cases h5 : 500 < l.length
  · have hs : (strL l).size = l.length := strL_size l
    clear hv
    go_enter Try.func6, Try.ntmps6
    go_wp2_with fail
    refine (known_any _).mono ?_
    rintro e w2 ⟨rfl, hb2⟩
    have HB2 := Lib.hid hb2
    clear hb2
    go_wp2_with fail
    go_ret
    exact ⟨rfl, HB2.out⟩
  · cases hR : scanS l with
    | bad q c => exact inverts_bad l v w (by omega) q c hR
    | ok ts q => exact inverts_ok l v B w (by omega) hv q ts hR

set_option maxRecDepth 100000 in
theorem inverts_lifted (os : Os) (started : os.Started) (H : Type) (enc : TypeId × Value → H) :
    ReturnsInHanded {} Try.checked os 6 .any (Rows.tokenInvertsSpec.pre6 enc Try.prog Try.f6 Rows.tokenInvertsRow.domain false) (Rows.tokenInvertsSpec.post enc Try.prog Try.f6 false true false false) := by
  refine returnsInHanded_of_change (C := Try.checked) Try.own started (by kernel_rfl) Try.func6
    (ChangeSpec.witness6 (enc := enc) (C := Try.checked) false ⟨#[], #[.string ⟨#[]⟩, .slice none 0 0], [] ⟩ 7 (by kernel_rfl) (by kernel_rfl) (by kernel_rfl) (by kernel_rfl)) ?_
  intro W base args ds gs before hval0 hW hcnd _
  have hval : ∀ (j : Nat) t v, Try.f6.params[j]? = some t → args[j]? = some v → Value.okWide Try.prog W .any base t v := hval0
  have hW' := hW
  obtain ⟨p, q, hA0, hV, rfl, hfz, hnd⟩ := hW
  have hA : DataW.TrodAll enc Try.prog W 0 (fun _ => true) true Try.f6.params.toList args.toList ds p := hA0
  rw [Try.params6] at hA hval
  obtain ⟨v0, v1, d0, d1, p0, p1, rfl, rfl, rfl, h0, h1⟩ := trodAll_two hA
  obtain ⟨rfl, rfl⟩ := trodVars_none hV
  have h0k := h0
  have h1k := h1
  obtain ⟨s, rfl, _, _, hs⟩ := Go.ChangeMaps.open_string Try.underlying9' (hval 0 9 v0 rfl rfl) h0
  obtain ⟨B, hB⟩ := arg_bytes (hval 1 65 v1 rfl rfl) h1
  have hlt0 : ∀ x ∈ p0, x.block < W.heap.size := fun x hx => hW'.lt x (by simp [hx])
  have hlt : ∀ x ∈ p1, x.block < W.heap.size := fun x hx => hW'.lt x (by simp [hx])
  clear hA0 hval0
  simp only [List.append_nil] at hW'
  have hwalk := inverts_walk s.data.toList v1 B W hB (by have h : s.size ≤ maxLen := hs; unfold maxLen at h; simpa using h)
  rw [strL_of] at hwalk
  refine hwalk.mono fun e W' ⟨he, hb⟩ => ?_
  subst he
  refine ⟨_, rfl, _, _, _, [], p0 ++ p1, [], hW', ?_, ?_, rfl, hb.frame _, fun h => by cases h⟩
  · exact trodAll_mk1 (shut_bool Try.underlying4' true)
  · exact trodAll_mk2 (Below.trod Try.laidOut (by kernel_rfl) (of_decide_eq_true (by kernel_rfl)) h0k hb hlt0) (Below.trod Try.laidOut (by kernel_rfl) (of_decide_eq_true (by kernel_rfl)) h1k hb hlt)

theorem tokenInverts_holds : Rows.TokenInvertsSaid :=
  OpenClaim.holds_of_wide 6 Try.f6 rfl rfl rfl rfl rfl rfl rfl ⟨rfl, rfl, rfl, rfl, rfl⟩ rfl rfl rfl rfl rfl (by kernel_rfl) Try.func6 (by kernel_rfl)
    (of_decide_eq_true (by kernel_rfl)) (by unfold Func.isWrapper; first | (rw [if_pos (by decide +kernel)]; kernel_rfl) | (rw [if_neg (by decide +kernel)]; exact ⟨rfl, rfl⟩))
    (fun os started H enc _ => inverts_lifted os started H enc)

#print axioms tokenInverts_holds
end Go.Proofs.Ytgdjfifnnhfonaa
