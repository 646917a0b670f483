/- The row of BitsReads: the bytes and the calls are opened, the walk ends in true, and what is read reads as it did. -/
import Derived.Test.YtboiiohpkoodpaaRows
import Derived.Test.YtboiiohpkoodpaaRs
namespace Go.Proofs.Ytboiiohpkoodpaa
open Go.ChangeShapes Go.WideShapes Go.ChangeAt Go.RowKit Go.Joins

theorem reads_any (A : Option Addr) (cb : Nat) (B : List Nat) (s : Value) (L : List ActD) (cp : Nat) (w : World) (hs : SrcAt w (.slice A B.length cb) B) (hB : ∀ x ∈ B, x < 256) (hBl : B.length ≤ 9223372036854775807) (ha : ActsAt w s L) (hl : L.length ≤ 9223372036854775807) (hcp : cp ≤ 255) :
    Calls Try.prog 4 #[.slice A B.length cb, s, .int .u8 cp] w fun e w' => e = .returned (.bool true) ∧ Below w.heap.size w w' := by
  obtain ⟨GA, c, rfl⟩ : ∃ GA c, s = .slice GA L.length c := by
    rcases ha with ⟨rfl, rfl⟩ | ⟨g, o, c, rfl, _⟩
    · exact ⟨none, 0, rfl⟩
    · exact ⟨_, _, rfl⟩
  by_cases h : 60 < L.length ∨ 100 < B.length
  · exact reads_not A B.length cb GA L.length c cp w hBl hl h
  · exact reads_fit A cb B GA c L cp w hs hB (by omega) ha (by omega) hcp

set_option maxRecDepth 100000 in
theorem reads_lifted (os : Os) (started : os.Started) (H : Type) (enc : TypeId × Value → H) :
    ReturnsInHanded {} Try.checked os 4 .any (Rows.bitsReadsSpec.pre6 enc Try.prog Try.f4 Rows.bitsReadsRow.domain false) (Rows.bitsReadsSpec.post enc Try.prog Try.f4 false true false false) := by
  refine returnsInHanded_of_change (C := Try.checked) Try.own started (by kernel_rfl) Try.func4
    (ChangeSpec.witness6 (enc := enc) (C := Try.checked) false ⟨#[], #[.slice none 0 0, .slice none 0 0, .int .u8 0], []⟩ 8 (by kernel_rfl) (by kernel_rfl) (by kernel_rfl) (by kernel_rfl)) ?_
  intro W base args ds gs before hval0 hW hcnd _
  have hval : ∀ (j : Nat) t v, Try.f4.params[j]? = some t → args[j]? = some v → Value.okWide Try.prog W .any base t v := hval0
  have hW' := hW
  obtain ⟨p, q, hA0, hV, rfl, hfz, hnd⟩ := hW
  have hA : DataW.TrodAll enc Try.prog W 0 (fun _ => true) true Try.f4.params.toList args.toList ds p := hA0
  rw [Try.params4] at hA hval
  obtain ⟨v0, v1, v2, d0, d1, d2, p0, p1, p2, rfl, rfl, rfl, h0, h1, h2⟩ := trodAll_three hA
  obtain ⟨rfl, rfl⟩ := trodVars_none hV
  have h0k := h0
  have h1k := h1
  obtain ⟨A, c, B, rfl, hsrc, hB, hBl⟩ := arg_src (hval 0 28 v0 rfl rfl) h0
  obtain ⟨L, hL, hLl⟩ := arg_acts (hval 1 22 v1 rfl rfl) h1
  obtain ⟨cp, rfl, rfl, rfl, wp⟩ := open_int Try.underlying5 (hval 2 5 v2 rfl rfl) h2
  have hcp : 0 ≤ cp ∧ cp ≤ 255 := by
    have hw := wp
    simp [Lit.wf] at hw
    have e1 : IntKind.u8.min = 0 := rfl
    have e2 : IntKind.u8.max = 255 := rfl
    omega
  obtain ⟨n, rfl⟩ := Int.eq_ofNat_of_zero_le hcp.1
  have hlt0 : ∀ x ∈ p0, x.block < W.heap.size := fun x hx => hW'.lt x (by simp [hx])
  have hlt1 : ∀ x ∈ p1, x.block < W.heap.size := fun x hx => hW'.lt x (by simp [hx])
  clear hA0 hval0
  simp only [List.append_nil] at hW'
  refine (reads_any A c B v1 L n W hsrc hB hBl hL hLl (by omega)).mono fun e W' ⟨he, hb⟩ => ?_
  subst he
  refine ⟨_, rfl, _, _, _, [], p0 ++ p1, [], hW', ?_, ?_, rfl, hb.frame _, fun h => by cases h⟩
  · exact trodAll_mk1 (shut_bool Try.underlying4 true)
  · have := trodAll_mk3 (Below.trod Try.laidOut (by kernel_rfl) (of_decide_eq_true (by kernel_rfl)) h0k hb hlt0) (Below.trod Try.laidOut (by kernel_rfl) (of_decide_eq_true (by kernel_rfl)) h1k hb hlt1) (shut_int (w := W') (base := 0) (spare := fun b => decide (b < W.heap.size)) (held := true) (enc := enc) Try.underlying5 wp)
    rw [List.append_nil] at this
    exact this

theorem bitsReads_holds : Rows.BitsReadsSaid :=
  OpenClaim.holds_of_wide 4 Try.f4 rfl rfl rfl rfl rfl rfl rfl ⟨rfl, rfl, rfl, rfl, rfl⟩ rfl rfl rfl rfl rfl (by kernel_rfl) Try.func4 (by kernel_rfl)
    (of_decide_eq_true (by kernel_rfl)) (by unfold Func.isWrapper; first | (rw [if_pos (by decide +kernel)]; kernel_rfl) | (rw [if_neg (by decide +kernel)]; exact ⟨rfl, rfl⟩))
    (fun os started H enc _ => reads_lifted os started H enc)

#print axioms bitsReads_holds
end Go.Proofs.Ytboiiohpkoodpaa
