/- The row of SourceCuts: the three slices of bytes are opened, the walk ends in true, and what it reads reads as it did. -/
import Derived.Test.YtociidinfdbaeaaCv
import Derived.Test.YtociidinfdbaeaaPa
namespace Go.Proofs.Ytociidinfdbaeaa
open Go.ChangeShapes Go.WideShapes Go.ChangeAt Go.RowKit Go.Joins Go.Shelf

set_option maxRecDepth 100000 in
set_option maxHeartbeats 1000000 in
theorem cuts_long (A0 A1 A2 : Option Addr) (n0 n1 n2 c0 c1 c2 : Nat) (w : World) (h : 500 < n0 ∨ 500 < n1 ∨ 500 < n2) :
    Calls Try.prog 6 #[.slice A0 n0 c0, .slice A1 n1 c1, .slice A2 n2 c2] w fun e w' => e = .returned (.bool true) ∧ Below w.heap.size w w' := by
  by_cases h0 : 500 < n0
  · clear h
    go_enter Try.func6, Try.ntmps6
    go_wp2_with fail
    refine (known_any _).mono ?_
    rintro e w' ⟨rfl, hb⟩
    go_wp2
    go_ret
    exact ⟨rfl, hb⟩
  · by_cases h1 : 500 < n1
    · clear h
      go_enter Try.func6, Try.ntmps6
      go_wp2_with fail
      refine (known_any _).mono ?_
      rintro e w' ⟨rfl, hb⟩
      go_wp2
      go_ret
      exact ⟨rfl, hb⟩
    · have h2 : 500 < n2 := by omega
      clear h
      go_enter Try.func6, Try.ntmps6
      go_wp2_with fail
      refine (known_any _).mono ?_
      rintro e w' ⟨rfl, hb⟩
      go_wp2
      go_ret
      exact ⟨rfl, hb⟩

theorem cuts_any (s0 s1 s2 : Value) (A0 A1 A2 : Option Addr) (A Ch Q : List Nat) (c0 c1 c2 : Nat) (w : World) (e0 : s0 = .slice A0 A.length c0) (e1 : s1 = .slice A1 Ch.length c1) (e2 : s2 = .slice A2 Q.length c2)
    (h0 : SrcAt w s0 A) (h1 : SrcAt w s1 Ch) (h2 : SrcAt w s2 Q) (hc0 : A.length ≤ c0) (b0 : ∀ y ∈ A, y < 256) (b1 : ∀ y ∈ Ch, y < 256) (b2 : ∀ y ∈ Q, y < 256) :
    Calls Try.prog 6 #[s0, s1, s2] w fun e w' => e = .returned (.bool true) ∧ Below w.heap.size w w' := by
  subst e0 e1 e2
  by_cases h : 500 < A.length ∨ 500 < Ch.length ∨ 500 < Q.length
  · exact cuts_long A0 A1 A2 _ _ _ c0 c1 c2 w h
  · exact cuts_short A0 A1 A2 A Ch Q c0 c1 c2 w (by omega) (by omega) (by omega) h0 h1 h2 hc0 b0 b1 b2

set_option maxRecDepth 100000 in
theorem cuts_lifted (os : Os) (started : os.Started) (H : Type) (enc : TypeId × Value → H) :
    ReturnsInHanded {} Try.checked os 6 .any (Rows.sourceCutsSpec.pre6 enc Try.prog Try.f6 Rows.sourceCutsRow.domain false) (Rows.sourceCutsSpec.post enc Try.prog Try.f6 false true false false) := by
  refine returnsInHanded_of_change (C := Try.checked) Try.own started (by kernel_rfl) Try.func6
    (ChangeSpec.witness6 (enc := enc) (C := Try.checked) false ⟨#[], #[.slice none 0 0, .slice none 0 0, .slice none 0 0], []⟩ 8 (by kernel_rfl) (by kernel_rfl) (by kernel_rfl) (by kernel_rfl)) ?_
  intro W base args ds gs before hval0 hW hcnd _
  have hval : ∀ (j : Nat) t v, Try.f6.params[j]? = some t → args[j]? = some v → Value.okWide Try.prog W .any base t v := hval0
  have hW' := hW
  obtain ⟨p, q, hA0, hV, rfl, hfz, hnd⟩ := hW
  have hA : DataW.TrodAll enc Try.prog W 0 (fun _ => true) true Try.f6.params.toList args.toList ds p := hA0
  rw [Try.params6] at hA hval
  obtain ⟨v0, v1, v2, d0, d1, d2, p0, p1, p2, rfl, rfl, rfl, h0, h1, h2⟩ := trodAll_three hA
  obtain ⟨rfl, rfl⟩ := trodVars_none hV
  have h0k := h0
  have h1k := h1
  have h2k := h2
  obtain ⟨A0, c0, A, e0, s0, b0, hc0, _⟩ := arg_src (hval 0 29 v0 rfl rfl) h0
  obtain ⟨A1, c1, Ch, e1, s1, b1, _, _⟩ := arg_src (hval 1 29 v1 rfl rfl) h1
  obtain ⟨A2, c2, Q, e2, s2, b2, _, _⟩ := arg_src (hval 2 29 v2 rfl rfl) h2
  have hlt0 : ∀ x ∈ p0, x.block < W.heap.size := fun x hx => hW'.lt x (by simp [hx])
  have hlt1 : ∀ x ∈ p1, x.block < W.heap.size := fun x hx => hW'.lt x (by simp [hx])
  have hlt2 : ∀ x ∈ p2, x.block < W.heap.size := fun x hx => hW'.lt x (by simp [hx])
  clear hA0 hval0
  simp only [List.append_nil] at hW'
  refine (cuts_any v0 v1 v2 A0 A1 A2 A Ch Q c0 c1 c2 W e0 e1 e2 s0 s1 s2 hc0 b0 b1 b2).mono fun e W' ⟨he, hb⟩ => ?_
  subst he
  rw [List.append_assoc] at hW'
  refine ⟨_, rfl, _, _, _, [], p0 ++ (p1 ++ p2), [], hW', ?_, ?_, rfl, hb.frame _, fun h => by cases h⟩
  · exact trodAll_mk1 (shut_bool Try.underlying4 true)
  · exact trodAll_mk3 (Below.trod Try.laidOut (by kernel_rfl) (of_decide_eq_true (by kernel_rfl)) h0k hb hlt0) (Below.trod Try.laidOut (by kernel_rfl) (of_decide_eq_true (by kernel_rfl)) h1k hb hlt1) (Below.trod Try.laidOut (by kernel_rfl) (of_decide_eq_true (by kernel_rfl)) h2k hb hlt2)

theorem sourceCuts_holds : Rows.SourceCutsSaid :=
  OpenClaim.holds_of_wide 6 Try.f6 rfl rfl rfl rfl rfl rfl rfl ⟨rfl, rfl, rfl, rfl, rfl⟩ rfl rfl rfl rfl rfl (by kernel_rfl) Try.func6 (by kernel_rfl)
    (of_decide_eq_true (by kernel_rfl)) (by unfold Func.isWrapper; first | (rw [if_pos (by decide +kernel)]; kernel_rfl) | (rw [if_neg (by decide +kernel)]; exact ⟨rfl, rfl⟩))
    (fun os started H enc _ => cuts_lifted os started H enc)

#print axioms sourceCuts_holds
end Go.Proofs.Ytociidinfdbaeaa
