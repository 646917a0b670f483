/- The row of SchemaEquals: both definitions are opened, the walk ends in true, and what it reads reads as it did. No conditions beyond the form's reach. -/
import Derived.Test.YtbpkppmbbpoohaaOz
import Derived.Test.YtbpkppmbbpoohaaXe
import Derived.Carry
namespace Go.Proofs.Ytbpkppmbbpoohaa
open Go.ChangeShapes Go.WideShapes Go.ChangeAt Go.RowKit Go.Joins Go.Deep

theorem Try.own : ownKnob Try.prog.godebug = none := by kernel_rfl
theorem Try.laidOut : laidOutB Try.prog = true := by kernel_rfl
theorem reach_le : reachBytes ≤ 140737488355328 := by decide
theorem hsz_of {D : List MsgD} (h : ∀ m ∈ D, MsgZ m) : HSZ D := fun i m hm => .inr (by
  have := (h m (List.mem_of_getElem? hm)).1
  have := reach_le
  omega)

set_option maxRecDepth 100000 in
theorem equals_lifted (os : Os) (started : os.Started) (H : Type) (enc : TypeId × Value → H) :
    ReturnsInHanded {} Try.checked os 7 .any (Rows.schemaEqualsSpec.pre6 enc Try.prog Try.f7 Rows.schemaEqualsRow.domain false) (Rows.schemaEqualsSpec.post enc Try.prog Try.f7 false true false false) := by
  refine returnsInHanded_of_change_sized (C := Try.checked) Try.own started (by kernel_rfl) Try.func7
    (ChangeSpec.witness6 (enc := enc) (C := Try.checked) false ⟨#[], #[.agg #[.string ⟨#[]⟩, .slice none 0 0, .string ⟨#[]⟩], .agg #[.string ⟨#[]⟩, .slice none 0 0, .string ⟨#[]⟩]], []⟩ 12 (by kernel_rfl) (by kernel_rfl) (by kernel_rfl) (by kernel_rfl)) ?_
  intro W base args ds gs before hval0 hW hcnd hz _
  have hval : ∀ (j : Nat) t v, Try.f7.params[j]? = some t → args[j]? = some v → Value.okWide Try.prog W .any base t v := hval0
  have hW' := hW
  obtain ⟨p, q, hA0, hV, rfl, hfz, hnd⟩ := hW
  have hA : DataW.TrodAll enc Try.prog W 0 (fun _ => true) true Try.f7.params.toList args.toList ds p := hA0
  have hz2 : (DataW.weightsEach Try.prog (Try.f7.params.toList ++ Rows.schemaEqualsSpec.plain.varTypes Try.prog) (ds ++ gs)).all (· ≤ reachBytes) = true := hz
  rw [Try.params7] at hA hval hz2
  obtain ⟨v0, v1, d0, d1, p0, p1, rfl, rfl, rfl, h0, h1⟩ := trodAll_two hA
  obtain ⟨rfl, rfl⟩ := trodVars_none hV
  have z0 : Wok 44 (d0, p0) := fun n hn => by
    have := List.all_eq_true.1 hz2 n (DataW.weights_mem_each (j := 0) rfl rfl n hn)
    simpa using this
  have z1 : Wok 44 (d1, p1) := fun n hn => by
    have := List.all_eq_true.1 hz2 n (DataW.weights_mem_each (j := 1) rfl rfl n hn)
    simpa using this
  have h0k := h0
  have h1k := h1
  obtain ⟨na, st, A, c, D, rfl, hD⟩ := arg_defz (hval 0 44 v0 rfl rfl) h0 z0
  obtain ⟨na2, st2, A2, c2, D2, rfl, hD2⟩ := arg_defz (hval 1 44 v1 rfl rfl) h1 z1
  have hlt0 : ∀ x ∈ p0, x.block < W.heap.size := fun x hx => hW'.lt x (by simp [hx])
  have hlt1 : ∀ x ∈ p1, x.block < W.heap.size := fun x hx => hW'.lt x (by simp [hx])
  clear hA0 hval0 hz hz2
  simp only [List.append_nil] at hW'
  refine (equalsLaw_walk na st na2 st2 A A2 c c2 D D2 _ W hD.1 hD2.1 (hsz_of hD.2) (hsz_of hD2.2) (fun m hm d hd c hc => Nat.le_trans ((hD.2 m hm).2 d hd c hc) reach_le)).mono fun e W' ⟨he, hb⟩ => ?_
  subst he
  refine ⟨_, rfl, _, _, _, [], p0 ++ p1, [], hW', ?_, ?_, rfl, hb.frame _, fun h => by cases h⟩
  · exact trodAll_mk1 (shut_bool Try.ob true)
  · exact trodAll_mk2 (Below.trod Try.laidOut (by kernel_rfl) (of_decide_eq_true (by kernel_rfl)) h0k hb hlt0) (Below.trod Try.laidOut (by kernel_rfl) (of_decide_eq_true (by kernel_rfl)) h1k hb hlt1)

theorem schemaEquals_holds : Rows.SchemaEqualsSaid :=
  OpenClaim.holds_of_wide 7 Try.f7 rfl rfl rfl rfl rfl rfl rfl ⟨rfl, rfl, rfl, rfl, rfl⟩ rfl rfl rfl rfl rfl (by kernel_rfl) Try.func7 (by kernel_rfl)
    (of_decide_eq_true (by kernel_rfl)) (by unfold Func.isWrapper; first | (rw [if_pos (by decide +kernel)]; kernel_rfl) | (rw [if_neg (by decide +kernel)]; exact ⟨rfl, rfl⟩))
    (fun os started H enc _ => equals_lifted os started H enc)

#print axioms schemaEquals_holds
end Go.Proofs.Ytbpkppmbbpoohaa
