/- The row of SchemaGrows: the definition is opened, the walk ends in true, and what it reads reads as it did. No conditions beyond the form's reach. -/
import Derived.Test.YtbpkppmbbpoohaaOz
import Derived.Test.YtbpkppmbbpoohaaYb
import Derived.Carry
namespace Go.Proofs.Ytbpkppmbbpoohaa
open Go.ChangeShapes Go.WideShapes Go.ChangeAt Go.RowKit Go.Joins Go.Deep

theorem Try.own : ownKnob Try.prog.godebug = none := by kernel_rfl
theorem Try.laidOut : laidOutB Try.prog = true := by kernel_rfl
theorem Try.ou8 : Try.prog.underlying 5 = some (.int .u8) := by kernel_rfl
theorem reach_le : reachBytes ≤ 140737488355328 := by decide
theorem hsz_of {D : List MsgD} (h : ∀ m ∈ D, MsgZ m) : HSZ D := fun i m hm => .inr (by
  have := (h m (List.mem_of_getElem? hm)).1
  have := reach_le
  omega)

set_option maxRecDepth 100000 in
theorem grows_lifted (os : Os) (started : os.Started) (H : Type) (enc : TypeId × Value → H) :
    ReturnsInHanded {} Try.checked os 8 .any (Rows.schemaGrowsSpec.pre6 enc Try.prog Try.f8 Rows.schemaGrowsRow.domain false) (Rows.schemaGrowsSpec.post enc Try.prog Try.f8 false true false false) := by
  refine returnsInHanded_of_change_sized (C := Try.checked) Try.own started (by kernel_rfl) Try.func8
    (ChangeSpec.witness6 (enc := enc) (C := Try.checked) false ⟨#[], #[.agg #[.string ⟨#[]⟩, .slice none 0 0, .string ⟨#[]⟩], .int .u8 0, .string ⟨#[]⟩], []⟩ 12 (by kernel_rfl) (by kernel_rfl) (by kernel_rfl) (by kernel_rfl)) ?_
  intro W base args ds gs before hval0 hW hcnd hz _
  have hval : ∀ (j : Nat) t v, Try.f8.params[j]? = some t → args[j]? = some v → Value.okWide Try.prog W .any base t v := hval0
  have hW' := hW
  obtain ⟨p, q, hA0, hV, rfl, hfz, hnd⟩ := hW
  have hA : DataW.TrodAll enc Try.prog W 0 (fun _ => true) true Try.f8.params.toList args.toList ds p := hA0
  have hz2 : (DataW.weightsEach Try.prog (Try.f8.params.toList ++ Rows.schemaGrowsSpec.plain.varTypes Try.prog) (ds ++ gs)).all (· ≤ reachBytes) = true := hz
  rw [Try.params8] at hA hval hz2
  obtain ⟨v0, v1, v2, d0, d1, d2, p0, p1, p2, rfl, rfl, rfl, h0, h1, h2⟩ := trodAll_three hA
  obtain ⟨rfl, rfl⟩ := trodVars_none hV
  have z0 : Wok 44 (d0, p0) := fun n hn => by
    have := List.all_eq_true.1 hz2 n (DataW.weights_mem_each (j := 0) rfl rfl n hn)
    simpa using this
  have h0k := h0
  have h1k := h1
  have h2k := h2
  obtain ⟨na, st, A, c, D, rfl, hD⟩ := arg_defz (hval 0 44 v0 rfl rfl) h0 z0
  obtain ⟨x, rfl, _, _, wk⟩ := open_int Try.ou8 (hval 1 5 v1 rfl rfl) h1
  obtain ⟨s, rfl, _, _, _⟩ := Go.ChangeMaps.open_string Try.os (hval 2 9 v2 rfl rfl) h2
  have hx : 0 ≤ x ∧ x ≤ 255 := by
    simp [Lit.wf] at wk
    have e1 : IntKind.u8.min = 0 := rfl
    have e2 : IntKind.u8.max = 255 := rfl
    omega
  obtain ⟨a, rfl⟩ := Int.eq_ofNat_of_zero_le hx.1
  have hlt0 : ∀ x ∈ p0, x.block < W.heap.size := fun x hx => hW'.lt x (by simp [hx])
  have hlt1 : ∀ x ∈ p1, x.block < W.heap.size := fun x hx => hW'.lt x (by simp [hx])
  have hlt2 : ∀ x ∈ p2, x.block < W.heap.size := fun x hx => hW'.lt x (by simp [hx])
  clear hA0 hval0 hz hz2
  simp only [List.append_nil] at hW'
  have hwalk := growsLaw_walk na st s.data.toList A c a (by omega) D _ W hD.1 (hsz_of hD.2)
  rw [strL_of] at hwalk
  refine hwalk.mono fun e W' ⟨he, hb⟩ => ?_
  subst he
  refine ⟨_, rfl, _, _, _, [], p0 ++ (p1 ++ p2), [], hW', ?_, ?_, rfl, hb.frame _, fun h => by cases h⟩
  · exact trodAll_mk1 (shut_bool Try.ob true)
  · exact trodAll_mk3 (Below.trod Try.laidOut (by kernel_rfl) (of_decide_eq_true (by kernel_rfl)) h0k hb hlt0) (Below.trod Try.laidOut (by kernel_rfl) (of_decide_eq_true (by kernel_rfl)) h1k hb hlt1) (Below.trod Try.laidOut (by kernel_rfl) (of_decide_eq_true (by kernel_rfl)) h2k hb hlt2)

theorem schemaGrows_holds : Rows.SchemaGrowsSaid :=
  OpenClaim.holds_of_wide 8 Try.f8 rfl rfl rfl rfl rfl rfl rfl ⟨rfl, rfl, rfl, rfl, rfl⟩ rfl rfl rfl rfl rfl (by kernel_rfl) Try.func8 (by kernel_rfl)
    (of_decide_eq_true (by kernel_rfl)) (by unfold Func.isWrapper; first | (rw [if_pos (by decide +kernel)]; kernel_rfl) | (rw [if_neg (by decide +kernel)]; exact ⟨rfl, rfl⟩))
    (fun os started H enc _ => grows_lifted os started H enc)

#print axioms schemaGrows_holds
end Go.Proofs.Ytbpkppmbbpoohaa
