/- The walk of SchemaDepths. Conditions: the definition lies in memory. The row of SchemaDepths: the definition is opened, the walk ends in true, and what it reads reads as it did. -/
import Derived.Test.YtbpkppmbbpoohaaJk
import Derived.Test.YtbpkppmbbpoohaaKb
import Derived.Test.YtbpkppmbbpoohaaGa
import Derived.Carry
namespace Go.Proofs.Ytbpkppmbbpoohaa
open Go.RowKit Go.Shelf

set_option maxRecDepth 100000 in
set_option maxHeartbeats 12800000 in
theorem depthsLaw_walk (na st : List UInt8) (A : Option Addr) (c : Nat) (mi : Int) (D : List MsgD) (S : Nat → Prop) (w : World) (hD : MsgsAt S w A c D) (hS : ∀ k, w.heap.size ≤ k → S k) :
    Calls Try.prog 6 #[.agg #[.string (strL na), .slice A D.length c, .string (strL st)], .int .i64 mi] w fun e w' => e = .returned (.bool true) ∧ Below w.heap.size w w' := by
  have hdl : D.length ≤ 9223372036854775807 := Nat.le_trans hD.1.1 hD.1.2.1
  have hb1 := below_alloc w (.cells #[.string (strL na), .slice A D.length c, .string (strL st)] 44)
  have x1 : (w.alloc (.cells #[.string (strL na), .slice A D.length c, .string (strL st)] 44)).heap[w.heap.size]? = some (.cells #[.string (strL na), .slice A D.length c, .string (strL st)] 44 (0, 0)) := heap_alloc_new w _
  obtain ⟨b, eb⟩ : ∃ b, w.heap.size = b := ⟨_, rfl⟩
  obtain ⟨w1, hw1⟩ : ∃ w1, w.alloc (.cells #[.string (strL na), .slice A D.length c, .string (strL st)] 44) = w1 := ⟨_, rfl⟩
  rw [hw1] at hb1 x1
  have hS1 : ∀ wx : World, Below w1.heap.size w1 wx → ∀ k, wx.heap.size ≤ k → S k := fun wx hb k hk => hS k (by have := hb1.size; have := hb.size; omega)
  rw [eb] at x1
  have KD : Hid (∀ wx, Below w1.heap.size w1 wx → wx.cell? ⟨b, 0, none⟩ = some (.string (strL na)) ∧ wx.cell? ⟨b, 1, none⟩ = some (.slice A D.length c) ∧ wx.cell? ⟨b, 2, none⟩ = some (.string (strL st))) := Lib.hid (fun wx hb => by
    have h1 := (hb.block b (Array.getElem?_eq_some_iff.1 x1).1).trans x1
    exact ⟨by simp [World.cell?, h1], by simp [World.cell?, h1], by simp [World.cell?, h1]⟩)
  have K1 : Hid (∀ wx, Below w1.heap.size w1 wx → MsgsAt S wx A c D) := Lib.hid (fun wx hb => MsgsAt.rest hD (Rest.below (S := fun _ => False) (hb1.trans (hb.mono hb1.size))) (fun _ _ e => e.elim))
  have HKN : ∀ wx, Hid (Calls Try.prog 9 #[] wx fun e w' => e = .returned (.bool true) ∧ Below wx.heap.size wx w') := fun wx => Lib.hid (known_any wx)
  obtain ⟨r, hr⟩ : ∃ r, defAllR na st D = r := ⟨_, rfl⟩
  obtain ⟨⟨⟨zn, zs⟩, ze⟩, hzz⟩ : ∃ z, natInR r (defE D) D mi = z := ⟨_, rfl⟩
  have HDP : Hid (∀ wx, Below w1.heap.size w1 wx → Calls Try.prog 27 #[.agg #[.string (strL na), .slice A D.length c, .string (strL st)], .int .i64 mi] wx fun e w' => e = .returned (.tuple #[.int .i64 zn, .int .i64 ze]) ∧ Below wx.heap.size wx w') := Lib.hid (fun wx hb => by
    have := depth_all na st A c D S mi wx (K1.out wx hb) (hS1 wx hb)
    rwa [hr, hzz] at this)
  have HST : Hid (∀ wx, Below w1.heap.size w1 wx → Calls Try.prog 28 #[.agg #[.string (strL na), .slice A D.length c, .string (strL st)], .int .i64 mi] wx fun e w' => e = .returned (.tuple #[.bool zs, .int .i64 ze]) ∧ Below wx.heap.size wx w') := Lib.hid (fun wx hb => by
    have := strict_all na st A c D S mi wx (K1.out wx hb) (hS1 wx hb)
    rwa [hr, hzz] at this)
  have HVL : Hid (∀ wx, Below w1.heap.size w1 wx → Calls Try.prog 29 #[.agg #[.string (strL na), .slice A D.length c, .string (strL st)]] wx fun e w' => e = .returned (.bool (!r.isSome)) ∧ Below wx.heap.size wx w') := Lib.hid (fun wx hb => by
    have := refValid na st A c D S wx (K1.out wx hb)
    rwa [hr] at this)
  have HRR := Lib.hid hr
  have HZZ := Lib.hid hzz
  have HW := Lib.hid hw1
  have EB := Lib.hid eb
  have HB1 := Lib.hid hb1
  have HF1 := Lib.hid (fits_any na st A c D S w1 (K1.out w1 (Below.refl _ _)))
  obtain ⟨p0, p1, p2⟩ := KD.out w1 (Below.refl _ _)
  clear hD hS hb1 x1 eb hw1 hS1 hr hzz
  go_enter Try.func6, Try.ntmps6
  go_upto_region 1 with fail
  rw [HW.out, EB.out]
  go_wp2_with fail
  refine HF1.out.mono ?_
  rintro e w2 ⟨fb, rfl, _, hb2⟩
  have HB2 := Lib.hid hb2
  clear hb2 p0 p1 p2 HF1
  obtain ⟨p0, p1, p2⟩ := KD.out w2 HB2.out
  cases fb with
  | false =>
    go_wp2_with (go_at_call 9; refine ((HKN _).out).mono ?_; rintro e w3 ⟨rfl, hb3⟩)
    go_ret
    exact ⟨rfl, HB1.out.trans ((HB2.out.trans (hb3.mono HB2.out.size)).mono HB1.out.size)⟩
  | true =>
  by_cases h12 : 12 < D.length
  · go_wp2_with (go_at_call 9; refine ((HKN _).out).mono ?_; rintro e w3 ⟨rfl, hb3⟩)
    go_ret
    exact ⟨rfl, HB1.out.trans ((HB2.out.trans (hb3.mono HB2.out.size)).mono HB1.out.size)⟩
  go_upto_region 4 with (go_at_call 27; refine (HDP.out _ HB2.out).mono ?_; rintro e w3 ⟨rfl, hb3⟩)
  have HB3 := Lib.hid (HB2.out.trans (hb3.mono HB2.out.size))
  clear hb3 p0 p1 p2
  obtain ⟨p0, p1, p2⟩ := KD.out w3 HB3.out
  go_upto_region 5 with (go_at_call 28; refine (HST.out _ HB3.out).mono ?_; rintro e w4 ⟨rfl, hb4⟩)
  have HB4 := Lib.hid (HB3.out.trans (hb4.mono HB3.out.size))
  clear hb4 p0 p1 p2
  obtain ⟨p0, p1, p2⟩ := KD.out w4 HB4.out
  go_upto_if 33 with (go_at_call 29; refine (HVL.out _ HB4.out).mono ?_; rintro e w5 ⟨rfl, hb5⟩)
  have HB5 := Lib.hid (HB4.out.trans (hb5.mono HB4.out.size))
  clear hb5 p0 p1 p2
  obtain ⟨p0, p1, p2⟩ := KD.out w5 HB5.out
  cases r with
  | some q =>
    have hz := HZZ.out
    unfold natInR at hz
    simp only [Option.isSome_some, if_true, Prod.mk.injEq] at hz
    obtain ⟨⟨rfl, rfl⟩, rfl⟩ := hz
    go_wp2_with (go_at_call 9; refine ((HKN _).out).mono ?_; rintro e w6 ⟨rfl, hb6⟩)
    go_ret
    exact ⟨rfl, HB1.out.trans ((HB5.out.trans (hb6.mono HB5.out.size)).mono HB1.out.size)⟩
  | none =>
  have hz := HZZ.out
  unfold natInR at hz
  simp only [Option.isSome_none, Bool.false_eq_true, if_false] at hz
  cases hin : inB mi 0 ((D.length : Int) - 1) with
  | false =>
    rw [hin] at hz
    simp only [Bool.false_eq_true, if_false, Prod.mk.injEq] at hz
    obtain ⟨⟨rfl, rfl⟩, rfl⟩ := hz
    have hout : mi < 0 ∨ (D.length : Int) ≤ mi := by
      by_cases h0 : mi < 0
      · exact .inl h0
      · right
        have h1 : ¬ (0 ≤ mi ∧ mi ≤ (D.length : Int) - 1) := fun h => by
          have : inB mi 0 ((D.length : Int) - 1) = true := by unfold inB; rw [decide_eq_true h.1, decide_eq_true h.2]; rfl
          rw [this] at hin
          cases hin
        omega
    clear hin
    by_cases h0 : mi < 0
    · clear hout
      go_wp2_with (go_at_call 9; refine ((HKN _).out).mono ?_; rintro e w6 ⟨rfl, hb6⟩)
      go_ret
      exact ⟨rfl, HB1.out.trans ((HB5.out.trans (hb6.mono HB5.out.size)).mono HB1.out.size)⟩
    · have h1 : (D.length : Int) ≤ mi := by omega
      clear hout
      go_wp2_with (go_at_call 9; refine ((HKN _).out).mono ?_; rintro e w6 ⟨rfl, hb6⟩)
      go_ret
      exact ⟨rfl, HB1.out.trans ((HB5.out.trans (hb6.mono HB5.out.size)).mono HB1.out.size)⟩
  | true =>
    rw [hin] at hz
    have hbd : 0 ≤ mi ∧ mi ≤ (D.length : Int) - 1 := by simpa [inB] using hin
    obtain ⟨a, rfl⟩ : ∃ a : Nat, mi = (a : Int) := ⟨mi.toNat, by omega⟩
    have hal : a < D.length := by omega
    obtain ⟨m, hm⟩ : ∃ m, D[a]? = some m := ⟨_, List.getElem?_eq_getElem hal⟩
    have hvd := validD_parts HRR.out
    have hpt := pass_take (n := D.length) (by rw [List.take_length]; exact hvd.msgs) hal hm
    rw [List.take_length] at hpt
    simp only [if_true, Int.toNat_natCast, hm, Option.elim, hpt.2, Option.getD_some, Prod.mk.injEq] at hz
    obtain ⟨hz1, rfl⟩ := hz
    have DPC : Hid (∀ wx, Below w1.heap.size w1 wx → Calls Try.prog 30 #[.agg #[.string (strL na), .slice A D.length c, .string (strL st)], .int .i64 ((a : Nat) : Int)] wx fun e w' => e = .returned (.int .i64 zn) ∧ Below wx.heap.size wx w') := Lib.hid (fun wx hb => by
      have := refDepth na st A c D D.length S (by rw [List.take_length]; exact hvd.msgs) a m wx hm hal (K1.out wx hb)
      rwa [hz1] at this)
    have STC : Hid (∀ wx, Below w1.heap.size w1 wx → Calls Try.prog 31 #[.agg #[.string (strL na), .slice A D.length c, .string (strL st)], .int .i64 ((D.length : Nat) : Int)] wx fun e w' => ∃ bg bo c', e = .returned (.slice (some ⟨bg, bo, none⟩) D.length c') ∧ w'.cell? ⟨bg, bo + a, none⟩ = some (.bool zs) ∧ Below wx.heap.size wx w') := Lib.hid (fun wx hb => by
      refine (refStricts na st A c D D.length (Nat.le_refl _) (by omega) S wx (K1.out wx hb) (by rw [List.take_length]; exact hvd.msgs)).mono ?_
      rintro e w' ⟨A', c', he, hrow, hbw⟩
      obtain ⟨bg, bo, e1, hxb⟩ := (slAt_bool (by simp) hrow).at_ (i := a) (d := zs) (by
        rw [List.getElem?_map, List.take_length, hm]
        simp only [Option.map_some, Option.some.injEq]
        unfold sV
        rw [hpt.2, hz1]
        rfl)
      subst e1
      exact ⟨bg, bo, c', he, by have := hxb 0 _ rfl; simpa using this, hbw⟩)
    have ha0 : (0 : Int) ≤ ((a : Nat) : Int) := by omega
    have ha1 : ((a : Nat) : Int) < ((D.length : Nat) : Int) := by omega
    have ha2 : ¬ ((a : Nat) : Int) < 0 := by omega
    have ha3 : ¬ ((D.length : Nat) : Int) ≤ ((a : Nat) : Int) := by omega
    have KDS : Hid (∀ wx, Below w5.heap.size w5 wx → wx.cell? ⟨b, 0, none⟩ = some (.string (strL na)) ∧ wx.cell? ⟨b, 1, none⟩ = some (.slice A D.length c) ∧ wx.cell? ⟨b, 2, none⟩ = some (.string (strL st))) := Lib.hid (fun wx hb => KD.out wx (HB5.out.trans (hb.mono HB5.out.size)))
    clear hm hvd hpt hz1 hin hbd
    go_upto_region 9 with fail
    go_wp2_with (first
      | (go_at_call 30; refine (DPC.out _ HB5.out).mono ?_; rintro e6 w6 ⟨rfl, hb6⟩; obtain ⟨s0, s1, s2⟩ := KDS.out w6 hb6; clear p0 p1 p2)
      | (go_at_call 31; refine (STC.out _ (HB5.out.trans (hb6.mono HB5.out.size))).mono ?_; rintro e7 w7 ⟨bg, bo, c', rfl, hcell, hb7⟩; clear s0 s1 s2)
      | (go_at_call 9; refine ((HKN _).out).mono ?_; rintro e8 w8 ⟨rfl, hb8⟩))
    go_ret
    exact ⟨rfl, HB1.out.trans ((((HB5.out.trans (hb6.mono HB5.out.size)).trans (hb7.mono (HB5.out.trans (hb6.mono HB5.out.size)).size)).trans (hb8.mono ((HB5.out.trans (hb6.mono HB5.out.size)).trans (hb7.mono (HB5.out.trans (hb6.mono HB5.out.size)).size)).size)).mono HB1.out.size)⟩
end Go.Proofs.Ytbpkppmbbpoohaa

namespace Go.Proofs.Ytbpkppmbbpoohaa
open Go.ChangeShapes Go.WideShapes Go.ChangeAt Go.RowKit Go.Joins Go.Deep

theorem Try.own : ownKnob Try.prog.godebug = none := by kernel_rfl
theorem Try.laidOut : laidOutB Try.prog = true := by kernel_rfl

set_option maxRecDepth 100000 in
theorem depths_lifted (os : Os) (started : os.Started) (H : Type) (enc : TypeId × Value → H) :
    ReturnsInHanded {} Try.checked os 6 .any (Rows.schemaDepthsSpec.pre6 enc Try.prog Try.f6 Rows.schemaDepthsRow.domain false) (Rows.schemaDepthsSpec.post enc Try.prog Try.f6 false true false false) := by
  refine returnsInHanded_of_change (C := Try.checked) Try.own started (by kernel_rfl) Try.func6
    (ChangeSpec.witness6 (enc := enc) (C := Try.checked) false ⟨#[], #[.agg #[.string ⟨#[]⟩, .slice none 0 0, .string ⟨#[]⟩], .int .i64 0], []⟩ 12 (by kernel_rfl) (by kernel_rfl) (by kernel_rfl) (by kernel_rfl)) ?_
  intro W base args ds gs before hval0 hW hcnd _
  have hval : ∀ (j : Nat) t v, Try.f6.params[j]? = some t → args[j]? = some v → Value.okWide Try.prog W .any base t v := hval0
  have hW' := hW
  obtain ⟨p, q, hA0, hV, rfl, hfz, hnd⟩ := hW
  have hA : DataW.TrodAll enc Try.prog W 0 (fun _ => true) true Try.f6.params.toList args.toList ds p := hA0
  rw [Try.params6] at hA hval
  obtain ⟨v0, v1, d0, d1, p0, p1, rfl, rfl, rfl, h0, h1⟩ := trodAll_two hA
  obtain ⟨rfl, rfl⟩ := trodVars_none hV
  have h0k := h0
  have h1k := h1
  obtain ⟨na, st, A, c, D, rfl, hD⟩ := arg_def (hval 0 44 v0 rfl rfl) h0
  obtain ⟨x, rfl, _, _, _⟩ := open_int Try.oi (hval 1 3 v1 rfl rfl) h1
  have hlt0 : ∀ x ∈ p0, x.block < W.heap.size := fun x hx => hW'.lt x (by simp [hx])
  have hlt1 : ∀ x ∈ p1, x.block < W.heap.size := fun x hx => hW'.lt x (by simp [hx])
  clear hA0 hval0
  simp only [List.append_nil] at hW'
  refine (depthsLaw_walk na st A c x D _ W hD.1 (fun k hk => hk)).mono fun e W' ⟨he, hb⟩ => ?_
  subst he
  refine ⟨_, rfl, _, _, _, [], p0 ++ p1, [], hW', ?_, ?_, rfl, hb.frame _, fun h => by cases h⟩
  · exact trodAll_mk1 (shut_bool Try.ob true)
  · exact trodAll_mk2 (Below.trod Try.laidOut (by kernel_rfl) (of_decide_eq_true (by kernel_rfl)) h0k hb hlt0) (Below.trod Try.laidOut (by kernel_rfl) (of_decide_eq_true (by kernel_rfl)) h1k hb hlt1)

theorem schemaDepths_holds : Rows.SchemaDepthsSaid :=
  OpenClaim.holds_of_wide 6 Try.f6 rfl rfl rfl rfl rfl rfl rfl ⟨rfl, rfl, rfl, rfl, rfl⟩ rfl rfl rfl rfl rfl (by kernel_rfl) Try.func6 (by kernel_rfl)
    (of_decide_eq_true (by kernel_rfl)) (by unfold Func.isWrapper; first | (rw [if_pos (by decide +kernel)]; kernel_rfl) | (rw [if_neg (by decide +kernel)]; exact ⟨rfl, rfl⟩))
    (fun os started H enc _ => depths_lifted os started H enc)

#print axioms schemaDepths_holds
end Go.Proofs.Ytbpkppmbbpoohaa
