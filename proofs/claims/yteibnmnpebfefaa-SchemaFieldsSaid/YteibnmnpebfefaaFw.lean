/- The walk of SchemaFields. Conditions: the cases of the field lie in memory. -/
import Derived.Test.YteibnmnpebfefaaFa
import Derived.Test.YteibnmnpebfefaaKb
import Derived.Deep.RegionHeld3
import Derived.Deep.CutRange
namespace Go.Proofs.Yteibnmnpebfefaa
open Go.RowKit Go.Shelf

set_option maxRecDepth 100000 in
set_option maxHeartbeats 6400000 in
theorem fields_walk (d : FieldD) (tag : Int) (S : Nat → Prop) (w : World) (hF : FieldOk S w d) :
    Calls Try.prog 3 #[d.agg, .int .i64 tag] w fun e w' => e = .returned (.bool true) ∧ Below w.heap.size w w' := by
  have hC := hF.2
  have hl : d.cases.length ≤ 9223372036854775807 := Nat.le_trans hC.1 hC.2.1
  obtain ⟨ra, hra⟩ : ∃ x, (if numB d then (ranP d).1 else 0) = x := ⟨_, rfl⟩
  obtain ⟨rb, hrb⟩ : ∃ x, (if numB d then (ranP d).2 else 0) = x := ⟨_, rfl⟩
  obtain ⟨re, hre⟩ : ∃ x : Int, (if numB d then 0 else 2) = x := ⟨_, rfl⟩
  obtain ⟨k, hk⟩ : ∃ k, idxOf (fun c : CaseD => inB tag c.lo c.hi) d.cases = k := ⟨_, rfl⟩
  obtain ⟨M, hM⟩ : ∃ M, max k 0 = M := ⟨_, rfl⟩
  obtain ⟨bv, hbv⟩ : ∃ bv, d.cases.any (fun c : CaseD => inB tag c.lo c.hi) = bv := ⟨_, rfl⟩
  have hnn : decide (0 ≤ k) = bv := by
    rw [← hk, ← hbv, Bool.eq_iff_iff, decide_eq_true_iff]
    exact idx_nonneg _ d.cases 0
  have f1 : (if k < 0 then 0 else k) = M := by rw [← hM]; split <;> omega
  have HRA : ∀ wx, Hid (Calls Try.prog 10 #[d.agg] wx fun e w' => e = .returned (.tuple #[.agg #[.int .i64 ra, .int .i64 rb], .int .i64 re]) ∧ Below wx.heap.size wx w') := fun wx => Lib.hid (by have := range_any d wx; rw [hra, hrb, hre] at this; exact this)
  have HCA : ∀ wx, Below w.heap.size w wx → Hid (Calls Try.prog 11 #[d.agg, .int .i64 tag] wx fun e w' => e = .returned (.tuple #[.int .i64 M, .bool bv]) ∧ Below wx.heap.size wx w') := fun wx hb => Lib.hid (by have := case_find d tag S wx (hC.rest (Rest.below hb) (fun _ _ e => e)); rw [hk, hM, hbv] at this; exact this)
  have HCR : ∀ wx, Below w.heap.size w wx → Hid (Calls Try.prog 12 #[d.agg, .int .i64 tag] wx fun e w' => e = .returned (.int .i64 k) ∧ Below wx.heap.size wx w') := fun wx hb => Lib.hid (by have := refCase_any d tag S wx (hC.rest (Rest.below hb) (fun _ _ e => e)); rw [hk] at this; exact this)
  obtain ⟨nb, hnb⟩ : ∃ nb, numB d = nb := ⟨_, rfl⟩
  obtain ⟨hv, hhv⟩ : ∃ hv, hasvB d = hv := ⟨_, rfl⟩
  have HNA : ∀ wx, Hid (Calls Try.prog 13 #[d.agg] wx fun e w' => e = .returned (.bool nb) ∧ Below wx.heap.size wx w') := fun wx => Lib.hid (by have := number_any d wx; rw [hnb] at this; exact this)
  have HNR : ∀ wx, Hid (Calls Try.prog 14 #[d.agg] wx fun e w' => e = .returned (.bool nb) ∧ Below wx.heap.size wx w') := fun wx => Lib.hid (by have := refNumber_any d wx; rw [hnb] at this; exact this)
  have HVA : ∀ wx, Hid (Calls Try.prog 15 #[d.agg] wx fun e w' => e = .returned (.bool hv) ∧ Below wx.heap.size wx w') := fun wx => Lib.hid (by have := hasvalue_any d wx; rw [hhv] at this; exact this)
  have HVR : ∀ wx, Hid (Calls Try.prog 16 #[d.agg] wx fun e w' => e = .returned (.bool hv) ∧ Below wx.heap.size wx w') := fun wx => Lib.hid (by have := refHasvalue_any d wx; rw [hhv] at this; exact this)
  have HRR : ∀ wx, Hid (Calls Try.prog 17 #[d.agg] wx fun e w' => e = .returned (.tuple #[.int .i64 (ranP d).1, .int .i64 (ranP d).2]) ∧ Below wx.heap.size wx w') := fun wx => Lib.hid (refRange_any d wx)
  have HKN : ∀ wx, Hid (Calls Try.prog 9 #[] wx fun e w' => e = .returned (.bool true) ∧ Below wx.heap.size wx w') := fun wx => Lib.hid (known_any wx)
  have RA := Lib.hid hra
  have RB := Lib.hid hrb
  have RE := Lib.hid hre
  have NB := Lib.hid hnb
  clear hF hC hk hM hbv hra hrb hre hnb hhv
  unfold FieldD.agg at *
  have hal := below_alloc w (.cells #[.string (strL d.name), .int .i64 d.kind, .int .i64 d.bits, .bool d.little, .bool d.loose, .int .i64 d.low, .int .i64 d.high, .int .i64 d.base, .slice d.ta d.terms.length d.tc, .string (strL d.of_), .string (strL d.tag), .string (strL d.from_), .slice d.ca d.cases.length d.cc, .int .i64 d.check, .int .i64 d.key] 28)
  have hbx := FBox.new w d
  obtain ⟨b, eb⟩ : ∃ b, w.heap.size = b := ⟨_, rfl⟩
  obtain ⟨w1, hw1⟩ : ∃ w1, w.alloc (.cells #[.string (strL d.name), .int .i64 d.kind, .int .i64 d.bits, .bool d.little, .bool d.loose, .int .i64 d.low, .int .i64 d.high, .int .i64 d.base, .slice d.ta d.terms.length d.tc, .string (strL d.of_), .string (strL d.tag), .string (strL d.from_), .slice d.ca d.cases.length d.cc, .int .i64 d.check, .int .i64 d.key] 28) = w1 := ⟨_, rfl⟩
  rw [hw1] at hal hbx
  rw [eb] at hbx
  have KB : Hid (∀ wx, Below w1.heap.size w1 wx → wx.cell? ⟨b, 0, none⟩ = some (.string (strL d.name)) ∧ wx.cell? ⟨b, 1, none⟩ = some (.int .i64 d.kind) ∧ wx.cell? ⟨b, 2, none⟩ = some (.int .i64 d.bits) ∧ wx.cell? ⟨b, 3, none⟩ = some (.bool d.little) ∧ wx.cell? ⟨b, 4, none⟩ = some (.bool d.loose) ∧ wx.cell? ⟨b, 5, none⟩ = some (.int .i64 d.low) ∧ wx.cell? ⟨b, 6, none⟩ = some (.int .i64 d.high) ∧ wx.cell? ⟨b, 7, none⟩ = some (.int .i64 d.base) ∧ wx.cell? ⟨b, 8, none⟩ = some (.slice d.ta d.terms.length d.tc) ∧ wx.cell? ⟨b, 9, none⟩ = some (.string (strL d.of_)) ∧ wx.cell? ⟨b, 10, none⟩ = some (.string (strL d.tag)) ∧ wx.cell? ⟨b, 11, none⟩ = some (.string (strL d.from_)) ∧ wx.cell? ⟨b, 12, none⟩ = some (.slice d.ca d.cases.length d.cc) ∧ wx.cell? ⟨b, 13, none⟩ = some (.int .i64 d.check) ∧ wx.cell? ⟨b, 14, none⟩ = some (.int .i64 d.key)) := Lib.hid (fun wx hb => by have h := hbx.below hb hbx.lt; exact ⟨h.c0, h.c1, h.c2, h.c3, h.c4, h.c5, h.c6, h.c7, h.c8, h.c9, h.c10, h.c11, h.c12, h.c13, h.c14⟩)
  have LTB := Lib.hid hbx.lt
  have HW := Lib.hid hw1
  have EB := Lib.hid eb
  have HAL := Lib.hid hal
  clear hal hbx eb hw1
  obtain ⟨y0, y1, y2, y3, y4, y5, y6, y7, y8, y9, y10, y11, y12, y13, y14⟩ := KB.out w1 (Below.refl _ _)
  by_cases hbig : 50 < d.cases.length
  · go_enter Try.func3, Try.ntmps3
    go_upto_region 1 with fail
    rw [HW.out, EB.out]
    go_wp2_with fail
    refine ((HKN _).out).mono ?_
    rintro e w2 ⟨rfl, hb2⟩
    have HB2 := Lib.hid (HAL.out.trans (hb2.mono HAL.out.size))
    clear hb2
    go_wp2_with fail
    go_ret
    exact ⟨rfl, HB2.out⟩
  · have hsm : d.cases.length ≤ 50 := by omega
    go_enter Try.func3, Try.ntmps3
    go_upto_region 1 with fail
    rw [HW.out, EB.out]
    go_wp2_with fail
    refine ((HRA _).out).mono ?_
    rintro e w2 ⟨rfl, hb2⟩
    have hal3 := below_alloc w2 (.cells #[.int .i64 ra, .int .i64 rb] 31)
    have hp3 := PBox.new w2 ra rb
    obtain ⟨pb, epb⟩ : ∃ pb, w2.heap.size = pb := ⟨_, rfl⟩
    obtain ⟨w3, hw3⟩ : ∃ w3, w2.alloc (.cells #[.int .i64 ra, .int .i64 rb] 31) = w3 := ⟨_, rfl⟩
    rw [hw3] at hal3 hp3
    rw [epb] at hp3
    have HB3 := Lib.hid (hb2.trans (hal3.mono hb2.size))
    have HP3 := Lib.hid hp3
    have W3 := Lib.hid hw3
    have EPB := Lib.hid epb
    clear hb2 hal3 hp3 epb hw3 y0 y1 y2 y3 y4 y5 y6 y7 y8 y9 y10 y11 y12 y13 y14
    go_upto_region 4 with fail
    rw [W3.out, EPB.out]
    have KW : Hid (∀ wx, Below w3.heap.size w3 wx → wx.cell? ⟨b, 0, none⟩ = some (.string (strL d.name)) ∧ wx.cell? ⟨b, 1, none⟩ = some (.int .i64 d.kind) ∧ wx.cell? ⟨b, 2, none⟩ = some (.int .i64 d.bits) ∧ wx.cell? ⟨b, 3, none⟩ = some (.bool d.little) ∧ wx.cell? ⟨b, 4, none⟩ = some (.bool d.loose) ∧ wx.cell? ⟨b, 5, none⟩ = some (.int .i64 d.low) ∧ wx.cell? ⟨b, 6, none⟩ = some (.int .i64 d.high) ∧ wx.cell? ⟨b, 7, none⟩ = some (.int .i64 d.base) ∧ wx.cell? ⟨b, 8, none⟩ = some (.slice d.ta d.terms.length d.tc) ∧ wx.cell? ⟨b, 9, none⟩ = some (.string (strL d.of_)) ∧ wx.cell? ⟨b, 10, none⟩ = some (.string (strL d.tag)) ∧ wx.cell? ⟨b, 11, none⟩ = some (.string (strL d.from_)) ∧ wx.cell? ⟨b, 12, none⟩ = some (.slice d.ca d.cases.length d.cc) ∧ wx.cell? ⟨b, 13, none⟩ = some (.int .i64 d.check) ∧ wx.cell? ⟨b, 14, none⟩ = some (.int .i64 d.key)) := Lib.hid (fun wx hb => KB.out wx (HB3.out.trans (hb.mono HB3.out.size)))
    have KP : Hid (∀ wx, Below w3.heap.size w3 wx → wx.cell? ⟨pb, 0, none⟩ = some (.int .i64 ra) ∧ wx.cell? ⟨pb, 1, none⟩ = some (.int .i64 rb)) := Lib.hid (fun wx hb => by have h := HP3.out.below hb HP3.out.lt; exact ⟨h.c0, h.c1⟩)
    have HB03 := Lib.hid (HAL.out.trans (HB3.out.mono HAL.out.size))
    obtain ⟨y0, y1, y2, y3, y4, y5, y6, y7, y8, y9, y10, y11, y12, y13, y14⟩ := KW.out w3 (Below.refl _ _)
    go_wp2_with fail
    refine ((HCA _ HB03.out).out).mono ?_
    rintro e w4 ⟨rfl, hb4⟩
    have HB4 := Lib.hid hb4
    clear hb4 y0 y1 y2 y3 y4 y5 y6 y7 y8 y9 y10 y11 y12 y13 y14
    obtain ⟨y0, y1, y2, y3, y4, y5, y6, y7, y8, y9, y10, y11, y12, y13, y14⟩ := KW.out w4 HB4.out
    go_wp2_with fail
    refine ((HCR _ (HB03.out.trans (HB4.out.mono HB03.out.size))).out).mono ?_
    rintro e w5 ⟨rfl, hb5⟩
    have HB5 := Lib.hid (HB4.out.trans (hb5.mono HB4.out.size))
    have HBQ := Lib.hid (HB5.out.drew)
    clear hb5 y0 y1 y2 y3 y4 y5 y6 y7 y8 y9 y10 y11 y12 y13 y14
    obtain ⟨y0, y1, y2, y3, y4, y5, y6, y7, y8, y9, y10, y11, y12, y13, y14⟩ := KW.out w5 HB5.out
    go_upto_region 6 with fail
    go_cut [54] from 31 (fun s54 wx => s54 = .bool false ∧ Below w3.heap.size w3 wx)
    case first =>
      as_aux_lemma =>
        go_region_held (fun w' => w'.cell? ⟨b, 0, none⟩ = some (.string (strL d.name)) ∧ w'.cell? ⟨b, 1, none⟩ = some (.int .i64 d.kind) ∧ w'.cell? ⟨b, 2, none⟩ = some (.int .i64 d.bits) ∧ w'.cell? ⟨b, 3, none⟩ = some (.bool d.little) ∧ w'.cell? ⟨b, 4, none⟩ = some (.bool d.loose) ∧ w'.cell? ⟨b, 5, none⟩ = some (.int .i64 d.low) ∧ w'.cell? ⟨b, 6, none⟩ = some (.int .i64 d.high) ∧ w'.cell? ⟨b, 7, none⟩ = some (.int .i64 d.base) ∧ w'.cell? ⟨b, 8, none⟩ = some (.slice d.ta d.terms.length d.tc) ∧ w'.cell? ⟨b, 9, none⟩ = some (.string (strL d.of_)) ∧ w'.cell? ⟨b, 10, none⟩ = some (.string (strL d.tag)) ∧ w'.cell? ⟨b, 11, none⟩ = some (.string (strL d.from_)) ∧ w'.cell? ⟨b, 12, none⟩ = some (.slice d.ca d.cases.length d.cc) ∧ w'.cell? ⟨b, 13, none⟩ = some (.int .i64 d.check) ∧ w'.cell? ⟨b, 14, none⟩ = some (.int .i64 d.key)) (first | exact KW.out _ HBQ.out | exact KW.out _ HB16.out | exact KW.out _ HB15.out | exact KW.out _ HB14.out | exact KW.out _ HB13.out) (first | (go_at_call 13; refine ((HNA _).out).mono ?_; rintro e wn ⟨rfl, hbn⟩; have HB13 := Lib.hid (by first | exact HB16.out.trans (hbn.mono HB16.out.size) | exact HB15.out.trans (hbn.mono HB15.out.size) | exact HB14.out.trans (hbn.mono HB14.out.size) | exact HBQ.out.trans (hbn.mono HBQ.out.size) : Below w3.heap.size w3 wn); clear hbn) | (go_at_call 14; refine ((HNR _).out).mono ?_; rintro e wn ⟨rfl, hbn⟩; have HB14 := Lib.hid (by first | exact HB16.out.trans (hbn.mono HB16.out.size) | exact HB15.out.trans (hbn.mono HB15.out.size) | exact HB13.out.trans (hbn.mono HB13.out.size) | exact HBQ.out.trans (hbn.mono HBQ.out.size) : Below w3.heap.size w3 wn); clear hbn) | (go_at_call 15; refine ((HVA _).out).mono ?_; rintro e wn ⟨rfl, hbn⟩; have HB15 := Lib.hid (by first | exact HB16.out.trans (hbn.mono HB16.out.size) | exact HB14.out.trans (hbn.mono HB14.out.size) | exact HB13.out.trans (hbn.mono HB13.out.size) | exact HBQ.out.trans (hbn.mono HBQ.out.size) : Below w3.heap.size w3 wn); clear hbn) | (go_at_call 16; refine ((HVR _).out).mono ?_; rintro e wn ⟨rfl, hbn⟩; have HB16 := Lib.hid (by first | exact HB15.out.trans (hbn.mono HB15.out.size) | exact HB14.out.trans (hbn.mono HB14.out.size) | exact HB13.out.trans (hbn.mono HB13.out.size) | exact HBQ.out.trans (hbn.mono HBQ.out.size) : Below w3.heap.size w3 wn); clear hbn))
        all_goals
          go_wp2
          go_meet
          case rel => exact ⟨rfl, by first | exact HB16.out | exact HB15.out⟩
    case rest =>
      obtain ⟨rfl, hbc⟩ := hcut
      have HBC := Lib.hid hbc
      clear hbc y0 y1 y2 y3 y4 y5 y6 y7 y8 y9 y10 y11 y12 y13 y14 HNA HVA HVR HBQ hnn f1
      obtain ⟨y0, y1, y2, y3, y4, y5, y6, y7, y8, y9, y10, y11, y12, y13, y14⟩ := KW.out wc HBC.out
      go_wp2_with fail
      refine ((HNR _).out).mono ?_
      rintro e w7 ⟨rfl, hb7⟩
      have HB7 := Lib.hid (HBC.out.trans (hb7.mono HBC.out.size))
      clear hb7 y0 y1 y2 y3 y4 y5 y6 y7 y8 y9 y10 y11 y12 y13 y14
      cases nb with
      | false =>
        have e0 : ra = 0 := by rw [← RA.out, NB.out]; rfl
        have e1 : rb = 0 := by rw [← RB.out, NB.out]; rfl
        have e2 : re = 2 := by rw [← RE.out, NB.out]; rfl
        subst e0 e1 e2
        obtain ⟨p0, p1⟩ := KP.out w7 HB7.out
        go_wp2_with fail
        refine ((HKN _).out).mono ?_
        rintro e w8 ⟨rfl, hb8⟩
        have HB8 := Lib.hid (HB03.out.trans ((HB7.out.trans (hb8.mono HB7.out.size)).mono HB03.out.size))
        clear hb8 p0 p1
        go_wp2_with fail
        go_ret
        exact ⟨rfl, HB8.out⟩
      | true =>
        have e0 : (ranP d).1 = ra := by rw [← RA.out, NB.out]; rfl
        have e1 : (ranP d).2 = rb := by rw [← RB.out, NB.out]; rfl
        have e2 : re = 0 := by rw [← RE.out, NB.out]; rfl
        subst e2
        rw [e0, e1] at HRR
        clear e0 e1
        obtain ⟨y0, y1, y2, y3, y4, y5, y6, y7, y8, y9, y10, y11, y12, y13, y14⟩ := KW.out w7 HB7.out
        go_wp2_with fail
        refine ((HRR _).out).mono ?_
        rintro e w8 ⟨rfl, hb8⟩
        have HB8 := Lib.hid (HB7.out.trans (hb8.mono HB7.out.size))
        clear hb8 y0 y1 y2 y3 y4 y5 y6 y7 y8 y9 y10 y11 y12 y13 y14
        obtain ⟨p0, p1⟩ := KP.out w8 HB8.out
        go_wp2_with fail
        refine ((HKN _).out).mono ?_
        rintro e w9 ⟨rfl, hb9⟩
        have HB9 := Lib.hid (HB03.out.trans ((HB8.out.trans (hb9.mono HB8.out.size)).mono HB03.out.size))
        clear hb9 p0 p1
        go_wp2_with fail
        go_ret
        exact ⟨rfl, HB9.out⟩
end Go.Proofs.Yteibnmnpebfefaa
