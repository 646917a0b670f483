/- A field of a kind that does not exist, in an examination. Conditions: the examination, the fields before and the kinds lie in memory. Any field in an examination, and the ranges of fields that pass. Conditions: the examination, the fields, the terms and the cases lie in memory; the ranges before are allowed. -/
import Derived.Test.YtbpkppmbbpoohaaGreatJa
import Derived.Test.YtbpkppmbbpoohaaGreatIc
import Derived.Test.YtbpkppmbbpoohaaGreatJb
import Derived.Test.YtbpkppmbbpoohaaGreatVe
import Derived.Test.YtbpkppmbbpoohaaGreatVf
import Derived.Test.YtbpkppmbbpoohaaGreatVg
import Derived.Test.YtbpkppmbbpoohaaGreatVi
namespace Go.Proofs.YtbpkppmbbpoohaaGreat
open Go.RowKit Go.Shelf

set_option maxRecDepth 100000 in
set_option maxHeartbeats 6400000 in
theorem field_no (x kr kk c : Nat) (m f : Int) (A : Option Addr) (B : List FieldD) (d : FieldD) (S : Nat → Prop) (w : World) (hx : ExAt w x m f kr A B.length c kk) (hB : SlAt FieldD.cells 15 S w A c B) (hk : MapI w kk (condE (.pointer (some ⟨x, 0, none⟩)))) (hF : getI (condE (.pointer (some ⟨x, 0, none⟩))) d.kind = none) :
    Calls Tryz.prog 146 #[.pointer (some ⟨x, 0, none⟩), d.agg] w fun e w' => e = doE (orR (ifR (nameB d.name) 1) (orR (ifR (!(B.any (fun e => e.name == d.name))) 2) (some 4))) m f ∧ Below w.heap.size w w' := by
  unfold FieldD.agg
  have hB1 := hB.below (below_alloc w (.cells #[.string (strL d.name), .int .i64 d.kind, .int .i64 d.bits, .bool d.little, .bool d.loose, .int .i64 d.low, .int .i64 d.high, .int .i64 d.base, .slice d.ta d.terms.length d.tc, .string (strL d.of_), .string (strL d.tag), .string (strL d.from_), .slice d.ca d.cases.length d.cc, .int .i64 d.check, .int .i64 d.key] 55))
  have hk1 := hk.below (below_alloc w (.cells #[.string (strL d.name), .int .i64 d.kind, .int .i64 d.bits, .bool d.little, .bool d.loose, .int .i64 d.low, .int .i64 d.high, .int .i64 d.base, .slice d.ta d.terms.length d.tc, .string (strL d.of_), .string (strL d.tag), .string (strL d.from_), .slice d.ca d.cases.length d.cc, .int .i64 d.check, .int .i64 d.key] 55)) hk.lt
  obtain ⟨Z, hZ⟩ : ∃ Z, orR (ifR (nameB d.name) 1) (orR (ifR (!(B.any (fun e => e.name == d.name))) 2) (some 4)) = Z := ⟨_, rfl⟩
  rw [hZ]
  have HZ := Lib.hid hZ
  have HFF := Lib.hid hF
  have HBB := Lib.hid hB1
  have HKK := Lib.hid hk1
  clear hZ hF hB hk hB1 hk1
  have hal := below_alloc w (.cells #[.string (strL d.name), .int .i64 d.kind, .int .i64 d.bits, .bool d.little, .bool d.loose, .int .i64 d.low, .int .i64 d.high, .int .i64 d.base, .slice d.ta d.terms.length d.tc, .string (strL d.of_), .string (strL d.tag), .string (strL d.from_), .slice d.ca d.cases.length d.cc, .int .i64 d.check, .int .i64 d.key] 55)
  have hbx := FBox.new w d
  have hx1 := hx.below hal hx.lt
  obtain ⟨b, eb⟩ : ∃ b, w.heap.size = b := ⟨_, rfl⟩
  obtain ⟨w1, hw1⟩ : ∃ w1, w.alloc (.cells #[.string (strL d.name), .int .i64 d.kind, .int .i64 d.bits, .bool d.little, .bool d.loose, .int .i64 d.low, .int .i64 d.high, .int .i64 d.base, .slice d.ta d.terms.length d.tc, .string (strL d.of_), .string (strL d.tag), .string (strL d.from_), .slice d.ca d.cases.length d.cc, .int .i64 d.check, .int .i64 d.key] 55) = w1 := ⟨_, rfl⟩
  rw [hw1] at hal hbx hx1
  rw [eb] at hbx
  have HW := Lib.hid hw1
  have EB := Lib.hid eb
  have HAL := Lib.hid hal
  have HBX := Lib.hid hbx
  have HX := Lib.hid hx1
  clear hal hbx hx1 eb hw1 hx
  rw [HW.out] at HBB HKK
  have KB : Hid (∀ wx, Below w1.heap.size w1 wx → FBox wx b d ∧ ExAt wx x m f kr A B.length c kk) := Lib.hid (fun wx hb => ⟨HBX.out.below hb HBX.out.lt, HX.out.below hb HX.out.lt⟩)
  have KM : Hid (∀ wx, Below w1.heap.size w1 wx → MapI wx kk (condE (.pointer (some ⟨x, 0, none⟩))) ∧ SlAt FieldD.cells 15 S wx A c B) := Lib.hid (fun wx hb => ⟨HKK.out.below hb HKK.out.lt, HBB.out.below hb⟩)
  have HNM := fun w => Lib.hid (sizeName d.name w)
  have HFI : Hid (∀ wx, Below w1.heap.size w1 wx → Calls Tryz.prog 142 #[.agg #[.string ⟨#[]⟩, .slice A B.length c], .string (strL d.name)] wx fun e w' => e = .returned (.tuple #[.int .i64 (max (idxOf (fun e => e.name == d.name) B) 0), .bool (B.any (fun e => e.name == d.name))]) ∧ Below wx.heap.size wx w') := Lib.hid (fun wx hb => field_find [] A c B d.name S wx (KM.out wx hb).2)
  have HDM : ∀ bv cd wx, Below w1.heap.size w1 wx → Hid (Calls Tryz.prog 115 #[.pointer (some ⟨x, 0, none⟩), .bool bv, .int .i64 cd] wx fun e w' => e = doE (ifR bv cd) m f ∧ Below wx.heap.size wx w') := fun bv cd wx hb => Lib.hid (demand_any x kr kk B.length c m f A bv cd wx (KB.out wx hb).2)
  obtain ⟨nb, hnb⟩ : ∃ nb, nameB d.name = nb := ⟨_, rfl⟩
  obtain ⟨tw, htw⟩ : ∃ tw, B.any (fun e => e.name == d.name) = tw := ⟨_, rfl⟩
  obtain ⟨ix, hix⟩ : ∃ ix, max (idxOf (fun e : FieldD => e.name == d.name) B) 0 = ix := ⟨_, rfl⟩
  rw [htw, hix] at HFI
  rw [hnb] at HNM
  have HRN : Hid (Z = orR (ifR nb 1) (orR (ifR (!tw) 2) (some 4))) := Lib.hid (by rw [← HZ.out]; rw [hnb, htw])
  have HB1 : Hid (Below w1.heap.size w1 w1) := Lib.hid (Below.refl _ _)
  have KEEP : Hid (∀ wx, Below w1.heap.size w1 wx → wx.cell? ⟨b, 0, none⟩ = some (.string (strL d.name)) ∧ wx.cell? ⟨x, 4, none⟩ = some (.slice A B.length c)) := Lib.hid (fun wx hb => ⟨(KB.out wx hb).1.c0, (KB.out wx hb).2.c4⟩)
  clear hnb htw hix HZ
  have y0 := HBX.out.c0
  go_enter Tryz.func146, Tryz.ntmps146
  go_upto_region 1 with fail
  rw [HW.out, EB.out]
  go_wp2_with (go_at_call 116; refine ((HNM _).out).mono ?_; rintro e w' ⟨rfl, hw'⟩; have hw'' := hw'.symm; clear hw'; subst hw'')
  cases nb
  · have HD := Lib.hid (HDM false 1 w1 HB1.out).out
    unfold ifR doE flawE at HD
    simp only [Bool.false_eq_true, if_false] at HD
    go_wp2_with fail
    refine HD.out.mono ?_
    rintro e w2 ⟨rfl, hb2'⟩
    exact ⟨rfl, by rw [HRN.out]; rfl, HAL.out.trans ((HB1.out.trans (hb2'.mono HB1.out.size)).mono HAL.out.size)⟩
  · have HD := Lib.hid (HDM true 1 w1 HB1.out).out
    unfold ifR doE at HD
    simp only [if_true] at HD
    go_wp2_with fail
    refine HD.out.mono ?_
    rintro e w2 ⟨rfl, hb2'⟩
    have HB2 := Lib.hid (HB1.out.trans (hb2'.mono HB1.out.size))
    clear hb2' HD
    obtain ⟨u0, u4⟩ := KEEP.out w2 HB2.out
    go_upto_region 2 with fail
    refine wp_region_noPanic ?_
    go_region_held (fun w' => w'.cell? ⟨b, 0, none⟩ = some (.string (strL d.name)) ∧ w'.cell? ⟨x, 4, none⟩ = some (.slice A B.length c)) (first | exact KEEP.out _ HB2.out.drew | exact KEEP.out _ HB3.out | exact KEEP.out _ HB2.out) (first | (go_at_call 142; refine (HFI.out _ (by first | exact HB2.out.drew | exact HB2.out)).mono ?_; rintro e w3 ⟨rfl, hb3⟩; have HB3 := Lib.hid (by first | exact HB2.out.drew.trans (hb3.mono HB2.out.size) | exact HB2.out.trans (hb3.mono HB2.out.size) : Below w1.heap.size w1 w3); clear hb3))
    all_goals
      refine NoPanic.normal ?_
      go_wp2_with fail
      cases tw
      · have HD := Lib.hid (HDM true 2 w3 HB3.out).out
        unfold ifR doE at HD
        simp only [if_true] at HD
        go_wp2_with fail
        refine HD.out.mono ?_
        rintro e w4 ⟨rfl, hb4'⟩
        have HB4 := Lib.hid (HB3.out.trans (hb4'.mono HB3.out.size))
        clear hb4' HD
        have hxx := (KB.out w4 HB4.out).2
        have hkk := (KB.out w4 HB4.out).1
        have z5 := hxx.c5
        have z1 := hkk.c1
        have hrun : ∀ n, (Instr.lookup 128 (.map (some kk)) (.int .i64 d.kind) true).run Tryz.prog (w4.drewN n) = .ok (.tuple #[.nilFunc, .bool false]) (w4.drewN n) := by
          intro n
          have h := run_lookI (P := Tryz.prog) Tryz.um122 Tryz.ukind (Tryz.zeroCond (w4.drewN n)) (KM.out (w4.drewN n) (HB4.out.trans ⟨rfl, rfl, rfl, Nat.le_refl _, fun _ _ => rfl⟩)).1 d.kind
          rw [HFF.out] at h
          simpa only [Option.getD_none, Option.isSome_none] using h
        clear hxx hkk
        go_upto_region 4 with fail
        refine wp_region_noPanic ?_
        go_quiet (fail)
        refine NoPanic.normal ?_
        clear hrun z5 z1
        have HBq := Lib.hid (HB4.out.trans ⟨rfl, rfl, rfl, Nat.le_refl _, fun _ _ => rfl⟩ : Below w1.heap.size w1 (w4.drewN nq))
        obtain ⟨wq, hwq⟩ : ∃ wq, w4.drewN nq = wq := ⟨_, rfl⟩
        rw [hwq] at HBq
        rw [hwq]
        clear hwq
        have HD := Lib.hid (HDM false 4 wq HBq.out).out
        unfold ifR doE flawE at HD
        simp only [Bool.false_eq_true, if_false] at HD
        go_wp2_with fail
        refine HD.out.mono ?_
        rintro e w5 ⟨rfl, hb5⟩
        exact ⟨rfl, by rw [HRN.out]; rfl, HAL.out.trans ((HBq.out.trans (hb5.mono HBq.out.size)).mono HAL.out.size)⟩
      · have HD := Lib.hid (HDM false 2 w3 HB3.out).out
        unfold ifR doE flawE at HD
        simp only [Bool.false_eq_true, if_false] at HD
        go_wp2_with fail
        refine HD.out.mono ?_
        rintro e w4 ⟨rfl, hb4'⟩
        exact ⟨rfl, by rw [HRN.out]; rfl, HAL.out.trans ((HB3.out.trans (hb4'.mono HB3.out.size)).mono HAL.out.size)⟩
end Go.Proofs.YtbpkppmbbpoohaaGreat

namespace Go.Proofs.YtbpkppmbbpoohaaGreat
open Go.RowKit Go.Shelf

theorem Tryz.enK1 : ∀ args w, (callFunc 103 args).run Tryz.prog w = .ok (.enter 103 args) w := enters_of Tryz.func103 (by kernel_rfl) rfl
theorem Tryz.enK2 : ∀ args w, (callFunc 104 args).run Tryz.prog w = .ok (.enter 104 args) w := enters_of Tryz.func104 (by kernel_rfl) rfl
theorem Tryz.enK3 : ∀ args w, (callFunc 105 args).run Tryz.prog w = .ok (.enter 105 args) w := enters_of Tryz.func105 (by kernel_rfl) rfl
theorem Tryz.enK4 : ∀ args w, (callFunc 106 args).run Tryz.prog w = .ok (.enter 106 args) w := enters_of Tryz.func106 (by kernel_rfl) rfl
theorem Tryz.enK5 : ∀ args w, (callFunc 107 args).run Tryz.prog w = .ok (.enter 107 args) w := enters_of Tryz.func107 (by kernel_rfl) rfl
theorem Tryz.enK6 : ∀ args w, (callFunc 108 args).run Tryz.prog w = .ok (.enter 108 args) w := enters_of Tryz.func108 (by kernel_rfl) rfl
theorem Tryz.enK7 : ∀ args w, (callFunc 109 args).run Tryz.prog w = .ok (.enter 109 args) w := enters_of Tryz.func109 (by kernel_rfl) rfl
theorem Tryz.enK8 : ∀ args w, (callFunc 110 args).run Tryz.prog w = .ok (.enter 110 args) w := enters_of Tryz.func110 (by kernel_rfl) rfl
theorem Tryz.enK9 : ∀ args w, (callFunc 111 args).run Tryz.prog w = .ok (.enter 111 args) w := enters_of Tryz.func111 (by kernel_rfl) rfl
theorem Tryz.enK10 : ∀ args w, (callFunc 112 args).run Tryz.prog w = .ok (.enter 112 args) w := enters_of Tryz.func112 (by kernel_rfl) rfl
theorem Tryz.enK11 : ∀ args w, (callFunc 113 args).run Tryz.prog w = .ok (.enter 113 args) w := enters_of Tryz.func113 (by kernel_rfl) rfl
theorem Tryz.enK12 : ∀ args w, (callFunc 114 args).run Tryz.prog w = .ok (.enter 114 args) w := enters_of Tryz.func114 (by kernel_rfl) rfl

/-- What the conditions of a field's kind find. -/
def condR (E : Nats) (B : List FieldD) (d : FieldD) : Option Int :=
  if d.kind = 1 then unsR d else if d.kind = 2 then unsR (conD d) else if d.kind = 3 then belowR 34359738368 d else if d.kind = 4 then sizeAllR B d else if d.kind = 5 then untilR d else if d.kind = 6 then headersR d
  else if d.kind = 7 then orR (nestedR E d) (sizeAllR B d) else if d.kind = 8 then nestedR E d else if d.kind = 9 then choiceR E B d else if d.kind = 10 then padR d else if d.kind = 11 then checkR B d else viewR E d (sizeAllR B d)
def fieldAllR (E : Nats) (B : List FieldD) (d : FieldD) : Option Int :=
  orR (ifR (nameB d.name) 1) (orR (ifR (!(B.any (fun e => e.name == d.name))) 2) (orR (ifR (inB d.kind 1 12) 4) (orR (ifR (!(spareB d)) 5) (condR E B d))))
/-- The ranges of numbers are allowed. -/
def AllowB (B : List FieldD) : Prop := ∀ nm p, getP (ransP B) nm = some p → allowP p = true

theorem fieldAll_of {E : Nats} {B : List FieldD} {d : FieldD} {R : Option Int} (h : inB d.kind 1 12 = true) (hR : condR E B d = R) : fieldAllR E B d = fieldR B d (spareB d) R := by
  unfold fieldAllR fieldR
  rw [h, hR]
  rfl

set_option maxHeartbeats 1600000 in
theorem field_all (x kr kk c : Nat) (m f : Int) (A : Option Addr) (B : List FieldD) (d : FieldD) (E : Nats) (S : Nat → Prop) (w : World) (hx : ExAt w x m f kr A B.length c kk) (hB : SlAt FieldD.cells 15 S w A c B) (hk : MapI w kk (condE (.pointer (some ⟨x, 0, none⟩)))) (hm : MapAt w kr (natE E))
    (hT : SlAt TermD.cells 2 S w d.ta d.tc d.terms) (hC : SlAt CaseD.cells 3 S w d.ca d.cc d.cases) (hal : AllowB B) :
    Calls Tryz.prog 146 #[.pointer (some ⟨x, 0, none⟩), d.agg] w fun e w' => e = doE (fieldAllR E B d) m f ∧ Below w.heap.size w w' := by
  have hX : ∀ wx, Below w.heap.size w wx → ExAt wx x m f kr A B.length c kk := fun wx hb => hx.below hb hx.lt
  have hM : ∀ wx, Below w.heap.size w wx → MapAt wx kr (natE E) := fun wx hb => hm.below hb hm.lt
  have hSz : ∀ wx, Below w.heap.size w wx → Calls Tryz.prog 106 #[.pointer (some ⟨x, 0, none⟩), d.agg] wx fun e w' => e = doE (sizeAllR B d) m f ∧ Below wx.heap.size wx w' := fun wx hb =>
    exSize_all x kr kk c m f A B d S wx (hX wx hb) (hB.below hb) (hT.below hb) (fun t _ p hp => hal t.f p hp)
  have K := fun F (eg : ∀ args w, (callFunc F args).run Tryz.prog w = .ok (.enter F args) w) hF R hR => field_any x kr kk c m f A B d S w hx hB hk F eg hF (spareB d) (fun wx => spare_any d wx) R hR
  by_cases h1 : d.kind = 1
  · rw [fieldAll_of (R := unsR d) (by rw [h1]; rfl) (by simp [condR, h1])]
    exact K _ Tryz.enK1 (by rw [h1]; rfl) _ (fun wx hb => unsigned_any x kr kk B.length c m f A d wx (hX wx hb))
  by_cases h2 : d.kind = 2
  · rw [fieldAll_of (R := unsR (conD d)) (by rw [h2]; rfl) (by simp [condR, h2])]
    exact K _ Tryz.enK2 (by rw [h2]; rfl) _ (fun wx hb => constant_any (hX wx hb))
  by_cases h3 : d.kind = 3
  · rw [fieldAll_of (R := belowR 34359738368 d) (by rw [h3]; rfl) (by simp [condR, h3])]
    exact K _ Tryz.enK3 (by rw [h3]; rfl) _ (fun wx hb => varint_any (hX wx hb))
  by_cases h4 : d.kind = 4
  · rw [fieldAll_of (R := sizeAllR B d) (by rw [h4]; rfl) (by simp [condR, h4])]
    exact K _ Tryz.enK4 (by rw [h4]; rfl) _ hSz
  by_cases h5 : d.kind = 5
  · rw [fieldAll_of (R := untilR d) (by rw [h5]; rfl) (by simp [condR, h5])]
    exact K _ Tryz.enK5 (by rw [h5]; rfl) _ (fun wx hb => until_any x kr kk B.length c m f A d wx (hX wx hb))
  by_cases h6 : d.kind = 6
  · rw [fieldAll_of (R := headersR d) (by rw [h6]; rfl) (by simp [condR, h6])]
    exact K _ Tryz.enK6 (by rw [h6]; rfl) _ (fun wx hb => headers_any x kr kk B.length c m f A d wx (hX wx hb))
  by_cases h7 : d.kind = 7
  · rw [fieldAll_of (R := orR (nestedR E d) (sizeAllR B d)) (by rw [h7]; rfl) (by simp [condR, h7])]
    exact K _ Tryz.enK7 (by rw [h7]; rfl) _ (fun wx hb => list_of E (sizeAllR B d) (hX wx hb) (hM wx hb) (fun _ wy hy => hSz wy (hb.trans (hy.mono hb.size))))
  by_cases h8 : d.kind = 8
  · rw [fieldAll_of (R := nestedR E d) (by rw [h8]; rfl) (by simp [condR, h8])]
    exact K _ Tryz.enK8 (by rw [h8]; rfl) _ (fun wx hb => nested_any x kr kk B.length c m f A d wx E (hX wx hb) (hM wx hb))
  by_cases h9 : d.kind = 9
  · rw [fieldAll_of (R := choiceR E B d) (by rw [h9]; rfl) (by simp [condR, h9])]
    exact K _ Tryz.enK9 (by rw [h9]; rfl) _ (fun wx hb => choice_any x kr kk c m f A B d E S wx (hX wx hb) (hB.below hb) (hM wx hb) (hC.below hb) (fun p hp => hal _ p hp))
  by_cases h10 : d.kind = 10
  · rw [fieldAll_of (R := padR d) (by rw [h10]; rfl) (by simp [condR, h10])]
    exact K _ Tryz.enK10 (by rw [h10]; rfl) _ (fun wx hb => pad_any x kr kk B.length c m f A d wx (hX wx hb))
  by_cases h11 : d.kind = 11
  · rw [fieldAll_of (R := checkR B d) (by rw [h11]; rfl) (by simp [condR, h11])]
    exact K _ Tryz.enK11 (by rw [h11]; rfl) _ (fun wx hb => checksum_any B S (hX wx hb) (hB.below hb))
  by_cases h12 : d.kind = 12
  · rw [fieldAll_of (R := viewR E d (sizeAllR B d)) (by rw [h12]; rfl) (by simp [condR, h12])]
    exact K _ Tryz.enK12 (by rw [h12]; rfl) _ (fun wx hb => view_of E (sizeAllR B d) (hX wx hb) (hM wx hb) (fun _ wy hy => hSz wy (hb.trans (hy.mono hb.size))))
  · have hn : inB d.kind 1 12 = false := by
      cases e : inB d.kind 1 12 with
      | false => rfl
      | true =>
        exfalso
        have : 1 ≤ d.kind ∧ d.kind ≤ 12 := by simpa [inB] using e
        omega
    have hz : fieldAllR E B d = orR (ifR (nameB d.name) 1) (orR (ifR (!(B.any (fun e => e.name == d.name))) 2) (some 4)) := by
      unfold fieldAllR
      rw [hn]
      rfl
    rw [hz]
    exact field_no x kr kk c m f A B d S w hx hB hk (by simp [condE, getI, Ne.symm h1, Ne.symm h2, Ne.symm h3, Ne.symm h4, Ne.symm h5, Ne.symm h6, Ne.symm h7, Ne.symm h8, Ne.symm h9, Ne.symm h10, Ne.symm h11, Ne.symm h12])

theorem orR_none {r s : Option Int} (h : orR r s = none) : r = none ∧ s = none := by
  cases r with
  | none => exact ⟨rfl, h⟩
  | some c => cases h
theorem ifR_none {b : Bool} {c : Int} (h : ifR b c = none) : b = true := by
  cases b with
  | false => cases h
  | true => rfl
theorem getP_setP (E : PEnts) (k : List UInt8) (v : Int × Int) (n : List UInt8) : getP (setP E k v) n = if k = n then some v else getP E n := by
  induction E with
  | nil => simp [setP, getP]
  | cons p E ih =>
    simp only [setP]
    split
    · rename_i h
      simp only [getP, h]
      split <;> rfl
    · rename_i h
      simp only [getP]
      split
      · rename_i h2
        rw [if_neg (fun e => h (h2.trans e.symm))]
      · exact ih
theorem below_allow {lim : Int} {d : FieldD} (h : belowR lim d = none) (hl : lim ≤ 34359738368) : allowP (d.low, d.high) = true := by
  have := ifR_none h
  simp only [Bool.and_eq_true, decide_eq_true_eq] at this
  unfold allowP
  simp only [Bool.and_eq_true, decide_eq_true_eq]
  omega
theorem uns_allow {d : FieldD} (h : unsR d = none) : allowP (d.low, d.high) = true := by
  obtain ⟨h1, h2⟩ := orR_none h
  obtain ⟨_, h3⟩ := orR_none h2
  have hb : 1 ≤ d.bits ∧ d.bits ≤ 32 := by simpa [inB] using ifR_none h1
  refine below_allow h3 ?_
  have h4 : d.bits.toNat ≤ 32 := by omega
  have h5 : (2 : Nat) ^ d.bits.toNat ≤ 2 ^ 32 := Nat.pow_le_pow_right (by omega) h4
  have h6 : ((2 : Int) ^ d.bits.toNat) = ((2 ^ d.bits.toNat : Nat) : Int) := by simp
  rw [h6]
  omega
theorem AllowB.nil : AllowB [] := fun nm p h => by cases h
/-- A field that passes keeps the ranges allowed. -/
theorem AllowB.snoc {E : Nats} {B : List FieldD} {d : FieldD} (h : AllowB B) (hd : fieldAllR E B d = none) : AllowB (B ++ [d]) := by
  intro nm p hp
  rw [ransP_snoc] at hp
  by_cases hn : numB d = true
  · rw [if_pos hn, getP_setP] at hp
    split at hp
    · cases hp
      have hc : condR E B d = none := (orR_none (orR_none (orR_none (orR_none hd).2).2).2).2
      have hk : d.kind = 1 ∨ d.kind = 2 ∨ d.kind = 3 := by simpa [numB, or_assoc] using hn
      unfold ranP
      rcases hk with hk | hk | hk
      · simp only [condR, hk] at hc ⊢
        exact uns_allow hc
      · simp only [condR, hk] at hc ⊢
        exact uns_allow (d := conD d) hc
      · simp only [condR, hk] at hc ⊢
        exact below_allow hc (by omega)
    · exact h nm p hp
  · rw [if_neg hn] at hp
    exact h nm p hp
end Go.Proofs.YtbpkppmbbpoohaaGreat
