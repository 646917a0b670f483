/- constant, varint, checksum and view in an examination, the contract of size given. Conditions: the examination and what it knows lie in memory. The names to which a field refers that is not a choice. No conditions. -/
import Derived.Test.YtbpkppmbbpoohaaGreatVe
import Derived.Test.YtbpkppmbbpoohaaGreatJa
import Derived.Deep.RegionHeld3
namespace Go.Proofs.YtbpkppmbbpoohaaGreat
open Go.RowKit Go.Shelf

theorem Tryz.fieldNat (a : Int) (b : Bool) (w : World) : (Instr.field 123 (.agg #[.int .i64 a, .bool b]) 1).run Tryz.prog w = .ok (.bool b) w := by kernel_rfl
section
variable {x kr kk n cc : Nat} {m f : Int} {A : Option Addr} {d : FieldD} {w : World}
set_option maxRecDepth 100000 in
set_option maxHeartbeats 3200000 in
theorem varint_any (hx : ExAt w x m f kr A n cc kk) : Calls Tryz.prog 105 #[.pointer (some ⟨x, 0, none⟩), d.agg] w fun e w' => e = doE (belowR 34359738368 d) m f ∧ Below w.heap.size w w' := by
  unfold FieldD.agg
  have hal := below_alloc w (.cells #[.string (strL d.name), .int .i64 d.kind, .int .i64 d.bits, .bool d.little, .bool d.loose, .int .i64 d.low, .int .i64 d.high, .int .i64 d.base, .slice d.ta d.terms.length d.tc, .string (strL d.of_), .string (strL d.tag), .string (strL d.from_), .slice d.ca d.cases.length d.cc, .int .i64 d.check, .int .i64 d.key] 55)
  have hbx := FBox.new w d
  have hx1 := hx.below hal hx.lt
  obtain ⟨b, eb⟩ : ∃ b, w.heap.size = b := ⟨_, rfl⟩
  obtain ⟨w1, hw1⟩ : ∃ w1, w.alloc (.cells #[.string (strL d.name), .int .i64 d.kind, .int .i64 d.bits, .bool d.little, .bool d.loose, .int .i64 d.low, .int .i64 d.high, .int .i64 d.base, .slice d.ta d.terms.length d.tc, .string (strL d.of_), .string (strL d.tag), .string (strL d.from_), .slice d.ca d.cases.length d.cc, .int .i64 d.check, .int .i64 d.key] 55) = w1 := ⟨_, rfl⟩
  rw [hw1] at hal hbx hx1
  rw [eb] at hbx
  have HW := Lib.hid hw1
  have EB := Lib.hid eb
  have HAL := Lib.hid hal
  have HBX := Lib.hid hbx
  have HX := Lib.hid hx1
  clear hal hbx hx1 eb hw1 hx
  have HBL := Lib.hid (below_any x kr kk n cc m f A d w1 34359738368 HX.out)
  unfold FieldD.agg at HBL
  obtain ⟨br, hbr⟩ : ∃ br, belowR 34359738368 d = br := ⟨_, rfl⟩
  rw [hbr] at HBL ⊢
  clear hbr
  have q0 := HBX.out.c0
  have q1 := HBX.out.c1
  have q2 := HBX.out.c2
  have q3 := HBX.out.c3
  have q4 := HBX.out.c4
  have q5 := HBX.out.c5
  have q6 := HBX.out.c6
  have q7 := HBX.out.c7
  have q8 := HBX.out.c8
  have q9 := HBX.out.c9
  have q10 := HBX.out.c10
  have q11 := HBX.out.c11
  have q12 := HBX.out.c12
  have q13 := HBX.out.c13
  have q14 := HBX.out.c14
  go_enter Tryz.func105, Tryz.ntmps105
  go_upto_region 1 with fail
  rw [HW.out, EB.out]
  go_wp2_with fail
  refine HBL.out.mono ?_
  rintro e w2 ⟨rfl, hb2⟩
  have HB2 := Lib.hid (HAL.out.trans (hb2.mono HAL.out.size))
  clear hb2
  cases br with
  | none =>
    dsimp only [doE]
    go_wp2_with fail
    go_end0
    exact ⟨rfl, HB2.out⟩
  | some c =>
    dsimp only [doE, flawE]
    exact ⟨rfl, rfl, HB2.out⟩

/-- A constant as a number. -/
def conD (d : FieldD) : FieldD := { d with high := d.low }
set_option maxRecDepth 100000 in
set_option maxHeartbeats 3200000 in
theorem constant_any (hx : ExAt w x m f kr A n cc kk) : Calls Tryz.prog 104 #[.pointer (some ⟨x, 0, none⟩), d.agg] w fun e w' => e = doE (unsR (conD d)) m f ∧ Below w.heap.size w w' := by
  unfold FieldD.agg
  have hal := below_alloc w (.cells #[.string (strL d.name), .int .i64 d.kind, .int .i64 d.bits, .bool d.little, .bool d.loose, .int .i64 d.low, .int .i64 d.high, .int .i64 d.base, .slice d.ta d.terms.length d.tc, .string (strL d.of_), .string (strL d.tag), .string (strL d.from_), .slice d.ca d.cases.length d.cc, .int .i64 d.check, .int .i64 d.key] 55)
  have hbx := FBox.new w d
  have hx1 := hx.below hal hx.lt
  obtain ⟨b, eb⟩ : ∃ b, w.heap.size = b := ⟨_, rfl⟩
  obtain ⟨w1, hw1⟩ : ∃ w1, w.alloc (.cells #[.string (strL d.name), .int .i64 d.kind, .int .i64 d.bits, .bool d.little, .bool d.loose, .int .i64 d.low, .int .i64 d.high, .int .i64 d.base, .slice d.ta d.terms.length d.tc, .string (strL d.of_), .string (strL d.tag), .string (strL d.from_), .slice d.ca d.cases.length d.cc, .int .i64 d.check, .int .i64 d.key] 55) = w1 := ⟨_, rfl⟩
  rw [hw1] at hal hbx hx1
  rw [eb] at hbx
  have HW := Lib.hid hw1
  have EB := Lib.hid eb
  have HAL := Lib.hid hal
  have HBX := Lib.hid hbx
  have HX := Lib.hid hx1
  clear hal hbx hx1 eb hw1 hx
  have q5 := HBX.out.c5
  have q6 := HBX.out.c6
  have fr := HBX.out.fr 6
  have hr3 := (Rest.refl (fun k => k = b) w1).setCell (S := fun k => k = b) (p := ⟨b, 6, none⟩) (fun _ => rfl) (.int .i64 d.low)
  have hx3 : FBox (w1.setCell ⟨b, 6, none⟩ (.int .i64 d.low)) b (conD d) := ⟨heap_setCell_same w1 b 6 _ 55 (.int .i64 d.low) HBX.out.blk⟩
  have hb3 := HAL.out.trans (hr3.toBelow w.heap.size HAL.out.size (fun k hk e => by have := EB.out; omega))
  have hx4 := HX.out.rest hr3 (fun e => by
    have h1 := HBX.out.blk
    rw [← e, HX.out.blk] at h1
    simp only [Option.some.injEq, Obj.cells.injEq] at h1
    exact absurd h1.2.1 (by decide))
  obtain ⟨w2, hw2⟩ : ∃ w2, w1.setCell ⟨b, 6, none⟩ (.int .i64 d.low) = w2 := ⟨_, rfl⟩
  rw [hw2] at hr3 hx3 hb3 hx4
  have W2 := Lib.hid hw2
  have X3 := Lib.hid hx3
  have HB3 := Lib.hid hb3
  have HUN := Lib.hid (unsigned_any x kr kk n cc m f A (conD d) w2 hx4)
  unfold FieldD.agg at HUN
  obtain ⟨br, hbr⟩ : ∃ br, unsR (conD d) = br := ⟨_, rfl⟩
  rw [hbr] at HUN ⊢
  clear hbr hr3 hx3 hb3 hx4 hw2
  go_enter Tryz.func104, Tryz.ntmps104
  go_upto_region 1 with fail
  rw [HW.out, EB.out]
  go_upto_region 2 with fail
  rw [W2.out]
  clear q5 q6 fr
  have q0 := X3.out.c0
  have q1 := X3.out.c1
  have q2 := X3.out.c2
  have q3 := X3.out.c3
  have q4 := X3.out.c4
  have q5 := X3.out.c5
  have q6 := X3.out.c6
  have q7 := X3.out.c7
  have q8 := X3.out.c8
  have q9 := X3.out.c9
  have q10 := X3.out.c10
  have q11 := X3.out.c11
  have q12 := X3.out.c12
  have q13 := X3.out.c13
  have q14 := X3.out.c14
  go_wp2_with fail
  refine HUN.out.mono ?_
  rintro e w3 ⟨rfl, hb4⟩
  have HB4 := Lib.hid (HB3.out.trans (hb4.mono HB3.out.size))
  clear hb4
  cases br with
  | none =>
    dsimp only [doE]
    go_wp2_with fail
    go_end0
    exact ⟨rfl, HB4.out⟩
  | some c =>
    dsimp only [doE, flawE]
    exact ⟨rfl, rfl, HB4.out⟩

def checkR (B : List FieldD) (d : FieldD) : Option Int := orR (ifR (inB d.check 1 3) 7) (ifR (B.any (fun e => e.name == d.from_)) 8)
set_option maxRecDepth 100000 in
set_option maxHeartbeats 3200000 in
theorem checksum_any (B : List FieldD) (S : Nat → Prop) (hx : ExAt w x m f kr A B.length cc kk) (hB : SlAt FieldD.cells 15 S w A cc B) : Calls Tryz.prog 113 #[.pointer (some ⟨x, 0, none⟩), d.agg] w fun e w' => e = doE (checkR B d) m f ∧ Below w.heap.size w w' := by
  unfold FieldD.agg
  have hB1 := hB.below (below_alloc w (.cells #[.string (strL d.name), .int .i64 d.kind, .int .i64 d.bits, .bool d.little, .bool d.loose, .int .i64 d.low, .int .i64 d.high, .int .i64 d.base, .slice d.ta d.terms.length d.tc, .string (strL d.of_), .string (strL d.tag), .string (strL d.from_), .slice d.ca d.cases.length d.cc, .int .i64 d.check, .int .i64 d.key] 55))
  have HBB := Lib.hid hB1
  clear hB1
  have hal := below_alloc w (.cells #[.string (strL d.name), .int .i64 d.kind, .int .i64 d.bits, .bool d.little, .bool d.loose, .int .i64 d.low, .int .i64 d.high, .int .i64 d.base, .slice d.ta d.terms.length d.tc, .string (strL d.of_), .string (strL d.tag), .string (strL d.from_), .slice d.ca d.cases.length d.cc, .int .i64 d.check, .int .i64 d.key] 55)
  have hbx := FBox.new w d
  have hx1 := hx.below hal hx.lt
  obtain ⟨b, eb⟩ : ∃ b, w.heap.size = b := ⟨_, rfl⟩
  obtain ⟨w1, hw1⟩ : ∃ w1, w.alloc (.cells #[.string (strL d.name), .int .i64 d.kind, .int .i64 d.bits, .bool d.little, .bool d.loose, .int .i64 d.low, .int .i64 d.high, .int .i64 d.base, .slice d.ta d.terms.length d.tc, .string (strL d.of_), .string (strL d.tag), .string (strL d.from_), .slice d.ca d.cases.length d.cc, .int .i64 d.check, .int .i64 d.key] 55) = w1 := ⟨_, rfl⟩
  rw [hw1] at hal hbx hx1
  rw [eb] at hbx
  have HW := Lib.hid hw1
  have EB := Lib.hid eb
  have HAL := Lib.hid hal
  have HBX := Lib.hid hbx
  have HX := Lib.hid hx1
  clear hal hbx hx1 eb hw1 hx
  rw [HW.out] at HBB
  have KB : Hid (∀ wx, Below w1.heap.size w1 wx → FBox wx b d ∧ ExAt wx x m f kr A B.length cc kk) := Lib.hid (fun wx hb => ⟨HBX.out.below hb HBX.out.lt, HX.out.below hb HX.out.lt⟩)
  have HDM : ∀ bv cd wx, Below w1.heap.size w1 wx → Hid (Calls Tryz.prog 115 #[.pointer (some ⟨x, 0, none⟩), .bool bv, .int .i64 cd] wx fun e w' => e = doE (ifR bv cd) m f ∧ Below wx.heap.size wx w') := fun bv cd wx hb => Lib.hid (demand_any x kr kk B.length cc m f A bv cd wx (KB.out wx hb).2)
  have HFI : Hid (∀ wx, Below w1.heap.size w1 wx → Calls Tryz.prog 142 #[.agg #[.string ⟨#[]⟩, .slice A B.length cc], .string (strL d.from_)] wx fun e w' => e = .returned (.tuple #[.int .i64 (max (idxOf (fun e => e.name == d.from_) B) 0), .bool (B.any (fun e => e.name == d.from_))]) ∧ Below wx.heap.size wx w') := Lib.hid (fun wx hb => field_find [] A cc B d.from_ S wx (HBB.out.below hb))
  have HI := fun w => Lib.hid (withinS d.check 1 3 w)
  unfold checkR
  obtain ⟨c1, hc1⟩ : ∃ c, inB d.check 1 3 = c := ⟨_, rfl⟩
  obtain ⟨tw, htw⟩ : ∃ tw, B.any (fun e => e.name == d.from_) = tw := ⟨_, rfl⟩
  obtain ⟨ix, hix⟩ : ∃ ix, max (idxOf (fun e : FieldD => e.name == d.from_) B) 0 = ix := ⟨_, rfl⟩
  rw [htw, hix] at HFI
  rw [hc1] at HI
  rw [hc1, htw]
  have KEEP : Hid (∀ wx, Below w1.heap.size w1 wx → wx.cell? ⟨b, 11, none⟩ = some (.string (strL d.from_)) ∧ wx.cell? ⟨x, 4, none⟩ = some (.slice A B.length cc)) := Lib.hid (fun wx hb => ⟨(KB.out wx hb).1.c11, (KB.out wx hb).2.c4⟩)
  have q13 := HBX.out.c13
  clear hc1 htw hix
  go_enter Tryz.func113, Tryz.ntmps113
  go_upto_region 1 with fail
  rw [HW.out, EB.out]
  go_wp2_with (go_at_call 102; refine ((HI _).out).mono ?_; rintro e w' ⟨rfl, hw'⟩; have hw'' := hw'.symm; clear hw'; subst hw'')
  cases c1
  · have HD := Lib.hid (HDM false 7 w1 (Below.refl _ _)).out
    unfold ifR doE flawE at HD
    simp only [Bool.false_eq_true, if_false] at HD
    refine HD.out.mono ?_
    rintro e w2 ⟨rfl, hb2⟩
    exact ⟨rfl, rfl, HAL.out.trans (hb2.mono HAL.out.size)⟩
  · have HD := Lib.hid (HDM true 7 w1 (Below.refl _ _)).out
    unfold ifR doE at HD
    simp only [if_true] at HD
    refine HD.out.mono ?_
    rintro e w2 ⟨rfl, hb2⟩
    have HB2 := Lib.hid hb2
    clear hb2 HD q13
    obtain ⟨u0, u4⟩ := KEEP.out w2 HB2.out
    go_upto_region 2 with fail
    refine wp_region_noPanic ?_
    go_region_held (fun w' => w'.cell? ⟨b, 11, none⟩ = some (.string (strL d.from_)) ∧ w'.cell? ⟨x, 4, none⟩ = some (.slice A B.length cc)) (first | exact KEEP.out _ HB2.out.drew | exact KEEP.out _ HB3.out | exact KEEP.out _ HB2.out) (first | (go_at_call 142; refine (HFI.out _ (by first | exact HB2.out.drew | exact HB2.out)).mono ?_; rintro e w3 ⟨rfl, hb3⟩; have HB3 := Lib.hid (by first | exact (HB2.out.drew).trans (hb3.mono HB2.out.size) | exact HB2.out.trans (hb3.mono HB2.out.size) : Below w1.heap.size w1 w3); clear hb3))
    all_goals
      refine NoPanic.normal ?_
      clear u0 u4
      go_wp2_with fail
      cases tw
      · have HD := Lib.hid (HDM false 8 w3 HB3.out).out
        unfold ifR doE flawE at HD
        simp only [Bool.false_eq_true, if_false] at HD
        refine HD.out.mono ?_
        rintro e w4 ⟨rfl, hb4⟩
        exact ⟨rfl, rfl, HAL.out.trans ((HB3.out.trans (hb4.mono HB3.out.size)).mono HAL.out.size)⟩
      · have HD := Lib.hid (HDM true 8 w3 HB3.out).out
        unfold ifR doE at HD
        simp only [if_true] at HD
        refine HD.out.mono ?_
        rintro e w4 ⟨rfl, hb4⟩
        have HB4 := Lib.hid (HAL.out.trans ((HB3.out.trans (hb4.mono HB3.out.size)).mono HAL.out.size))
        clear hb4
        go_wp2_with fail
        go_end0
        exact ⟨rfl, HB4.out⟩

def viewR (E : Nats) (d : FieldD) (R : Option Int) : Option Int := orR (ifR (inB d.key 0 4294967295) 7) (orR (ifR ((getN E d.of_).getD (0, false)).2 8) R)
set_option maxRecDepth 100000 in
set_option maxHeartbeats 3200000 in
theorem view_of (E : Nats) (R2 : Option Int) (hx : ExAt w x m f kr A n cc kk) (hm : MapAt w kr (natE E))
    (hS : ((getN E d.of_).getD (0, false)).2 = true → ∀ wx, Below w.heap.size w wx → Calls Tryz.prog 106 #[.pointer (some ⟨x, 0, none⟩), d.agg] wx fun e w' => e = doE R2 m f ∧ Below wx.heap.size wx w') :
    Calls Tryz.prog 114 #[.pointer (some ⟨x, 0, none⟩), d.agg] w fun e w' => e = doE (viewR E d R2) m f ∧ Below w.heap.size w w' := by
  have hm0 := hm
  have HSZ := Lib.hid hS
  clear hS hm
  unfold FieldD.agg at HSZ ⊢
  have hal := below_alloc w (.cells #[.string (strL d.name), .int .i64 d.kind, .int .i64 d.bits, .bool d.little, .bool d.loose, .int .i64 d.low, .int .i64 d.high, .int .i64 d.base, .slice d.ta d.terms.length d.tc, .string (strL d.of_), .string (strL d.tag), .string (strL d.from_), .slice d.ca d.cases.length d.cc, .int .i64 d.check, .int .i64 d.key] 55)
  have hbx := FBox.new w d
  have hx1 := hx.below hal hx.lt
  obtain ⟨b, eb⟩ : ∃ b, w.heap.size = b := ⟨_, rfl⟩
  obtain ⟨w1, hw1⟩ : ∃ w1, w.alloc (.cells #[.string (strL d.name), .int .i64 d.kind, .int .i64 d.bits, .bool d.little, .bool d.loose, .int .i64 d.low, .int .i64 d.high, .int .i64 d.base, .slice d.ta d.terms.length d.tc, .string (strL d.of_), .string (strL d.tag), .string (strL d.from_), .slice d.ca d.cases.length d.cc, .int .i64 d.check, .int .i64 d.key] 55) = w1 := ⟨_, rfl⟩
  rw [hw1] at hal hbx hx1
  rw [eb] at hbx
  have HW := Lib.hid hw1
  have EB := Lib.hid eb
  have HAL := Lib.hid hal
  have HBX := Lib.hid hbx
  have HX := Lib.hid hx1
  clear hal hbx hx1 eb hw1 hx
  have KB : Hid (∀ wx, Below w1.heap.size w1 wx → FBox wx b d ∧ ExAt wx x m f kr A n cc kk) := Lib.hid (fun wx hb => ⟨HBX.out.below hb HBX.out.lt, HX.out.below hb HX.out.lt⟩)
  have hm1 := hm0.below HAL.out hm0.lt
  have KM : Hid (∀ wx, Below w1.heap.size w1 wx → MapAt wx kr (natE E)) := Lib.hid (fun wx hb => hm1.below hb hm1.lt)
  have HDM : ∀ bv cd wx, Below w1.heap.size w1 wx → Hid (Calls Tryz.prog 115 #[.pointer (some ⟨x, 0, none⟩), .bool bv, .int .i64 cd] wx fun e w' => e = doE (ifR bv cd) m f ∧ Below wx.heap.size wx w') := fun bv cd wx hb => Lib.hid (demand_any x kr kk n cc m f A bv cd wx (KB.out wx hb).2)
  have HI := fun w => Lib.hid (withinS d.key 0 4294967295 w)
  unfold viewR
  obtain ⟨c1, hc1⟩ : ∃ c, inB d.key 0 4294967295 = c := ⟨_, rfl⟩
  obtain ⟨o, ho⟩ : ∃ o, getN E d.of_ = o := ⟨_, rfl⟩
  have KL : Hid (∀ wx, Below w1.heap.size w1 wx → (Instr.lookup 88 (.map (some kr)) (.string (strL d.of_)) false).run Tryz.prog wx = .ok (.agg #[.int .i64 (o.getD (0, false)).1, .bool (o.getD (0, false)).2]) wx) := Lib.hid (fun wx hb => by
    have hrun := run_look (P := Tryz.prog) Tryz.underlying88 Tryz.ustr (Tryz.zeroNat wx) (KM.out wx hb) d.of_
    rw [hrun, getE_nat, ho]
    cases o <;> rfl)
  rw [hc1] at HI
  rw [ho] at HSZ
  rw [hc1, ho]
  generalize (o.getD (0, false)).1 = v0 at KL
  generalize (o.getD (0, false)).2 = v1 at KL HSZ ⊢
  have q14 := HBX.out.c14
  clear hc1 ho hm0 hm1
  go_enter Tryz.func114, Tryz.ntmps114
  go_upto_region 1 with fail
  rw [HW.out, EB.out]
  go_wp2_with (go_at_call 102; refine ((HI _).out).mono ?_; rintro e w' ⟨rfl, hw'⟩; have hw'' := hw'.symm; clear hw'; subst hw'')
  cases c1
  · have HD := Lib.hid (HDM false 7 w1 (Below.refl _ _)).out
    unfold ifR doE flawE at HD
    simp only [Bool.false_eq_true, if_false] at HD
    refine HD.out.mono ?_
    rintro e w2 ⟨rfl, hb2⟩
    exact ⟨rfl, rfl, HAL.out.trans (hb2.mono HAL.out.size)⟩
  · have HD := Lib.hid (HDM true 7 w1 (Below.refl _ _)).out
    unfold ifR doE at HD
    simp only [if_true] at HD
    refine HD.out.mono ?_
    rintro e w2 ⟨rfl, hb2⟩
    have HB2 := Lib.hid hb2
    clear hb2 HD q14
    have u3 := (KB.out w2 HB2.out).2.c3
    have u9 := (KB.out w2 HB2.out).1.c9
    have hrun := KL.out w2 HB2.out
    have hrun1 := KL.out w2.drew HB2.out.drew
    have hfl := fun (w : World) => Tryz.fieldNat v0 v1 w
    go_upto_region 2 with fail
    go_still_tail 9, (by kernel_rfl)
    change wpList _ _ _ _ _ w2.drew
    have HBd := Lib.hid HB2.out.drew
    obtain ⟨w3, hw3⟩ : ∃ w3, w2.drew = w3 := ⟨_, rfl⟩
    rw [hw3] at HBd
    rw [hw3]
    clear hw3 u3 u9 hrun hrun1 hfl
    go_wp2_with fail
    cases v1
    · have HD := Lib.hid (HDM false 8 w3 HBd.out).out
      unfold ifR doE flawE at HD
      simp only [Bool.false_eq_true, if_false] at HD
      refine HD.out.mono ?_
      rintro e w4 ⟨rfl, hb4⟩
      exact ⟨rfl, rfl, HAL.out.trans ((HBd.out.trans (hb4.mono HBd.out.size)).mono HAL.out.size)⟩
    · have HD := Lib.hid (HDM true 8 w3 HBd.out).out
      unfold ifR doE at HD
      simp only [if_true] at HD
      refine HD.out.mono ?_
      rintro e w4 ⟨rfl, hb4⟩
      have HB4 := Lib.hid (HBd.out.trans (hb4.mono HBd.out.size))
      clear hb4 HD
      have hk := (KB.out w4 HB4.out).1
      have q0 := hk.c0
      have q1 := hk.c1
      have q2 := hk.c2
      have q3 := hk.c3
      have q4 := hk.c4
      have q5 := hk.c5
      have q6 := hk.c6
      have q7 := hk.c7
      have q8 := hk.c8
      have q9 := hk.c9
      have q10 := hk.c10
      have q11 := hk.c11
      have q12 := hk.c12
      have q13 := hk.c13
      have q14 := hk.c14
      clear hk
      go_wp2_with fail
      have HB14 := Lib.hid (HAL.out.trans (HB4.out.mono HAL.out.size))
      refine (HSZ.out (by first | exact rfl | trivial) _ HB14.out).mono ?_
      rintro e w5 ⟨rfl, hb5⟩
      have HB5 := Lib.hid (HB14.out.trans (hb5.mono HB14.out.size))
      clear hb5
      cases R2 with
      | none =>
        dsimp only [doE]
        go_wp2_with fail
        go_end0
        exact ⟨rfl, HB5.out⟩
      | some c =>
        dsimp only [doE, flawE]
        exact ⟨rfl, rfl, HB5.out⟩
end
end Go.Proofs.YtbpkppmbbpoohaaGreat

namespace Go.Proofs.YtbpkppmbbpoohaaGreat
open Go.RowKit Go.Shelf

def targB (d : FieldD) : List (List UInt8) := if d.kind == 9 then d.cases.map (·.of_) else if d.kind == 7 || d.kind == 8 || d.kind == 12 then [d.of_] else []

theorem slAt_one {W : World} {base : Nat} {s : List UInt8} {t : TypeId} (h : base ≤ W.heap.size) : SlAt strCells 1 (fun i => i < base) (W.alloc (.cells #[.string (strL s)] t)) (some ⟨W.heap.size, 0, none⟩) 1 [s] := by
  refine ⟨Nat.le_refl _, by omega, fun i d hi => ?_⟩
  have h0 : i = 0 := by
    have := (List.getElem?_eq_some_iff.1 hi).1
    simp at this; omega
  subst h0
  simp only [List.getElem?_cons_zero, Option.some.injEq] at hi
  subst hi
  refine ⟨W.heap.size, 0, rfl, by show ¬ W.heap.size < base; omega, fun j u hu => ?_⟩
  have h0 : j = 0 := by
    have := (List.getElem?_eq_some_iff.1 hu).1
    simp [strCells] at this; omega
  subst h0
  simp only [strCells, List.getElem?_cons_zero, Option.some.injEq] at hu
  subst hu
  simp
theorem slAt_none {W : World} {S : Nat → Prop} {A : Option Addr} : SlAt strCells 1 S W A 0 [] := ⟨Nat.le_refl _, by omega, fun i d hi => by simp at hi⟩

set_option maxRecDepth 100000 in
set_option maxHeartbeats 1600000 in
theorem targets_any (d : FieldD) (w : World) (h9 : d.kind ≠ 9) : Calls Tryz.prog 74 #[d.agg] w fun e w' => ∃ A c, e = .returned (.slice A (targB d).length c) ∧ SlAt strCells 1 (fun i => i < w.heap.size) w' A c (targB d) ∧ Below w.heap.size w w' := by
  unfold FieldD.agg
  have hal := below_alloc w (.cells #[.string (strL d.name), .int .i64 d.kind, .int .i64 d.bits, .bool d.little, .bool d.loose, .int .i64 d.low, .int .i64 d.high, .int .i64 d.base, .slice d.ta d.terms.length d.tc, .string (strL d.of_), .string (strL d.tag), .string (strL d.from_), .slice d.ca d.cases.length d.cc, .int .i64 d.check, .int .i64 d.key] 55)
  have hbx := FBox.new w d
  obtain ⟨b, eb⟩ : ∃ b, w.heap.size = b := ⟨_, rfl⟩
  obtain ⟨w1, hw1⟩ : ∃ w1, w.alloc (.cells #[.string (strL d.name), .int .i64 d.kind, .int .i64 d.bits, .bool d.little, .bool d.loose, .int .i64 d.low, .int .i64 d.high, .int .i64 d.base, .slice d.ta d.terms.length d.tc, .string (strL d.of_), .string (strL d.tag), .string (strL d.from_), .slice d.ca d.cases.length d.cc, .int .i64 d.check, .int .i64 d.key] 55) = w1 := ⟨_, rfl⟩
  rw [hw1] at hal hbx
  rw [eb] at hbx
  have HW := Lib.hid hw1
  have EB := Lib.hid eb
  have HAL := Lib.hid hal
  have y1 := hbx.c1
  have y8 := hbx.c9
  have e9 : (d.kind == 9) = false := by simpa using h9
  obtain ⟨s7, e7⟩ : ∃ s, (d.kind == 7) = s := ⟨_, rfl⟩
  obtain ⟨s8, e8⟩ : ∃ s, (d.kind == 8) = s := ⟨_, rfl⟩
  obtain ⟨s12, e12⟩ : ∃ s, (d.kind == 12) = s := ⟨_, rfl⟩
  have hr : targB d = if s7 || s8 || s12 then [d.of_] else [] := by unfold targB; rw [e9, e7, e8, e12]; rfl
  obtain ⟨N, hN⟩ : ∃ N, targB d = N := ⟨_, rfl⟩
  rw [hN] at hr ⊢
  have HR := Lib.hid hr
  have ONE := Lib.hid (fun t => slAt_one (W := w1) (base := w.heap.size) (s := d.of_) (t := t) hal.size)
  have HBN := Lib.hid (fun o => hal.trans ((below_alloc w1 o).mono hal.size))
  clear hal hbx eb hw1 hN hr h9
  cases s7
  · cases s8
    · cases s12
      · have hn : N = [] := HR.out
        subst hn
        go_enter Tryz.func74, Tryz.ntmps74
        go_upto_region 1 with fail
        rw [HW.out, EB.out]
        go_wp2_with fail
        go_ret
        exact ⟨none, 0, rfl, slAt_none, HAL.out⟩
      · have hn : N = [d.of_] := HR.out
        subst hn
        go_enter Tryz.func74, Tryz.ntmps74
        go_upto_region 1 with fail
        rw [HW.out, EB.out]
        go_wp2_with fail
        go_ret
        exact ⟨_, 1, rfl, ONE.out _, HBN.out _⟩
    · have hn : N = [d.of_] := HR.out
      subst hn
      go_enter Tryz.func74, Tryz.ntmps74
      go_upto_region 1 with fail
      rw [HW.out, EB.out]
      go_wp2_with fail
      go_ret
      exact ⟨_, 1, rfl, ONE.out _, HBN.out _⟩
  · have hn : N = [d.of_] := HR.out
    subst hn
    go_enter Tryz.func74, Tryz.ntmps74
    go_upto_region 1 with fail
    rw [HW.out, EB.out]
    go_wp2_with fail
    go_ret
    exact ⟨_, 1, rfl, ONE.out _, HBN.out _⟩
end Go.Proofs.YtbpkppmbbpoohaaGreat
