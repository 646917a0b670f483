/- What a field has that its kind does not use. No conditions. The condition on sizes, for valid sizes of numbers with allowed ranges. Conditions: the examination, its fields and the terms lie in memory. -/
import Derived.Test.YtbpkppmbbpoohaaGreatJa
import Derived.Test.YtbpkppmbbpoohaaGreatHb
import Derived.Deep.RegionHeld3
namespace Go.Proofs.YtbpkppmbbpoohaaGreat
open Go.RowKit Go.Shelf

/-- The outlines that are compared. -/
def outC1 (d : FieldD) : Value := .agg #[.string (strL d.name), .int .i64 1, .bool false, .bool d.loose, .int .i64 0, .int .i64 0, .int .i64 0, .int .i64 d.base, .int .i64 (d.terms.length : Int), .int .i64 (d.cases.length : Int), .int .i64 d.check, .int .i64 d.key, .string (strL d.of_), .string (strL d.tag), .string (strL d.from_)]
def outZ1 (d : FieldD) : Value := .agg #[.string (strL d.name), .int .i64 1, .bool false, .bool false, .int .i64 0, .int .i64 0, .int .i64 0, .int .i64 0, .int .i64 0, .int .i64 0, .int .i64 0, .int .i64 0, .string ⟨#[]⟩, .string ⟨#[]⟩, .string ⟨#[]⟩]
set_option maxRecDepth 100000 in
set_option maxHeartbeats 6400000 in
theorem spare_1 (d : FieldD) (R : Bool) (w : World) (hk : d.kind = 1) (hr : ∀ w, (binOp .neq 167 (outC1 d) (outZ1 d)).run Tryz.prog w = .ok (.bool R) w) :
    Calls Tryz.prog 160 #[d.agg] w fun e w' => e = .returned (.bool R) ∧ Below w.heap.size w w' := by
  unfold outC1 outZ1 at hr
  unfold FieldD.agg
  have hal := below_alloc w (.cells #[.string (strL d.name), .int .i64 d.kind, .int .i64 d.bits, .bool d.little, .bool d.loose, .int .i64 d.low, .int .i64 d.high, .int .i64 d.base, .slice d.ta d.terms.length d.tc, .string (strL d.of_), .string (strL d.tag), .string (strL d.from_), .slice d.ca d.cases.length d.cc, .int .i64 d.check, .int .i64 d.key] 55)
  have hbx := FBox.new w d
  obtain ⟨b, eb⟩ : ∃ b, w.heap.size = b := ⟨_, rfl⟩
  obtain ⟨w1, hw1⟩ : ∃ w1, w.alloc (.cells #[.string (strL d.name), .int .i64 d.kind, .int .i64 d.bits, .bool d.little, .bool d.loose, .int .i64 d.low, .int .i64 d.high, .int .i64 d.base, .slice d.ta d.terms.length d.tc, .string (strL d.of_), .string (strL d.tag), .string (strL d.from_), .slice d.ca d.cases.length d.cc, .int .i64 d.check, .int .i64 d.key] 55) = w1 := ⟨_, rfl⟩
  rw [hw1] at hal hbx
  rw [eb] at hbx
  have KN : Hid (∀ wx, Below w1.heap.size w1 wx → wx.cell? ⟨b, 0, none⟩ = some (.string (strL d.name)) ∧ wx.cell? ⟨b, 1, none⟩ = some (.int .i64 1) ∧ wx.cell? ⟨b, 2, none⟩ = some (.int .i64 d.bits) ∧ wx.cell? ⟨b, 3, none⟩ = some (.bool d.little) ∧ wx.cell? ⟨b, 4, none⟩ = some (.bool d.loose) ∧ wx.cell? ⟨b, 5, none⟩ = some (.int .i64 d.low) ∧ wx.cell? ⟨b, 6, none⟩ = some (.int .i64 d.high) ∧ wx.cell? ⟨b, 7, none⟩ = some (.int .i64 d.base) ∧ wx.cell? ⟨b, 8, none⟩ = some (.slice d.ta d.terms.length d.tc) ∧ wx.cell? ⟨b, 9, none⟩ = some (.string (strL d.of_)) ∧ wx.cell? ⟨b, 10, none⟩ = some (.string (strL d.tag)) ∧ wx.cell? ⟨b, 11, none⟩ = some (.string (strL d.from_)) ∧ wx.cell? ⟨b, 12, none⟩ = some (.slice d.ca d.cases.length d.cc) ∧ wx.cell? ⟨b, 13, none⟩ = some (.int .i64 d.check) ∧ wx.cell? ⟨b, 14, none⟩ = some (.int .i64 d.key)) := Lib.hid (fun wx hb => by
    have h := hbx.below hb hbx.lt
    exact ⟨h.c0, by have := h.c1; rwa [hk] at this, h.c2, h.c3, h.c4, h.c5, h.c6, h.c7, h.c8, h.c9, h.c10, h.c11, h.c12, h.c13, h.c14⟩)
  have hw2 := hw1
  have hcl := fun wx => cleared_1 d wx hk
  rw [hk] at hw2 hcl ⊢
  have HW := Lib.hid hw2
  have HCL := fun wx => Lib.hid (hcl wx)
  have EB := Lib.hid eb
  have HAL := Lib.hid hal
  obtain ⟨y0, y1, y2, y3, y4, y5, y6, y7, y8, y9, y10, y11, y12, y13, y14⟩ := KN.out w1 (Below.refl _ _)
  clear hal hbx eb hw1 hk hw2 hcl
  go_enter Tryz.func160, Tryz.ntmps160
  go_upto_region 1 with fail
  rw [HW.out, EB.out]
  go_region_held (fun wx => wx.cell? ⟨b, 0, none⟩ = some (.string (strL d.name)) ∧ wx.cell? ⟨b, 1, none⟩ = some (.int .i64 1) ∧ wx.cell? ⟨b, 2, none⟩ = some (.int .i64 d.bits) ∧ wx.cell? ⟨b, 3, none⟩ = some (.bool d.little) ∧ wx.cell? ⟨b, 4, none⟩ = some (.bool d.loose) ∧ wx.cell? ⟨b, 5, none⟩ = some (.int .i64 d.low) ∧ wx.cell? ⟨b, 6, none⟩ = some (.int .i64 d.high) ∧ wx.cell? ⟨b, 7, none⟩ = some (.int .i64 d.base) ∧ wx.cell? ⟨b, 8, none⟩ = some (.slice d.ta d.terms.length d.tc) ∧ wx.cell? ⟨b, 9, none⟩ = some (.string (strL d.of_)) ∧ wx.cell? ⟨b, 10, none⟩ = some (.string (strL d.tag)) ∧ wx.cell? ⟨b, 11, none⟩ = some (.string (strL d.from_)) ∧ wx.cell? ⟨b, 12, none⟩ = some (.slice d.ca d.cases.length d.cc) ∧ wx.cell? ⟨b, 13, none⟩ = some (.int .i64 d.check) ∧ wx.cell? ⟨b, 14, none⟩ = some (.int .i64 d.key)) (first | exact KN.out _ (Below.refl _ _).drew | exact KN.out _ HBc.out | exact KN.out _ HBb.out | exact KN.out _ HBa.out | exact KN.out _ (Below.refl _ _)) (first | (go_at_call 178; refine ((HCL _).out).mono ?_; rintro e wa ⟨rfl, hba⟩; have HBa := Lib.hid (by first | exact (Below.refl _ _).drew.trans hba | exact hba : Below w1.heap.size w1 wa); clear hba) | (go_at_call 132; refine (outline_any _ _ _ _ _ _ _ _ _ _ _ _ _ _ _ _ _ _ _ _).mono ?_; rintro e wb ⟨rfl, hbb⟩; first | (have HBc := Lib.hid (HBb.out.trans (hbb.mono HBb.out.size)); clear hbb) | (have HBb := Lib.hid (HBa.out.trans (hbb.mono HBa.out.size)); clear hbb)))
  all_goals
    go_wp2_with fail
    go_ret
    exact ⟨rfl, HAL.out.trans (HBc.out.mono HAL.out.size)⟩

/-- The outlines that are compared. -/
def outC4 (d : FieldD) : Value := .agg #[.string (strL d.name), .int .i64 4, .bool d.little, .bool d.loose, .int .i64 d.bits, .int .i64 d.low, .int .i64 d.high, .int .i64 0, .int .i64 0, .int .i64 (d.cases.length : Int), .int .i64 d.check, .int .i64 d.key, .string (strL d.of_), .string (strL d.tag), .string (strL d.from_)]
def outZ4 (d : FieldD) : Value := .agg #[.string (strL d.name), .int .i64 4, .bool false, .bool false, .int .i64 0, .int .i64 0, .int .i64 0, .int .i64 0, .int .i64 0, .int .i64 0, .int .i64 0, .int .i64 0, .string ⟨#[]⟩, .string ⟨#[]⟩, .string ⟨#[]⟩]
set_option maxRecDepth 100000 in
set_option maxHeartbeats 6400000 in
theorem spare_4 (d : FieldD) (R : Bool) (w : World) (hk : d.kind = 4) (hr : ∀ w, (binOp .neq 167 (outC4 d) (outZ4 d)).run Tryz.prog w = .ok (.bool R) w) :
    Calls Tryz.prog 160 #[d.agg] w fun e w' => e = .returned (.bool R) ∧ Below w.heap.size w w' := by
  unfold outC4 outZ4 at hr
  unfold FieldD.agg
  have hal := below_alloc w (.cells #[.string (strL d.name), .int .i64 d.kind, .int .i64 d.bits, .bool d.little, .bool d.loose, .int .i64 d.low, .int .i64 d.high, .int .i64 d.base, .slice d.ta d.terms.length d.tc, .string (strL d.of_), .string (strL d.tag), .string (strL d.from_), .slice d.ca d.cases.length d.cc, .int .i64 d.check, .int .i64 d.key] 55)
  have hbx := FBox.new w d
  obtain ⟨b, eb⟩ : ∃ b, w.heap.size = b := ⟨_, rfl⟩
  obtain ⟨w1, hw1⟩ : ∃ w1, w.alloc (.cells #[.string (strL d.name), .int .i64 d.kind, .int .i64 d.bits, .bool d.little, .bool d.loose, .int .i64 d.low, .int .i64 d.high, .int .i64 d.base, .slice d.ta d.terms.length d.tc, .string (strL d.of_), .string (strL d.tag), .string (strL d.from_), .slice d.ca d.cases.length d.cc, .int .i64 d.check, .int .i64 d.key] 55) = w1 := ⟨_, rfl⟩
  rw [hw1] at hal hbx
  rw [eb] at hbx
  have KN : Hid (∀ wx, Below w1.heap.size w1 wx → wx.cell? ⟨b, 0, none⟩ = some (.string (strL d.name)) ∧ wx.cell? ⟨b, 1, none⟩ = some (.int .i64 4) ∧ wx.cell? ⟨b, 2, none⟩ = some (.int .i64 d.bits) ∧ wx.cell? ⟨b, 3, none⟩ = some (.bool d.little) ∧ wx.cell? ⟨b, 4, none⟩ = some (.bool d.loose) ∧ wx.cell? ⟨b, 5, none⟩ = some (.int .i64 d.low) ∧ wx.cell? ⟨b, 6, none⟩ = some (.int .i64 d.high) ∧ wx.cell? ⟨b, 7, none⟩ = some (.int .i64 d.base) ∧ wx.cell? ⟨b, 8, none⟩ = some (.slice d.ta d.terms.length d.tc) ∧ wx.cell? ⟨b, 9, none⟩ = some (.string (strL d.of_)) ∧ wx.cell? ⟨b, 10, none⟩ = some (.string (strL d.tag)) ∧ wx.cell? ⟨b, 11, none⟩ = some (.string (strL d.from_)) ∧ wx.cell? ⟨b, 12, none⟩ = some (.slice d.ca d.cases.length d.cc) ∧ wx.cell? ⟨b, 13, none⟩ = some (.int .i64 d.check) ∧ wx.cell? ⟨b, 14, none⟩ = some (.int .i64 d.key)) := Lib.hid (fun wx hb => by
    have h := hbx.below hb hbx.lt
    exact ⟨h.c0, by have := h.c1; rwa [hk] at this, h.c2, h.c3, h.c4, h.c5, h.c6, h.c7, h.c8, h.c9, h.c10, h.c11, h.c12, h.c13, h.c14⟩)
  have hw2 := hw1
  have hcl := fun wx => cleared_4 d wx hk
  rw [hk] at hw2 hcl ⊢
  have HW := Lib.hid hw2
  have HCL := fun wx => Lib.hid (hcl wx)
  have EB := Lib.hid eb
  have HAL := Lib.hid hal
  obtain ⟨y0, y1, y2, y3, y4, y5, y6, y7, y8, y9, y10, y11, y12, y13, y14⟩ := KN.out w1 (Below.refl _ _)
  clear hal hbx eb hw1 hk hw2 hcl
  go_enter Tryz.func160, Tryz.ntmps160
  go_upto_region 1 with fail
  rw [HW.out, EB.out]
  go_region_held (fun wx => wx.cell? ⟨b, 0, none⟩ = some (.string (strL d.name)) ∧ wx.cell? ⟨b, 1, none⟩ = some (.int .i64 4) ∧ wx.cell? ⟨b, 2, none⟩ = some (.int .i64 d.bits) ∧ wx.cell? ⟨b, 3, none⟩ = some (.bool d.little) ∧ wx.cell? ⟨b, 4, none⟩ = some (.bool d.loose) ∧ wx.cell? ⟨b, 5, none⟩ = some (.int .i64 d.low) ∧ wx.cell? ⟨b, 6, none⟩ = some (.int .i64 d.high) ∧ wx.cell? ⟨b, 7, none⟩ = some (.int .i64 d.base) ∧ wx.cell? ⟨b, 8, none⟩ = some (.slice d.ta d.terms.length d.tc) ∧ wx.cell? ⟨b, 9, none⟩ = some (.string (strL d.of_)) ∧ wx.cell? ⟨b, 10, none⟩ = some (.string (strL d.tag)) ∧ wx.cell? ⟨b, 11, none⟩ = some (.string (strL d.from_)) ∧ wx.cell? ⟨b, 12, none⟩ = some (.slice d.ca d.cases.length d.cc) ∧ wx.cell? ⟨b, 13, none⟩ = some (.int .i64 d.check) ∧ wx.cell? ⟨b, 14, none⟩ = some (.int .i64 d.key)) (first | exact KN.out _ (Below.refl _ _).drew | exact KN.out _ HBc.out | exact KN.out _ HBb.out | exact KN.out _ HBa.out | exact KN.out _ (Below.refl _ _)) (first | (go_at_call 178; refine ((HCL _).out).mono ?_; rintro e wa ⟨rfl, hba⟩; have HBa := Lib.hid (by first | exact (Below.refl _ _).drew.trans hba | exact hba : Below w1.heap.size w1 wa); clear hba) | (go_at_call 132; refine (outline_any _ _ _ _ _ _ _ _ _ _ _ _ _ _ _ _ _ _ _ _).mono ?_; rintro e wb ⟨rfl, hbb⟩; first | (have HBc := Lib.hid (HBb.out.trans (hbb.mono HBb.out.size)); clear hbb) | (have HBb := Lib.hid (HBa.out.trans (hbb.mono HBa.out.size)); clear hbb)))
  all_goals
    go_wp2_with fail
    go_ret
    exact ⟨rfl, HAL.out.trans (HBc.out.mono HAL.out.size)⟩

/-- The outlines that are compared. -/
def outC7 (d : FieldD) : Value := .agg #[.string (strL d.name), .int .i64 7, .bool d.little, .bool d.loose, .int .i64 d.bits, .int .i64 d.low, .int .i64 d.high, .int .i64 0, .int .i64 0, .int .i64 (d.cases.length : Int), .int .i64 d.check, .int .i64 d.key, .string ⟨#[]⟩, .string (strL d.tag), .string (strL d.from_)]
def outZ7 (d : FieldD) : Value := .agg #[.string (strL d.name), .int .i64 7, .bool false, .bool false, .int .i64 0, .int .i64 0, .int .i64 0, .int .i64 0, .int .i64 0, .int .i64 0, .int .i64 0, .int .i64 0, .string ⟨#[]⟩, .string ⟨#[]⟩, .string ⟨#[]⟩]
set_option maxRecDepth 100000 in
set_option maxHeartbeats 6400000 in
theorem spare_7 (d : FieldD) (R : Bool) (w : World) (hk : d.kind = 7) (hr : ∀ w, (binOp .neq 167 (outC7 d) (outZ7 d)).run Tryz.prog w = .ok (.bool R) w) :
    Calls Tryz.prog 160 #[d.agg] w fun e w' => e = .returned (.bool R) ∧ Below w.heap.size w w' := by
  unfold outC7 outZ7 at hr
  unfold FieldD.agg
  have hal := below_alloc w (.cells #[.string (strL d.name), .int .i64 d.kind, .int .i64 d.bits, .bool d.little, .bool d.loose, .int .i64 d.low, .int .i64 d.high, .int .i64 d.base, .slice d.ta d.terms.length d.tc, .string (strL d.of_), .string (strL d.tag), .string (strL d.from_), .slice d.ca d.cases.length d.cc, .int .i64 d.check, .int .i64 d.key] 55)
  have hbx := FBox.new w d
  obtain ⟨b, eb⟩ : ∃ b, w.heap.size = b := ⟨_, rfl⟩
  obtain ⟨w1, hw1⟩ : ∃ w1, w.alloc (.cells #[.string (strL d.name), .int .i64 d.kind, .int .i64 d.bits, .bool d.little, .bool d.loose, .int .i64 d.low, .int .i64 d.high, .int .i64 d.base, .slice d.ta d.terms.length d.tc, .string (strL d.of_), .string (strL d.tag), .string (strL d.from_), .slice d.ca d.cases.length d.cc, .int .i64 d.check, .int .i64 d.key] 55) = w1 := ⟨_, rfl⟩
  rw [hw1] at hal hbx
  rw [eb] at hbx
  have KN : Hid (∀ wx, Below w1.heap.size w1 wx → wx.cell? ⟨b, 0, none⟩ = some (.string (strL d.name)) ∧ wx.cell? ⟨b, 1, none⟩ = some (.int .i64 7) ∧ wx.cell? ⟨b, 2, none⟩ = some (.int .i64 d.bits) ∧ wx.cell? ⟨b, 3, none⟩ = some (.bool d.little) ∧ wx.cell? ⟨b, 4, none⟩ = some (.bool d.loose) ∧ wx.cell? ⟨b, 5, none⟩ = some (.int .i64 d.low) ∧ wx.cell? ⟨b, 6, none⟩ = some (.int .i64 d.high) ∧ wx.cell? ⟨b, 7, none⟩ = some (.int .i64 d.base) ∧ wx.cell? ⟨b, 8, none⟩ = some (.slice d.ta d.terms.length d.tc) ∧ wx.cell? ⟨b, 9, none⟩ = some (.string (strL d.of_)) ∧ wx.cell? ⟨b, 10, none⟩ = some (.string (strL d.tag)) ∧ wx.cell? ⟨b, 11, none⟩ = some (.string (strL d.from_)) ∧ wx.cell? ⟨b, 12, none⟩ = some (.slice d.ca d.cases.length d.cc) ∧ wx.cell? ⟨b, 13, none⟩ = some (.int .i64 d.check) ∧ wx.cell? ⟨b, 14, none⟩ = some (.int .i64 d.key)) := Lib.hid (fun wx hb => by
    have h := hbx.below hb hbx.lt
    exact ⟨h.c0, by have := h.c1; rwa [hk] at this, h.c2, h.c3, h.c4, h.c5, h.c6, h.c7, h.c8, h.c9, h.c10, h.c11, h.c12, h.c13, h.c14⟩)
  have hw2 := hw1
  have hcl := fun wx => cleared_7 d wx hk
  rw [hk] at hw2 hcl ⊢
  have HW := Lib.hid hw2
  have HCL := fun wx => Lib.hid (hcl wx)
  have EB := Lib.hid eb
  have HAL := Lib.hid hal
  obtain ⟨y0, y1, y2, y3, y4, y5, y6, y7, y8, y9, y10, y11, y12, y13, y14⟩ := KN.out w1 (Below.refl _ _)
  clear hal hbx eb hw1 hk hw2 hcl
  go_enter Tryz.func160, Tryz.ntmps160
  go_upto_region 1 with fail
  rw [HW.out, EB.out]
  go_region_held (fun wx => wx.cell? ⟨b, 0, none⟩ = some (.string (strL d.name)) ∧ wx.cell? ⟨b, 1, none⟩ = some (.int .i64 7) ∧ wx.cell? ⟨b, 2, none⟩ = some (.int .i64 d.bits) ∧ wx.cell? ⟨b, 3, none⟩ = some (.bool d.little) ∧ wx.cell? ⟨b, 4, none⟩ = some (.bool d.loose) ∧ wx.cell? ⟨b, 5, none⟩ = some (.int .i64 d.low) ∧ wx.cell? ⟨b, 6, none⟩ = some (.int .i64 d.high) ∧ wx.cell? ⟨b, 7, none⟩ = some (.int .i64 d.base) ∧ wx.cell? ⟨b, 8, none⟩ = some (.slice d.ta d.terms.length d.tc) ∧ wx.cell? ⟨b, 9, none⟩ = some (.string (strL d.of_)) ∧ wx.cell? ⟨b, 10, none⟩ = some (.string (strL d.tag)) ∧ wx.cell? ⟨b, 11, none⟩ = some (.string (strL d.from_)) ∧ wx.cell? ⟨b, 12, none⟩ = some (.slice d.ca d.cases.length d.cc) ∧ wx.cell? ⟨b, 13, none⟩ = some (.int .i64 d.check) ∧ wx.cell? ⟨b, 14, none⟩ = some (.int .i64 d.key)) (first | exact KN.out _ (Below.refl _ _).drew | exact KN.out _ HBc.out | exact KN.out _ HBb.out | exact KN.out _ HBa.out | exact KN.out _ (Below.refl _ _)) (first | (go_at_call 178; refine ((HCL _).out).mono ?_; rintro e wa ⟨rfl, hba⟩; have HBa := Lib.hid (by first | exact (Below.refl _ _).drew.trans hba | exact hba : Below w1.heap.size w1 wa); clear hba) | (go_at_call 132; refine (outline_any _ _ _ _ _ _ _ _ _ _ _ _ _ _ _ _ _ _ _ _).mono ?_; rintro e wb ⟨rfl, hbb⟩; first | (have HBc := Lib.hid (HBb.out.trans (hbb.mono HBb.out.size)); clear hbb) | (have HBb := Lib.hid (HBa.out.trans (hbb.mono HBa.out.size)); clear hbb)))
  all_goals
    go_wp2_with fail
    go_ret
    exact ⟨rfl, HAL.out.trans (HBc.out.mono HAL.out.size)⟩
end Go.Proofs.YtbpkppmbbpoohaaGreat

namespace Go.Proofs.YtbpkppmbbpoohaaGreat
open Go.RowKit Go.Shelf
attribute [local go_sem] Oper.semAt_some

set_option maxRecDepth 100000 in
set_option maxHeartbeats 1600000 in
theorem exRanges (x kr kk c : Nat) (m f : Int) (A : Option Addr) (B : List FieldD) (S : Nat → Prop) (w : World) (hx : ExAt w x m f kr A B.length c kk) (hB : SlAt FieldD.cells 15 S w A c B) :
    Calls Tryz.prog 137 #[.pointer (some ⟨x, 0, none⟩)] w fun e w' => ∃ r, e = .returned (.map (some r)) ∧ w.heap.size ≤ r ∧ MapAt w' r (pE (ransP B)) ∧ Below w.heap.size w w' := by
  have c4 := hx.c4
  have HR := ranges_any [] A c B S w hB
  rw [ransE_p] at HR
  have HR := Lib.hid HR
  clear hx hB
  go_enter Tryz.func137, Tryz.ntmps137
  go_wp2_with fail
  refine HR.out.mono ?_
  rintro e w2 ⟨r, rfl, h1, h2, h3⟩
  have H2 := Lib.hid h2
  have H3 := Lib.hid h3
  have HLE := Lib.hid h1
  clear h1 h2 h3
  go_wp2_with fail
  go_ret
  exact ⟨r, rfl, HLE.out, H2.out, H3.out⟩

def sizeR (E : PEnts) (d : FieldD) : Option Int := ifR (decide (0 ≤ (ivS E d.base d.terms).1) && decide ((ivS E d.base d.terms).2 ≤ 1048576)) 9

set_option maxRecDepth 100000 in
set_option maxHeartbeats 6400000 in
theorem exSize_ok (x kr kk c : Nat) (m f : Int) (A : Option Addr) (B : List FieldD) (d : FieldD) (S : Nat → Prop) (w : World) (hx : ExAt w x m f kr A B.length c kk) (hB : SlAt FieldD.cells 15 S w A c B) (hT : SlAt TermD.cells 2 S w d.ta d.tc d.terms) (hv : validS d.base d.terms = true) (hall : ∀ t ∈ d.terms, ∃ p, getP (ransP B) t.f = some p ∧ allowP p = true) :
    Calls Tryz.prog 106 #[.pointer (some ⟨x, 0, none⟩), d.agg] w fun e w' => e = doE (sizeR (ransP B) d) m f ∧ Below w.heap.size w w' := by
  unfold FieldD.agg
  obtain ⟨R, hR⟩ : ∃ R, sizeR (ransP B) d = R := ⟨_, rfl⟩
  rw [hR]
  have HRS := Lib.hid hR
  clear hR
  obtain ⟨wa, hwa⟩ : ∃ wa, w.alloc (.cells #[.pointer (some ⟨x, 0, none⟩)] 152) = wa := ⟨_, rfl⟩
  obtain ⟨w1, hw1⟩ : ∃ w1, wa.alloc (.cells #[.string (strL d.name), .int .i64 d.kind, .int .i64 d.bits, .bool d.little, .bool d.loose, .int .i64 d.low, .int .i64 d.high, .int .i64 d.base, .slice d.ta d.terms.length d.tc, .string (strL d.of_), .string (strL d.tag), .string (strL d.from_), .slice d.ca d.cases.length d.cc, .int .i64 d.check, .int .i64 d.key] 55) = w1 := ⟨_, rfl⟩
  have hw : (w.alloc (.cells #[.pointer (some ⟨x, 0, none⟩)] 152)).alloc (.cells #[.string (strL d.name), .int .i64 d.kind, .int .i64 d.bits, .bool d.little, .bool d.loose, .int .i64 d.low, .int .i64 d.high, .int .i64 d.base, .slice d.ta d.terms.length d.tc, .string (strL d.of_), .string (strL d.tag), .string (strL d.from_), .slice d.ca d.cases.length d.cc, .int .i64 d.check, .int .i64 d.key] 55) = w1 := by rw [hwa, hw1]
  have ba : Below w.heap.size w wa := by rw [← hwa]; exact below_alloc _ _
  have b1 : Below wa.heap.size wa w1 := by rw [← hw1]; exact below_alloc _ _
  have hb0 : Below w.heap.size w w1 := ba.trans (b1.mono ba.size)
  have s1 : wa.heap.size = w.heap.size + 1 := by rw [← hwa]; simp
  have s2 : w1.heap.size = w.heap.size + 2 := by rw [← hw1]; simp; omega
  have x1 : Boxed w1 w.heap.size 152 (.pointer (some ⟨x, 0, none⟩)) := boxed_below (by rw [← hwa]; exact Boxed.new w _ _) b1 (by omega)
  have x2 : FBox w1 (w.heap.size + 1) d := by rw [← hw1, ← s1]; exact FBox.new wa d
  have hx1 := hx.below hb0 hx.lt
  have hB1 := hB.below hb0
  have hT1 := hT.below hb0
  obtain ⟨b, eb⟩ : ∃ b, w.heap.size = b := ⟨_, rfl⟩
  rw [eb] at x1 x2 s2
  have KEEP : Hid (∀ wx, Below w1.heap.size w1 wx → wx.cell? ⟨b, 0, none⟩ = some (.pointer (some ⟨x, 0, none⟩)) ∧ wx.cell? ⟨b + 1, 7, none⟩ = some (.int .i64 d.base) ∧ wx.cell? ⟨b + 1, 8, none⟩ = some (.slice d.ta d.terms.length d.tc)) := Lib.hid (fun wx hb => ⟨(boxed_below x1 hb x1.lt).cell, (x2.below hb x2.lt).c7, (x2.below hb x2.lt).c8⟩)
  have KX : Hid (∀ wx, Below w1.heap.size w1 wx → ExAt wx x m f kr A B.length c kk ∧ SlAt FieldD.cells 15 S wx A c B ∧ SlAt TermD.cells 2 S wx d.ta d.tc d.terms) := Lib.hid (fun wx hb => ⟨hx1.below hb hx1.lt, hB1.below hb, hT1.below hb⟩)
  have HV : Hid (∀ wx, Below w1.heap.size w1 wx → Calls Tryz.prog 136 #[.agg #[.int .i64 d.base, .slice d.ta d.terms.length d.tc]] wx fun e w' => e = .returned (.bool true) ∧ Below wx.heap.size wx w') := Lib.hid (fun wx hb => by
    have := sizeValid d.base d.ta d.tc d.terms S wx (KX.out wx hb).2.2
    rwa [hv] at this)
  have HD : Hid (∀ cc wx, Calls Tryz.prog 115 #[.pointer (some ⟨x, 0, none⟩), .bool true, .int .i64 cc] wx fun e w' => e = .returned (.tuple #[]) ∧ w' = wx) := Lib.hid (fun cc wx => demand_ok _ cc wx)
  have HALL := Lib.hid hall
  have HVV := Lib.hid hv
  have HW := Lib.hid hw
  have EB := Lib.hid eb
  have HB0 := Lib.hid hb0
  have S2 := Lib.hid s2
  obtain ⟨y0, y7, y8⟩ := KEEP.out w1 (Below.refl _ _)
  clear hx hB hT hv hall hwa hw1 hw ba b1 hb0 s1 s2 x1 x2 hx1 hB1 hT1 eb
  refine (callsIn_wide (n := 6)).1 ?_
  refine callsIn_of_wp_marks Tryz.func106 rfl trivial ?_ rfl
  simp only [Tryz.ntmps106, List.size_toArray, List.length_cons, List.length_nil, Nat.reduceAdd, Nat.reduceSub, Array.replicate_succ, Array.replicate_zero, List.push_toArray, List.append_toArray, List.nil_append, List.cons_append]
  refine wpIn_wide.2 ?_
  go_upto_region 1 with fail
  rw [HW.out, EB.out]
  refine wp_region_noPanic ?_
  go_region_held (fun w' => w'.cell? ⟨b, 0, none⟩ = some (.pointer (some ⟨x, 0, none⟩)) ∧ w'.cell? ⟨b + 1, 7, none⟩ = some (.int .i64 d.base) ∧ w'.cell? ⟨b + 1, 8, none⟩ = some (.slice d.ta d.terms.length d.tc)) (first | exact KEEP.out _ (Below.refl _ _).drew | exact KEEP.out _ HB2.out | exact KEEP.out _ (Below.refl _ _)) (first | (go_at_call 136; refine (HV.out _ (by first | exact (Below.refl _ _).drew | exact Below.refl _ _)).mono ?_; rintro e w2 ⟨rfl, hb2⟩; have HB2 := Lib.hid (by first | exact (Below.refl _ _).drew.trans hb2 | exact hb2 : Below w1.heap.size w1 w2); clear hb2) | (go_at_call 115; refine (HD.out _ _).mono ?_; rintro e w2 ⟨rfl, rfl⟩))
  all_goals
    refine NoPanic.normal ?_
    clear y0 y7 y8
    obtain ⟨z0, z7, z8⟩ := KEEP.out w2 HB2.out
    have HRG := Lib.hid (exRanges x kr kk c m f A B S w2 (KX.out w2 HB2.out).1 (KX.out w2 HB2.out).2.1)
    go_wp2_with fail
    refine HRG.out.mono ?_
    rintro e w3 ⟨r, rfl, hr1, hm3, hb3⟩
    have hb13 := HB2.out.trans (hb3.mono HB2.out.size)
    have hal4 := below_alloc w3 (.cells #[.map (some r)] 77)
    have hx4 := Boxed.new w3 77 (.map (some r))
    obtain ⟨mb, emb⟩ : ∃ mb, w3.heap.size = mb := ⟨_, rfl⟩
    obtain ⟨w4, hw4⟩ : ∃ w4, w3.alloc (.cells #[.map (some r)] 77) = w4 := ⟨_, rfl⟩
    rw [hw4] at hal4 hx4
    rw [emb] at hx4
    have hb14 := hb13.trans (hal4.mono hb13.size)
    obtain ⟨u0, u7, u8⟩ := KEEP.out w4 hb14
    have HX4 := Lib.hid hx4
    have HM4 := Lib.hid (hm3.below hal4 hm3.lt)
    have HB14 := Lib.hid hb14
    have W4 := Lib.hid hw4
    have EMB := Lib.hid emb
    clear hr1 hm3 hb3 hb13 hal4 hx4 hw4 emb hb14 z0 z7 z8
    go_upto_region 3 with fail
    rw [W4.out, EMB.out]
    have HNM := sizeNames d.base d.ta d.tc d.terms S w4 (KX.out w4 HB14.out).2.2
    unfold namesOf at HNM
    rw [HVV.out, if_pos rfl] at HNM
    have HNM := Lib.hid HNM
    go_wp2_with fail
    refine HNM.out.mono ?_
    rintro e w5 ⟨qb, A', c', rfl, hb5, hseq⟩
    have HB15 := Lib.hid (HB14.out.trans (hb5.mono HB14.out.size))
    have HX5 := Lib.hid (boxed_below HX4.out hb5 HX4.out.lt)
    have HM5 := Lib.hid (HM4.out.below hb5 HM4.out.lt)
    have SQ := Lib.hid hseq
    clear hb5 hseq u0 u7 u8
    go_wp2_with fail
    refine (wpIn_wide (n := 6)).1 ?_
    gi_wp2_with fail
    have HNL : Hid ((d.terms.map (·.f)).length ≤ 9223372036854775807) := Lib.hid (by rw [List.length_map]; have := valid_len HVV.out; omega)
    refine open_joined (gf := 101) (lb := #[.pointer (some ⟨qb, 0, none⟩)]) (by decide) rfl Tryz.entVals (fun W => Below w5.heap.size w5 W ∧ W.heap[w5.heap.size]? = some (.deferred (some []))) .skip ?turn0 ?brk0 ?rest0
    case brk0 =>
      intro fr W h
      exact wpIn_skip h
    case turn0 =>
      intro W1 rr hrr hb1 hsz hR
      obtain ⟨fn, hrr⟩ := hrr
      obtain ⟨D2, hD⟩ : ∃ D2, w5.heap.size = D2 := ⟨_, rfl⟩
      rw [hD] at hrr hb1 hsz hR ⊢
      obtain ⟨lr, hlr⟩ : ∃ lr, D2 + 1 = lr := ⟨_, rfl⟩
      rw [hlr] at hR ⊢
      have hb1' : Below w5.heap.size w5 W1 := by rw [hD]; exact hb1
      have SQ1 := Lib.hid (SQ.out.below hb1')
      have SLF := Lib.hid ((slAt_fence SQ.out.sl (N := lr) (by omega)).rest (Rest.below hb1') (fun _ _ e => e) : SlAt strCells 1 (fun i => lr ≤ i) W1 A' c' (d.terms.map (·.f)))
      have HRR := Lib.hid hrr
      have HR := Lib.hid hR
      have HB1 := Lib.hid hb1'
      have HLE := Lib.hid (show D2 < lr by omega)
      have HD2 := Lib.hid hD
      clear hrr hb1 hsz hR hD hlr hb1'
      refine (strs_at 5 (by decide) lr qb c' (fun i => lr ≤ i) A' (d.terms.map (·.f)) (fun pre W => JR W1 lr D2 (rr .ready none) W) (fun _ _ => False) (fun pre W W' h hb => h.later hb) HNL.out (fun pre W h => SLF.out.rest h.rest (fun i _ e => by show lr ≤ i; omega)) ?hY W1 SQ1.out.bx.cell ⟨Rest.refl _ _, HR.out⟩).mono ?post0
      case post0 =>
        rintro e W2 ⟨hv, (hj | ⟨pre, hp, hf⟩)⟩
        · refine ⟨hv, .inl ⟨hj.rec_, fun o => ⟨?_, (World.putObj_heap_other (show D2 ≠ lr by have := HLE.out; omega)).trans hj.rec_.dfr⟩⟩⟩
          have h1 := HLE.out
          have h2 := HD2.out
          have h3 : Rest (fun i => i = lr) w5 (W2.putObj lr o) := ((Rest.below (S := fun i => i = lr) HB1.out).trans hj.rest (fun _ _ e => e)).trans (rest_putObj W2 lr o) (fun _ _ e => e)
          rw [← h2]
          exact h3.toBelow w5.heap.size (Nat.le_refl _) (fun i hi e => by omega)
        · exact hf.elim
      case hY =>
        intro pre xx W hj hpx
        obtain ⟨t, ht, rfl⟩ := List.mem_map.1 (prefix_mem hpx)
        obtain ⟨p, hp1, hp2⟩ := HALL.out t ht
        have JW := Lib.hid hj
        have HP1 := Lib.hid hp1
        clear hj hpx hp1 hp2
        refine named_round HRR.out JW.out.rec_ rfl ?a10 ?asg0 ?body0
        case asg0 =>
          intro K hK
          have HK := Lib.hid hK
          clear hK
          gi_wp2
          exact HK.out
        case body0 =>
          intro W2 hW2
          have n2 : lr ≠ D2 := by have := HLE.out; omega
          have hj2 : JR W1 lr D2 (rr .busy none) W2 := by rw [hW2]; exact JW.out.put _ n2
          have hb5W : Below w5.heap.size w5 W2 := ((Rest.below (S := fun i => i = lr) HB1.out).trans hj2.rest (fun _ _ e => e)).toBelow w5.heap.size (Nat.le_refl _) (fun i hi e => by have h1 := HLE.out; have h2 := HD2.out; omega)
          have hbb : Below w1.heap.size w1 W2 := HB15.out.trans (hb5W.mono HB15.out.size)
          have k0 := (KEEP.out W2 hbb).1
          have k1 := (boxed_below HX5.out hb5W HX5.out.lt).cell
          have km := HM5.out.below hb5W HM5.out.lt
          have hrun := run_look_ok (P := Tryz.prog) Tryz.underlying77 Tryz.ustr (Tryz.zeroRan W2) km t.f
          have hg : getE (pE (ransP B)) t.f = some (ranV p) := by rw [getE_p, HP1.out]; rfl
          have hh : hasE (pE (ransP B)) t.f = true := by unfold hasE; rw [hg]; rfl
          rw [hg, hh] at hrun
          unfold ranV at hrun
          simp only [Option.getD_some] at hrun
          have hal := below_alloc W2 (.cells #[.int .i64 p.1, .int .i64 p.2] 80)
          obtain ⟨w6, hw6⟩ : ∃ w6, W2.alloc (.cells #[.int .i64 p.1, .int .i64 p.2] 80) = w6 := ⟨_, rfl⟩
          rw [hw6] at hal
          have q0 := (KEEP.out w6 (hbb.trans (hal.mono hbb.size))).1
          have J6 := Lib.hid (hj2.later hal)
          have W6 := Lib.hid hw6
          clear hW2 hj2 hb5W hbb km hg hh hal hw6
          gi_upto_region 6 with fail
          rw [W6.out]
          gi_wp2_with fail
          refine ⟨trivial, (CallsIn.inRound lr (callsIn_wide.2 (HD.out 8 w6))).mono ?_⟩
          rintro e w7 ⟨rfl, rfl⟩
          gi_wp2_with fail
          exact ⟨J6.out.rec_, J6.out.put _ n2⟩
    case rest0 =>
      rintro Wz ⟨hz1, hz2⟩
      obtain ⟨D2, hD⟩ : ∃ D2, w5.heap.size = D2 := ⟨_, rfl⟩
      rw [hD] at hz2 ⊢
      have hbb : Below w1.heap.size w1 Wz := HB15.out.trans (hz1.mono HB15.out.size)
      obtain ⟨k0, k7, k8⟩ := KEEP.out Wz hbb
      have km := (boxed_below HX5.out hz1 HX5.out.lt).cell
      have HIV := Lib.hid (interval_ok d.base d.ta d.tc d.terms S Wz (KX.out Wz hbb).2.2 r (ransP B) (HM5.out.below hz1 HM5.out.lt) HVV.out HALL.out)
      obtain ⟨lo, hlo⟩ : ∃ lo, (ivS (ransP B) d.base d.terms).1 = lo := ⟨_, rfl⟩
      obtain ⟨hi, hhi⟩ : ∃ hi, (ivS (ransP B) d.base d.terms).2 = hi := ⟨_, rfl⟩
      obtain ⟨s1, e1⟩ : ∃ s, decide (0 ≤ lo) = s := ⟨_, rfl⟩
      obtain ⟨s2, e2⟩ : ∃ s, decide (hi ≤ 1048576) = s := ⟨_, rfl⟩
      have hRR : R = ifR (s1 && s2) 9 := by rw [← HRS.out]; unfold sizeR; rw [hlo, hhi, e1, e2]
      rw [hlo, hhi] at HIV
      have HRR := Lib.hid hRR
      have HZ2 := Lib.hid hz2
      have HBB := Lib.hid hbb
      have HDL := Lib.hid (show D2 < Wz.heap.size from (Array.getElem?_eq_some_iff.1 hz2).1)
      have HDW := Lib.hid (show w.heap.size ≤ D2 by have h1 := HB15.out.size; have h2 := HB0.out.size; omega)
      clear hz1 hz2 hbb hlo hhi hRR hD SQ HX5 HM5 HB15 HB14 HX4 HM4
      gi_wp2_with fail
      go_wp2_with fail
      refine HIV.out.mono ?_
      rintro e w8 ⟨rfl, hb8⟩
      have hal9 := below_alloc w8 (.cells #[.int .i64 lo, .int .i64 hi] 80)
      have hp9 := PBox.new w8 lo hi
      obtain ⟨ib, eib⟩ : ∃ ib, w8.heap.size = ib := ⟨_, rfl⟩
      obtain ⟨w9, hw9⟩ : ∃ w9, w8.alloc (.cells #[.int .i64 lo, .int .i64 hi] 80) = w9 := ⟨_, rfl⟩
      rw [hw9] at hal9 hp9
      rw [eib] at hp9
      have hbz := hb8.trans (hal9.mono hb8.size)
      have hb9 := HBB.out.trans (hbz.mono HBB.out.size)
      have k09 := (KEEP.out w9 hb9).1
      have p0 := hp9.c0
      have p1 := hp9.c1
      have DF := Lib.hid ((hbz.block D2 HDL.out).trans HZ2.out)
      have HDD := Lib.hid (demand_any x kr kk B.length c m f A (s1 && s2) 9 w9 (KX.out w9 hb9).1)
      have HB9 := Lib.hid (HB0.out.trans (hb9.mono HB0.out.size))
      have W9 := Lib.hid hw9
      have EIB := Lib.hid eib
      have DL9 := Lib.hid (Nat.lt_of_lt_of_le HDL.out hbz.size)
      clear hb8 hal9 hp9 eib hw9 hbz hb9 k0 k7 k8 km HIV
      go_upto_region 8 with fail
      rw [W9.out, EIB.out]
      cases s1
      · have HD2 := Lib.hid HDD.out
        unfold ifR doE flawE at HD2
        simp only [Bool.false_and, Bool.true_and, Bool.and_false, Bool.false_eq_true, if_false] at HD2
        go_wp2_with fail
        refine HD2.out.mono ?_
        rintro e wA ⟨rfl, hbA⟩
        have k2 := (hbA.block D2 DL9.out).trans DF.out
        have hbw2 := (HB9.out.trans (hbA.mono HB9.out.size)).grown (grownBy_putObj' wA D2 (.deferred none)) (Nat.le_trans HB9.out.size hbA.size) (fun k e => by cases e; exact HDW.out)
        refine ⟨by simp, .inl ⟨_, _, rfl, run_takeDeferred k2, ?_⟩⟩
        exact ⟨by rw [HRR.out]; rfl, hbw2⟩
      · cases s2
        · have HD2 := Lib.hid HDD.out
          unfold ifR doE flawE at HD2
          simp only [Bool.false_and, Bool.true_and, Bool.and_false, Bool.false_eq_true, if_false] at HD2
          go_wp2_with fail
          refine HD2.out.mono ?_
          rintro e wA ⟨rfl, hbA⟩
          have k2 := (hbA.block D2 DL9.out).trans DF.out
          have hbw2 := (HB9.out.trans (hbA.mono HB9.out.size)).grown (grownBy_putObj' wA D2 (.deferred none)) (Nat.le_trans HB9.out.size hbA.size) (fun k e => by cases e; exact HDW.out)
          refine ⟨by simp, .inl ⟨_, _, rfl, run_takeDeferred k2, ?_⟩⟩
          exact ⟨by rw [HRR.out]; rfl, hbw2⟩
        · have HD2 := Lib.hid HDD.out
          unfold ifR doE at HD2
          simp only [Bool.and_self, if_true] at HD2
          go_wp2_with fail
          refine HD2.out.mono ?_
          rintro e wA ⟨rfl, hbA⟩
          have k2 := (hbA.block D2 DL9.out).trans DF.out
          have hbw2 := (HB9.out.trans (hbA.mono HB9.out.size)).grown (grownBy_putObj' wA D2 (.deferred none)) (Nat.le_trans HB9.out.size hbA.size) (fun k e => by cases e; exact HDW.out)
          have K2 := Lib.hid k2
          have HBW2 := Lib.hid hbw2
          clear hbA k2 hbw2
          go_wp2_with fail
          refine ⟨by simp, .inl ⟨_, _, rfl, run_takeDeferred K2.out, ?_⟩⟩
          exact ⟨.tuple #[], by simp [results, Tryz.results106], by rw [HRR.out]; rfl, HBW2.out⟩
end Go.Proofs.YtbpkppmbbpoohaaGreat
