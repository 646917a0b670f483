/- What a field has that its kind does not use. No conditions. -/
import Derived.Test.YtbpkppmbbpoohaaIb
namespace Go.Proofs.Ytbpkppmbbpoohaa
open Go.RowKit Go.Shelf

/-- The outlines that are compared. -/
def outC1 (d : FieldD) : Value := .agg #[.string (strL d.name), .int .i64 1, .bool false, .bool d.loose, .int .i64 0, .int .i64 0, .int .i64 0, .int .i64 d.base, .int .i64 (d.terms.length : Int), .int .i64 (d.cases.length : Int), .int .i64 d.check, .int .i64 d.key, .string (strL d.of_), .string (strL d.tag), .string (strL d.from_)]
def outZ1 (d : FieldD) : Value := .agg #[.string (strL d.name), .int .i64 1, .bool false, .bool false, .int .i64 0, .int .i64 0, .int .i64 0, .int .i64 0, .int .i64 0, .int .i64 0, .int .i64 0, .int .i64 0, .string ⟨#[]⟩, .string ⟨#[]⟩, .string ⟨#[]⟩]
set_option maxRecDepth 100000 in
set_option maxHeartbeats 6400000 in
theorem spare_1 (d : FieldD) (R : Bool) (w : World) (hk : d.kind = 1) (hr : ∀ w, (binOp .neq 128 (outC1 d) (outZ1 d)).run Try.prog w = .ok (.bool R) w) :
    Calls Try.prog 123 #[d.agg] w fun e w' => e = .returned (.bool R) ∧ Below w.heap.size w w' := by
  unfold outC1 outZ1 at hr
  unfold FieldD.agg
  have hal := below_alloc w (.cells #[.string (strL d.name), .int .i64 d.kind, .int .i64 d.bits, .bool d.little, .bool d.loose, .int .i64 d.low, .int .i64 d.high, .int .i64 d.base, .slice d.ta d.terms.length d.tc, .string (strL d.of_), .string (strL d.tag), .string (strL d.from_), .slice d.ca d.cases.length d.cc, .int .i64 d.check, .int .i64 d.key] 28)
  have hbx := FBox.new w d
  obtain ⟨b, eb⟩ : ∃ b, w.heap.size = b := ⟨_, rfl⟩
  obtain ⟨w1, hw1⟩ : ∃ w1, w.alloc (.cells #[.string (strL d.name), .int .i64 d.kind, .int .i64 d.bits, .bool d.little, .bool d.loose, .int .i64 d.low, .int .i64 d.high, .int .i64 d.base, .slice d.ta d.terms.length d.tc, .string (strL d.of_), .string (strL d.tag), .string (strL d.from_), .slice d.ca d.cases.length d.cc, .int .i64 d.check, .int .i64 d.key] 28) = w1 := ⟨_, rfl⟩
  rw [hw1] at hal hbx
  rw [eb] at hbx
  have KN : Hid (∀ wx, Below w1.heap.size w1 wx → wx.cell? ⟨b, 0, none⟩ = some (.string (strL d.name)) ∧ wx.cell? ⟨b, 1, none⟩ = some (.int .i64 1) ∧ wx.cell? ⟨b, 2, none⟩ = some (.int .i64 d.bits) ∧ wx.cell? ⟨b, 3, none⟩ = some (.bool d.little) ∧ wx.cell? ⟨b, 4, none⟩ = some (.bool d.loose) ∧ wx.cell? ⟨b, 5, none⟩ = some (.int .i64 d.low) ∧ wx.cell? ⟨b, 6, none⟩ = some (.int .i64 d.high) ∧ wx.cell? ⟨b, 7, none⟩ = some (.int .i64 d.base) ∧ wx.cell? ⟨b, 8, none⟩ = some (.slice d.ta d.terms.length d.tc) ∧ wx.cell? ⟨b, 9, none⟩ = some (.string (strL d.of_)) ∧ wx.cell? ⟨b, 10, none⟩ = some (.string (strL d.tag)) ∧ wx.cell? ⟨b, 11, none⟩ = some (.string (strL d.from_)) ∧ wx.cell? ⟨b, 12, none⟩ = some (.slice d.ca d.cases.length d.cc) ∧ wx.cell? ⟨b, 13, none⟩ = some (.int .i64 d.check) ∧ wx.cell? ⟨b, 14, none⟩ = some (.int .i64 d.key)) := Lib.hid (fun wx hb => by
    have h := hbx.below hb hbx.lt
    exact ⟨h.c0, by have := h.c1; rwa [hk] at this, h.c2, h.c3, h.c4, h.c5, h.c6, h.c7, h.c8, h.c9, h.c10, h.c11, h.c12, h.c13, h.c14⟩)
  have hw2 := hw1
  have hcl := fun wx => cleared_1 d wx hk
  rw [hk] at hw2 hcl ⊢
  have HW := Lib.hid hw2
  have HCL := fun wx => Lib.hid (hcl wx)
  have EB := Lib.hid eb
  have HAL := Lib.hid hal
  obtain ⟨y0, y1, y2, y3, y4, y5, y6, y7, y8, y9, y10, y11, y12, y13, y14⟩ := KN.out w1 (Below.refl _ _)
  clear hal hbx eb hw1 hk hw2 hcl
  go_enter Try.func123, Try.ntmps123
  go_upto_region 1 with fail
  rw [HW.out, EB.out]
  go_region_held (fun wx => wx.cell? ⟨b, 0, none⟩ = some (.string (strL d.name)) ∧ wx.cell? ⟨b, 1, none⟩ = some (.int .i64 1) ∧ wx.cell? ⟨b, 2, none⟩ = some (.int .i64 d.bits) ∧ wx.cell? ⟨b, 3, none⟩ = some (.bool d.little) ∧ wx.cell? ⟨b, 4, none⟩ = some (.bool d.loose) ∧ wx.cell? ⟨b, 5, none⟩ = some (.int .i64 d.low) ∧ wx.cell? ⟨b, 6, none⟩ = some (.int .i64 d.high) ∧ wx.cell? ⟨b, 7, none⟩ = some (.int .i64 d.base) ∧ wx.cell? ⟨b, 8, none⟩ = some (.slice d.ta d.terms.length d.tc) ∧ wx.cell? ⟨b, 9, none⟩ = some (.string (strL d.of_)) ∧ wx.cell? ⟨b, 10, none⟩ = some (.string (strL d.tag)) ∧ wx.cell? ⟨b, 11, none⟩ = some (.string (strL d.from_)) ∧ wx.cell? ⟨b, 12, none⟩ = some (.slice d.ca d.cases.length d.cc) ∧ wx.cell? ⟨b, 13, none⟩ = some (.int .i64 d.check) ∧ wx.cell? ⟨b, 14, none⟩ = some (.int .i64 d.key)) (first | exact KN.out _ (Below.refl _ _).drew | exact KN.out _ HBc.out | exact KN.out _ HBb.out | exact KN.out _ HBa.out | exact KN.out _ (Below.refl _ _)) (first | (go_at_call 130; refine ((HCL _).out).mono ?_; rintro e wa ⟨rfl, hba⟩; have HBa := Lib.hid (by first | exact (Below.refl _ _).drew.trans hba | exact hba : Below w1.heap.size w1 wa); clear hba) | (go_at_call 78; refine (outline_any _ _ _ _ _ _ _ _ _ _ _ _ _ _ _ _ _ _ _ _).mono ?_; rintro e wb ⟨rfl, hbb⟩; first | (have HBc := Lib.hid (HBb.out.trans (hbb.mono HBb.out.size)); clear hbb) | (have HBb := Lib.hid (HBa.out.trans (hbb.mono HBa.out.size)); clear hbb)))
  all_goals
    go_wp2_with fail
    go_ret
    exact ⟨rfl, HAL.out.trans (HBc.out.mono HAL.out.size)⟩

/-- The outlines that are compared. -/
def outC4 (d : FieldD) : Value := .agg #[.string (strL d.name), .int .i64 4, .bool d.little, .bool d.loose, .int .i64 d.bits, .int .i64 d.low, .int .i64 d.high, .int .i64 0, .int .i64 0, .int .i64 (d.cases.length : Int), .int .i64 d.check, .int .i64 d.key, .string (strL d.of_), .string (strL d.tag), .string (strL d.from_)]
def outZ4 (d : FieldD) : Value := .agg #[.string (strL d.name), .int .i64 4, .bool false, .bool false, .int .i64 0, .int .i64 0, .int .i64 0, .int .i64 0, .int .i64 0, .int .i64 0, .int .i64 0, .int .i64 0, .string ⟨#[]⟩, .string ⟨#[]⟩, .string ⟨#[]⟩]
set_option maxRecDepth 100000 in
set_option maxHeartbeats 6400000 in
theorem spare_4 (d : FieldD) (R : Bool) (w : World) (hk : d.kind = 4) (hr : ∀ w, (binOp .neq 128 (outC4 d) (outZ4 d)).run Try.prog w = .ok (.bool R) w) :
    Calls Try.prog 123 #[d.agg] w fun e w' => e = .returned (.bool R) ∧ Below w.heap.size w w' := by
  unfold outC4 outZ4 at hr
  unfold FieldD.agg
  have hal := below_alloc w (.cells #[.string (strL d.name), .int .i64 d.kind, .int .i64 d.bits, .bool d.little, .bool d.loose, .int .i64 d.low, .int .i64 d.high, .int .i64 d.base, .slice d.ta d.terms.length d.tc, .string (strL d.of_), .string (strL d.tag), .string (strL d.from_), .slice d.ca d.cases.length d.cc, .int .i64 d.check, .int .i64 d.key] 28)
  have hbx := FBox.new w d
  obtain ⟨b, eb⟩ : ∃ b, w.heap.size = b := ⟨_, rfl⟩
  obtain ⟨w1, hw1⟩ : ∃ w1, w.alloc (.cells #[.string (strL d.name), .int .i64 d.kind, .int .i64 d.bits, .bool d.little, .bool d.loose, .int .i64 d.low, .int .i64 d.high, .int .i64 d.base, .slice d.ta d.terms.length d.tc, .string (strL d.of_), .string (strL d.tag), .string (strL d.from_), .slice d.ca d.cases.length d.cc, .int .i64 d.check, .int .i64 d.key] 28) = w1 := ⟨_, rfl⟩
  rw [hw1] at hal hbx
  rw [eb] at hbx
  have KN : Hid (∀ wx, Below w1.heap.size w1 wx → wx.cell? ⟨b, 0, none⟩ = some (.string (strL d.name)) ∧ wx.cell? ⟨b, 1, none⟩ = some (.int .i64 4) ∧ wx.cell? ⟨b, 2, none⟩ = some (.int .i64 d.bits) ∧ wx.cell? ⟨b, 3, none⟩ = some (.bool d.little) ∧ wx.cell? ⟨b, 4, none⟩ = some (.bool d.loose) ∧ wx.cell? ⟨b, 5, none⟩ = some (.int .i64 d.low) ∧ wx.cell? ⟨b, 6, none⟩ = some (.int .i64 d.high) ∧ wx.cell? ⟨b, 7, none⟩ = some (.int .i64 d.base) ∧ wx.cell? ⟨b, 8, none⟩ = some (.slice d.ta d.terms.length d.tc) ∧ wx.cell? ⟨b, 9, none⟩ = some (.string (strL d.of_)) ∧ wx.cell? ⟨b, 10, none⟩ = some (.string (strL d.tag)) ∧ wx.cell? ⟨b, 11, none⟩ = some (.string (strL d.from_)) ∧ wx.cell? ⟨b, 12, none⟩ = some (.slice d.ca d.cases.length d.cc) ∧ wx.cell? ⟨b, 13, none⟩ = some (.int .i64 d.check) ∧ wx.cell? ⟨b, 14, none⟩ = some (.int .i64 d.key)) := Lib.hid (fun wx hb => by
    have h := hbx.below hb hbx.lt
    exact ⟨h.c0, by have := h.c1; rwa [hk] at this, h.c2, h.c3, h.c4, h.c5, h.c6, h.c7, h.c8, h.c9, h.c10, h.c11, h.c12, h.c13, h.c14⟩)
  have hw2 := hw1
  have hcl := fun wx => cleared_4 d wx hk
  rw [hk] at hw2 hcl ⊢
  have HW := Lib.hid hw2
  have HCL := fun wx => Lib.hid (hcl wx)
  have EB := Lib.hid eb
  have HAL := Lib.hid hal
  obtain ⟨y0, y1, y2, y3, y4, y5, y6, y7, y8, y9, y10, y11, y12, y13, y14⟩ := KN.out w1 (Below.refl _ _)
  clear hal hbx eb hw1 hk hw2 hcl
  go_enter Try.func123, Try.ntmps123
  go_upto_region 1 with fail
  rw [HW.out, EB.out]
  go_region_held (fun wx => wx.cell? ⟨b, 0, none⟩ = some (.string (strL d.name)) ∧ wx.cell? ⟨b, 1, none⟩ = some (.int .i64 4) ∧ wx.cell? ⟨b, 2, none⟩ = some (.int .i64 d.bits) ∧ wx.cell? ⟨b, 3, none⟩ = some (.bool d.little) ∧ wx.cell? ⟨b, 4, none⟩ = some (.bool d.loose) ∧ wx.cell? ⟨b, 5, none⟩ = some (.int .i64 d.low) ∧ wx.cell? ⟨b, 6, none⟩ = some (.int .i64 d.high) ∧ wx.cell? ⟨b, 7, none⟩ = some (.int .i64 d.base) ∧ wx.cell? ⟨b, 8, none⟩ = some (.slice d.ta d.terms.length d.tc) ∧ wx.cell? ⟨b, 9, none⟩ = some (.string (strL d.of_)) ∧ wx.cell? ⟨b, 10, none⟩ = some (.string (strL d.tag)) ∧ wx.cell? ⟨b, 11, none⟩ = some (.string (strL d.from_)) ∧ wx.cell? ⟨b, 12, none⟩ = some (.slice d.ca d.cases.length d.cc) ∧ wx.cell? ⟨b, 13, none⟩ = some (.int .i64 d.check) ∧ wx.cell? ⟨b, 14, none⟩ = some (.int .i64 d.key)) (first | exact KN.out _ (Below.refl _ _).drew | exact KN.out _ HBc.out | exact KN.out _ HBb.out | exact KN.out _ HBa.out | exact KN.out _ (Below.refl _ _)) (first | (go_at_call 130; refine ((HCL _).out).mono ?_; rintro e wa ⟨rfl, hba⟩; have HBa := Lib.hid (by first | exact (Below.refl _ _).drew.trans hba | exact hba : Below w1.heap.size w1 wa); clear hba) | (go_at_call 78; refine (outline_any _ _ _ _ _ _ _ _ _ _ _ _ _ _ _ _ _ _ _ _).mono ?_; rintro e wb ⟨rfl, hbb⟩; first | (have HBc := Lib.hid (HBb.out.trans (hbb.mono HBb.out.size)); clear hbb) | (have HBb := Lib.hid (HBa.out.trans (hbb.mono HBa.out.size)); clear hbb)))
  all_goals
    go_wp2_with fail
    go_ret
    exact ⟨rfl, HAL.out.trans (HBc.out.mono HAL.out.size)⟩

/-- The outlines that are compared. -/
def outC7 (d : FieldD) : Value := .agg #[.string (strL d.name), .int .i64 7, .bool d.little, .bool d.loose, .int .i64 d.bits, .int .i64 d.low, .int .i64 d.high, .int .i64 0, .int .i64 0, .int .i64 (d.cases.length : Int), .int .i64 d.check, .int .i64 d.key, .string ⟨#[]⟩, .string (strL d.tag), .string (strL d.from_)]
def outZ7 (d : FieldD) : Value := .agg #[.string (strL d.name), .int .i64 7, .bool false, .bool false, .int .i64 0, .int .i64 0, .int .i64 0, .int .i64 0, .int .i64 0, .int .i64 0, .int .i64 0, .int .i64 0, .string ⟨#[]⟩, .string ⟨#[]⟩, .string ⟨#[]⟩]
set_option maxRecDepth 100000 in
set_option maxHeartbeats 6400000 in
theorem spare_7 (d : FieldD) (R : Bool) (w : World) (hk : d.kind = 7) (hr : ∀ w, (binOp .neq 128 (outC7 d) (outZ7 d)).run Try.prog w = .ok (.bool R) w) :
    Calls Try.prog 123 #[d.agg] w fun e w' => e = .returned (.bool R) ∧ Below w.heap.size w w' := by
  unfold outC7 outZ7 at hr
  unfold FieldD.agg
  have hal := below_alloc w (.cells #[.string (strL d.name), .int .i64 d.kind, .int .i64 d.bits, .bool d.little, .bool d.loose, .int .i64 d.low, .int .i64 d.high, .int .i64 d.base, .slice d.ta d.terms.length d.tc, .string (strL d.of_), .string (strL d.tag), .string (strL d.from_), .slice d.ca d.cases.length d.cc, .int .i64 d.check, .int .i64 d.key] 28)
  have hbx := FBox.new w d
  obtain ⟨b, eb⟩ : ∃ b, w.heap.size = b := ⟨_, rfl⟩
  obtain ⟨w1, hw1⟩ : ∃ w1, w.alloc (.cells #[.string (strL d.name), .int .i64 d.kind, .int .i64 d.bits, .bool d.little, .bool d.loose, .int .i64 d.low, .int .i64 d.high, .int .i64 d.base, .slice d.ta d.terms.length d.tc, .string (strL d.of_), .string (strL d.tag), .string (strL d.from_), .slice d.ca d.cases.length d.cc, .int .i64 d.check, .int .i64 d.key] 28) = w1 := ⟨_, rfl⟩
  rw [hw1] at hal hbx
  rw [eb] at hbx
  have KN : Hid (∀ wx, Below w1.heap.size w1 wx → wx.cell? ⟨b, 0, none⟩ = some (.string (strL d.name)) ∧ wx.cell? ⟨b, 1, none⟩ = some (.int .i64 7) ∧ wx.cell? ⟨b, 2, none⟩ = some (.int .i64 d.bits) ∧ wx.cell? ⟨b, 3, none⟩ = some (.bool d.little) ∧ wx.cell? ⟨b, 4, none⟩ = some (.bool d.loose) ∧ wx.cell? ⟨b, 5, none⟩ = some (.int .i64 d.low) ∧ wx.cell? ⟨b, 6, none⟩ = some (.int .i64 d.high) ∧ wx.cell? ⟨b, 7, none⟩ = some (.int .i64 d.base) ∧ wx.cell? ⟨b, 8, none⟩ = some (.slice d.ta d.terms.length d.tc) ∧ wx.cell? ⟨b, 9, none⟩ = some (.string (strL d.of_)) ∧ wx.cell? ⟨b, 10, none⟩ = some (.string (strL d.tag)) ∧ wx.cell? ⟨b, 11, none⟩ = some (.string (strL d.from_)) ∧ wx.cell? ⟨b, 12, none⟩ = some (.slice d.ca d.cases.length d.cc) ∧ wx.cell? ⟨b, 13, none⟩ = some (.int .i64 d.check) ∧ wx.cell? ⟨b, 14, none⟩ = some (.int .i64 d.key)) := Lib.hid (fun wx hb => by
    have h := hbx.below hb hbx.lt
    exact ⟨h.c0, by have := h.c1; rwa [hk] at this, h.c2, h.c3, h.c4, h.c5, h.c6, h.c7, h.c8, h.c9, h.c10, h.c11, h.c12, h.c13, h.c14⟩)
  have hw2 := hw1
  have hcl := fun wx => cleared_7 d wx hk
  rw [hk] at hw2 hcl ⊢
  have HW := Lib.hid hw2
  have HCL := fun wx => Lib.hid (hcl wx)
  have EB := Lib.hid eb
  have HAL := Lib.hid hal
  obtain ⟨y0, y1, y2, y3, y4, y5, y6, y7, y8, y9, y10, y11, y12, y13, y14⟩ := KN.out w1 (Below.refl _ _)
  clear hal hbx eb hw1 hk hw2 hcl
  go_enter Try.func123, Try.ntmps123
  go_upto_region 1 with fail
  rw [HW.out, EB.out]
  go_region_held (fun wx => wx.cell? ⟨b, 0, none⟩ = some (.string (strL d.name)) ∧ wx.cell? ⟨b, 1, none⟩ = some (.int .i64 7) ∧ wx.cell? ⟨b, 2, none⟩ = some (.int .i64 d.bits) ∧ wx.cell? ⟨b, 3, none⟩ = some (.bool d.little) ∧ wx.cell? ⟨b, 4, none⟩ = some (.bool d.loose) ∧ wx.cell? ⟨b, 5, none⟩ = some (.int .i64 d.low) ∧ wx.cell? ⟨b, 6, none⟩ = some (.int .i64 d.high) ∧ wx.cell? ⟨b, 7, none⟩ = some (.int .i64 d.base) ∧ wx.cell? ⟨b, 8, none⟩ = some (.slice d.ta d.terms.length d.tc) ∧ wx.cell? ⟨b, 9, none⟩ = some (.string (strL d.of_)) ∧ wx.cell? ⟨b, 10, none⟩ = some (.string (strL d.tag)) ∧ wx.cell? ⟨b, 11, none⟩ = some (.string (strL d.from_)) ∧ wx.cell? ⟨b, 12, none⟩ = some (.slice d.ca d.cases.length d.cc) ∧ wx.cell? ⟨b, 13, none⟩ = some (.int .i64 d.check) ∧ wx.cell? ⟨b, 14, none⟩ = some (.int .i64 d.key)) (first | exact KN.out _ (Below.refl _ _).drew | exact KN.out _ HBc.out | exact KN.out _ HBb.out | exact KN.out _ HBa.out | exact KN.out _ (Below.refl _ _)) (first | (go_at_call 130; refine ((HCL _).out).mono ?_; rintro e wa ⟨rfl, hba⟩; have HBa := Lib.hid (by first | exact (Below.refl _ _).drew.trans hba | exact hba : Below w1.heap.size w1 wa); clear hba) | (go_at_call 78; refine (outline_any _ _ _ _ _ _ _ _ _ _ _ _ _ _ _ _ _ _ _ _).mono ?_; rintro e wb ⟨rfl, hbb⟩; first | (have HBc := Lib.hid (HBb.out.trans (hbb.mono HBb.out.size)); clear hbb) | (have HBb := Lib.hid (HBa.out.trans (hbb.mono HBa.out.size)); clear hbb)))
  all_goals
    go_wp2_with fail
    go_ret
    exact ⟨rfl, HAL.out.trans (HBc.out.mono HAL.out.size)⟩
end Go.Proofs.Ytbpkppmbbpoohaa
