/- Whether what a field's kind does not use is zero, as the document says, kind by kind. No conditions. -/
import Derived.Test.YtbpkppmbbpoohaaGreatWc
import Derived.Test.YtbpkppmbbpoohaaGreatVe
namespace Go.Proofs.YtbpkppmbbpoohaaGreat
open Go.RowKit Go.Shelf

set_option maxRecDepth 100000 in
set_option maxHeartbeats 6400000 in
theorem zero_10 (d : FieldD) (hk : d.kind = 10) (w : World) : Calls Tryz.prog 83 #[d.agg] w fun e w' => e = .returned (.bool (!spareB d)) ∧ Below w.heap.size w w' := by
  unfold FieldD.agg
  have hal := below_alloc w (.cells #[.string (strL d.name), .int .i64 d.kind, .int .i64 d.bits, .bool d.little, .bool d.loose, .int .i64 d.low, .int .i64 d.high, .int .i64 d.base, .slice d.ta d.terms.length d.tc, .string (strL d.of_), .string (strL d.tag), .string (strL d.from_), .slice d.ca d.cases.length d.cc, .int .i64 d.check, .int .i64 d.key] 55)
  have hbx := FBox.new w d
  obtain ⟨b, eb⟩ : ∃ b, w.heap.size = b := ⟨_, rfl⟩
  obtain ⟨w1, hw1⟩ : ∃ w1, w.alloc (.cells #[.string (strL d.name), .int .i64 d.kind, .int .i64 d.bits, .bool d.little, .bool d.loose, .int .i64 d.low, .int .i64 d.high, .int .i64 d.base, .slice d.ta d.terms.length d.tc, .string (strL d.of_), .string (strL d.tag), .string (strL d.from_), .slice d.ca d.cases.length d.cc, .int .i64 d.check, .int .i64 d.key] 55) = w1 := ⟨_, rfl⟩
  rw [hw1] at hal hbx
  rw [eb] at hbx
  have HW := Lib.hid hw1
  have EB := Lib.hid eb
  have HAL := Lib.hid hal
  have y1 := hbx.c1
  rw [hk] at y1
  have KF : Hid (∀ wx, Below w1.heap.size w1 wx → FBox wx b d) := Lib.hid (fun wx hb => hbx.below hb hbx.lt)
  have hsp : (!spareB d) = (!d.little && !d.loose && (d.low == 0) && (d.high == 0) && (d.base == 0) && (d.terms.length == 0) && (d.of_ == []) && (d.tag == []) && (d.from_ == []) && (d.cases.length == 0) && (d.check == 0) && (d.key == 0)) := by
    rw [Bool.eq_iff_iff]
    simp [spareB, outQ, clrD, zeroF, hk]
    exact ⟨fun h => by simp_all, fun h => by simp_all⟩
  rw [hsp]
  have K98 : hasL (usedL 10) 98 = true := by decide
  have K108 : hasL (usedL 10) 108 = false := by decide
  have K111 : hasL (usedL 10) 111 = false := by decide
  have K120 : hasL (usedL 10) 120 = false := by decide
  have K104 : hasL (usedL 10) 104 = false := by decide
  have K115 : hasL (usedL 10) 115 = false := by decide
  have K102 : hasL (usedL 10) 102 = false := by decide
  have K116 : hasL (usedL 10) 116 = false := by decide
  have K114 : hasL (usedL 10) 114 = false := by decide
  have K99 : hasL (usedL 10) 99 = false := by decide
  have K107 : hasL (usedL 10) 107 = false := by decide
  have K121 : hasL (usedL 10) 121 = false := by decide
  have HH := fun c w => Lib.hid (refHas_any (usedL 10) (by decide) c w)
  have HU := fun w => Lib.hid (refUsed_any 10 (by decide) w)
  have HSP := Lib.hid hsp
  clear hal hbx eb hw1 hk hsp HSP
  go_enter Tryz.func83, Tryz.ntmps83
  go_upto_region 1 with fail
  rw [HW.out, EB.out]
  go_upto_region 2 with (go_at_call 119; refine ((HU _).out).mono ?_; rintro e w2 ⟨rfl, hb2⟩)
  have hf := KF.out w2 hb2
  have HB2 := Lib.hid (HAL.out.trans (hb2.mono HAL.out.size))
  clear y1 hb2 HU
  have y3 := hf.c3
  have y4 := hf.c4
  have y5 := hf.c5
  have y6 := hf.c6
  have y7 := hf.c7
  have y8 := hf.c8
  have y9 := hf.c9
  have y10 := hf.c10
  have y11 := hf.c11
  have y12 := hf.c12
  have y13 := hf.c13
  have y14 := hf.c14
  clear hf
  by_cases q3 : d.little = false
  rotate_left
  · have q3b := Bool.of_not_eq_false q3
    rw [q3b] at y3 ⊢
    go_wp2_with (go_at_call 120; refine ((HH _ _).out).mono ?_; rintro e w' ⟨he, rfl⟩; first | rw [K98] at he; subst he | rw [K108] at he; subst he | rw [K111] at he; subst he | rw [K120] at he; subst he | rw [K104] at he; subst he | rw [K115] at he; subst he | rw [K102] at he; subst he | rw [K116] at he; subst he | rw [K114] at he; subst he | rw [K99] at he; subst he | rw [K107] at he; subst he | rw [K121] at he; subst he)
    go_ret
    exact ⟨ret_bool (by simp [*]), HB2.out⟩
  rw [q3] at y3 ⊢
  by_cases q4 : d.loose = false
  rotate_left
  · have q4b := Bool.of_not_eq_false q4
    rw [q4b] at y4 ⊢
    go_wp2_with (go_at_call 120; refine ((HH _ _).out).mono ?_; rintro e w' ⟨he, rfl⟩; first | rw [K98] at he; subst he | rw [K108] at he; subst he | rw [K111] at he; subst he | rw [K120] at he; subst he | rw [K104] at he; subst he | rw [K115] at he; subst he | rw [K102] at he; subst he | rw [K116] at he; subst he | rw [K114] at he; subst he | rw [K99] at he; subst he | rw [K107] at he; subst he | rw [K121] at he; subst he)
    go_ret
    exact ⟨ret_bool (by simp [*]), HB2.out⟩
  rw [q4] at y4 ⊢
  by_cases q5 : d.low = 0
  rotate_left
  · have n5 : (d.low != 0) = true := bne_iff_ne.2 q5
    have m5 : (d.low == 0) = false := beq_eq_false_iff_ne.2 q5
    go_wp2_with (go_at_call 120; refine ((HH _ _).out).mono ?_; rintro e w' ⟨he, rfl⟩; first | rw [K98] at he; subst he | rw [K108] at he; subst he | rw [K111] at he; subst he | rw [K120] at he; subst he | rw [K104] at he; subst he | rw [K115] at he; subst he | rw [K102] at he; subst he | rw [K116] at he; subst he | rw [K114] at he; subst he | rw [K99] at he; subst he | rw [K107] at he; subst he | rw [K121] at he; subst he)
    go_ret
    exact ⟨ret_bool (by simp [*]), HB2.out⟩
  rw [q5] at y5 ⊢
  by_cases q6 : d.high = 0
  rotate_left
  · have n6 : (d.high != 0) = true := bne_iff_ne.2 q6
    have m6 : (d.high == 0) = false := beq_eq_false_iff_ne.2 q6
    go_wp2_with (go_at_call 120; refine ((HH _ _).out).mono ?_; rintro e w' ⟨he, rfl⟩; first | rw [K98] at he; subst he | rw [K108] at he; subst he | rw [K111] at he; subst he | rw [K120] at he; subst he | rw [K104] at he; subst he | rw [K115] at he; subst he | rw [K102] at he; subst he | rw [K116] at he; subst he | rw [K114] at he; subst he | rw [K99] at he; subst he | rw [K107] at he; subst he | rw [K121] at he; subst he)
    go_ret
    exact ⟨ret_bool (by simp [*]), HB2.out⟩
  rw [q6] at y6 ⊢
  go_upto_region 4 with (go_at_call 120; refine ((HH _ _).out).mono ?_; rintro e w' ⟨he, rfl⟩; first | rw [K98] at he; subst he | rw [K108] at he; subst he | rw [K111] at he; subst he | rw [K120] at he; subst he | rw [K104] at he; subst he | rw [K115] at he; subst he | rw [K102] at he; subst he | rw [K116] at he; subst he | rw [K114] at he; subst he | rw [K99] at he; subst he | rw [K107] at he; subst he | rw [K121] at he; subst he)
  by_cases q7 : d.base = 0
  rotate_left
  · have n7 : (d.base != 0) = true := bne_iff_ne.2 q7
    have m7 : (d.base == 0) = false := beq_eq_false_iff_ne.2 q7
    go_wp2_with (go_at_call 120; refine ((HH _ _).out).mono ?_; rintro e w' ⟨he, rfl⟩; first | rw [K98] at he; subst he | rw [K108] at he; subst he | rw [K111] at he; subst he | rw [K120] at he; subst he | rw [K104] at he; subst he | rw [K115] at he; subst he | rw [K102] at he; subst he | rw [K116] at he; subst he | rw [K114] at he; subst he | rw [K99] at he; subst he | rw [K107] at he; subst he | rw [K121] at he; subst he)
    go_ret
    exact ⟨ret_bool (by simp [*]), HB2.out⟩
  rw [q7] at y7 ⊢
  by_cases q8 : d.terms.length = 0
  rotate_left
  · have n8 : (((d.terms.length : Nat) : Int) != 0) = true := bne_iff_ne.2 (by omega)
    have m8 : (((d.terms.length : Nat) : Int) == 0) = false := beq_eq_false_iff_ne.2 (by omega)
    have m8b : (d.terms.length == 0) = false := beq_eq_false_iff_ne.2 q8
    go_wp2_with (go_at_call 120; refine ((HH _ _).out).mono ?_; rintro e w' ⟨he, rfl⟩; first | rw [K98] at he; subst he | rw [K108] at he; subst he | rw [K111] at he; subst he | rw [K120] at he; subst he | rw [K104] at he; subst he | rw [K115] at he; subst he | rw [K102] at he; subst he | rw [K116] at he; subst he | rw [K114] at he; subst he | rw [K99] at he; subst he | rw [K107] at he; subst he | rw [K121] at he; subst he)
    go_ret
    exact ⟨ret_bool (by simp [*]), HB2.out⟩
  rw [q8] at y8 ⊢
  by_cases q9 : d.of_ = []
  rotate_left
  · have n9 : (strL d.of_).toList.isEmpty = false := by rw [strL_toList]; cases h : d.of_ with | nil => exact absurd h q9 | cons x y => rfl
    have n9b : ¬ (strL d.of_).toList = [] := by rw [strL_toList]; exact q9
    have m9 : (d.of_ == []) = false := beq_eq_false_iff_ne.2 q9
    go_wp2_with (go_at_call 120; refine ((HH _ _).out).mono ?_; rintro e w' ⟨he, rfl⟩; first | rw [K98] at he; subst he | rw [K108] at he; subst he | rw [K111] at he; subst he | rw [K120] at he; subst he | rw [K104] at he; subst he | rw [K115] at he; subst he | rw [K102] at he; subst he | rw [K116] at he; subst he | rw [K114] at he; subst he | rw [K99] at he; subst he | rw [K107] at he; subst he | rw [K121] at he; subst he)
    go_ret
    exact ⟨ret_bool (by simp [*]), HB2.out⟩
  rw [q9] at y9 ⊢; change World.cell? _ _ = some (Value.string ⟨#[]⟩) at y9
  by_cases q10 : d.tag = []
  rotate_left
  · have n10 : (strL d.tag).toList.isEmpty = false := by rw [strL_toList]; cases h : d.tag with | nil => exact absurd h q10 | cons x y => rfl
    have n10b : ¬ (strL d.tag).toList = [] := by rw [strL_toList]; exact q10
    have m10 : (d.tag == []) = false := beq_eq_false_iff_ne.2 q10
    go_wp2_with (go_at_call 120; refine ((HH _ _).out).mono ?_; rintro e w' ⟨he, rfl⟩; first | rw [K98] at he; subst he | rw [K108] at he; subst he | rw [K111] at he; subst he | rw [K120] at he; subst he | rw [K104] at he; subst he | rw [K115] at he; subst he | rw [K102] at he; subst he | rw [K116] at he; subst he | rw [K114] at he; subst he | rw [K99] at he; subst he | rw [K107] at he; subst he | rw [K121] at he; subst he)
    go_ret
    exact ⟨ret_bool (by simp [*]), HB2.out⟩
  rw [q10] at y10 ⊢; change World.cell? _ _ = some (Value.string ⟨#[]⟩) at y10
  by_cases q11 : d.from_ = []
  rotate_left
  · have n11 : (strL d.from_).toList.isEmpty = false := by rw [strL_toList]; cases h : d.from_ with | nil => exact absurd h q11 | cons x y => rfl
    have n11b : ¬ (strL d.from_).toList = [] := by rw [strL_toList]; exact q11
    have m11 : (d.from_ == []) = false := beq_eq_false_iff_ne.2 q11
    go_wp2_with (go_at_call 120; refine ((HH _ _).out).mono ?_; rintro e w' ⟨he, rfl⟩; first | rw [K98] at he; subst he | rw [K108] at he; subst he | rw [K111] at he; subst he | rw [K120] at he; subst he | rw [K104] at he; subst he | rw [K115] at he; subst he | rw [K102] at he; subst he | rw [K116] at he; subst he | rw [K114] at he; subst he | rw [K99] at he; subst he | rw [K107] at he; subst he | rw [K121] at he; subst he)
    go_ret
    exact ⟨ret_bool (by simp [*]), HB2.out⟩
  rw [q11] at y11 ⊢; change World.cell? _ _ = some (Value.string ⟨#[]⟩) at y11
  go_upto_region 6 with (go_at_call 120; refine ((HH _ _).out).mono ?_; rintro e w' ⟨he, rfl⟩; first | rw [K98] at he; subst he | rw [K108] at he; subst he | rw [K111] at he; subst he | rw [K120] at he; subst he | rw [K104] at he; subst he | rw [K115] at he; subst he | rw [K102] at he; subst he | rw [K116] at he; subst he | rw [K114] at he; subst he | rw [K99] at he; subst he | rw [K107] at he; subst he | rw [K121] at he; subst he)
  by_cases q12 : d.cases.length = 0
  rotate_left
  · have n12 : (((d.cases.length : Nat) : Int) != 0) = true := bne_iff_ne.2 (by omega)
    have m12 : (((d.cases.length : Nat) : Int) == 0) = false := beq_eq_false_iff_ne.2 (by omega)
    have m12b : (d.cases.length == 0) = false := beq_eq_false_iff_ne.2 q12
    go_wp2_with (go_at_call 120; refine ((HH _ _).out).mono ?_; rintro e w' ⟨he, rfl⟩; first | rw [K98] at he; subst he | rw [K108] at he; subst he | rw [K111] at he; subst he | rw [K120] at he; subst he | rw [K104] at he; subst he | rw [K115] at he; subst he | rw [K102] at he; subst he | rw [K116] at he; subst he | rw [K114] at he; subst he | rw [K99] at he; subst he | rw [K107] at he; subst he | rw [K121] at he; subst he)
    go_ret
    exact ⟨ret_bool (by simp [*]), HB2.out⟩
  rw [q12] at y12 ⊢
  by_cases q13 : d.check = 0
  rotate_left
  · have n13 : (d.check != 0) = true := bne_iff_ne.2 q13
    have m13 : (d.check == 0) = false := beq_eq_false_iff_ne.2 q13
    go_wp2_with (go_at_call 120; refine ((HH _ _).out).mono ?_; rintro e w' ⟨he, rfl⟩; first | rw [K98] at he; subst he | rw [K108] at he; subst he | rw [K111] at he; subst he | rw [K120] at he; subst he | rw [K104] at he; subst he | rw [K115] at he; subst he | rw [K102] at he; subst he | rw [K116] at he; subst he | rw [K114] at he; subst he | rw [K99] at he; subst he | rw [K107] at he; subst he | rw [K121] at he; subst he)
    go_ret
    exact ⟨ret_bool (by simp [*]), HB2.out⟩
  rw [q13] at y13 ⊢
  by_cases q14 : d.key = 0
  rotate_left
  · have n14 : (d.key != 0) = true := bne_iff_ne.2 q14
    have m14 : (d.key == 0) = false := beq_eq_false_iff_ne.2 q14
    go_wp2_with (go_at_call 120; refine ((HH _ _).out).mono ?_; rintro e w' ⟨he, rfl⟩; first | rw [K98] at he; subst he | rw [K108] at he; subst he | rw [K111] at he; subst he | rw [K120] at he; subst he | rw [K104] at he; subst he | rw [K115] at he; subst he | rw [K102] at he; subst he | rw [K116] at he; subst he | rw [K114] at he; subst he | rw [K99] at he; subst he | rw [K107] at he; subst he | rw [K121] at he; subst he)
    go_ret
    exact ⟨ret_bool (by simp [*]), HB2.out⟩
  rw [q14] at y14 ⊢
  go_wp2_with (go_at_call 120; refine ((HH _ _).out).mono ?_; rintro e w' ⟨he, rfl⟩; first | rw [K98] at he; subst he | rw [K108] at he; subst he | rw [K111] at he; subst he | rw [K120] at he; subst he | rw [K104] at he; subst he | rw [K115] at he; subst he | rw [K102] at he; subst he | rw [K116] at he; subst he | rw [K114] at he; subst he | rw [K99] at he; subst he | rw [K107] at he; subst he | rw [K121] at he; subst he)
  go_ret
  exact ⟨ret_bool (by simp [q3, q4, q5, q6, q7, List.length_eq_zero_iff.1 q8, q9, q10, q11, List.length_eq_zero_iff.1 q12, q13, q14]), HB2.out⟩

set_option maxRecDepth 100000 in
set_option maxHeartbeats 6400000 in
theorem zero_11 (d : FieldD) (hk : d.kind = 11) (w : World) : Calls Tryz.prog 83 #[d.agg] w fun e w' => e = .returned (.bool (!spareB d)) ∧ Below w.heap.size w w' := by
  unfold FieldD.agg
  have hal := below_alloc w (.cells #[.string (strL d.name), .int .i64 d.kind, .int .i64 d.bits, .bool d.little, .bool d.loose, .int .i64 d.low, .int .i64 d.high, .int .i64 d.base, .slice d.ta d.terms.length d.tc, .string (strL d.of_), .string (strL d.tag), .string (strL d.from_), .slice d.ca d.cases.length d.cc, .int .i64 d.check, .int .i64 d.key] 55)
  have hbx := FBox.new w d
  obtain ⟨b, eb⟩ : ∃ b, w.heap.size = b := ⟨_, rfl⟩
  obtain ⟨w1, hw1⟩ : ∃ w1, w.alloc (.cells #[.string (strL d.name), .int .i64 d.kind, .int .i64 d.bits, .bool d.little, .bool d.loose, .int .i64 d.low, .int .i64 d.high, .int .i64 d.base, .slice d.ta d.terms.length d.tc, .string (strL d.of_), .string (strL d.tag), .string (strL d.from_), .slice d.ca d.cases.length d.cc, .int .i64 d.check, .int .i64 d.key] 55) = w1 := ⟨_, rfl⟩
  rw [hw1] at hal hbx
  rw [eb] at hbx
  have HW := Lib.hid hw1
  have EB := Lib.hid eb
  have HAL := Lib.hid hal
  have y1 := hbx.c1
  rw [hk] at y1
  have KF : Hid (∀ wx, Below w1.heap.size w1 wx → FBox wx b d) := Lib.hid (fun wx hb => hbx.below hb hbx.lt)
  have hsp : (!spareB d) = ((d.bits == 0) && !d.little && !d.loose && (d.low == 0) && (d.high == 0) && (d.base == 0) && (d.terms.length == 0) && (d.of_ == []) && (d.tag == []) && (d.cases.length == 0) && (d.key == 0)) := by
    rw [Bool.eq_iff_iff]
    simp [spareB, outQ, clrD, zeroF, hk]
    exact ⟨fun h => by simp_all, fun h => by simp_all⟩
  rw [hsp]
  have K98 : hasL (usedL 11) 98 = false := by decide
  have K108 : hasL (usedL 11) 108 = false := by decide
  have K111 : hasL (usedL 11) 111 = false := by decide
  have K120 : hasL (usedL 11) 120 = false := by decide
  have K104 : hasL (usedL 11) 104 = false := by decide
  have K115 : hasL (usedL 11) 115 = false := by decide
  have K102 : hasL (usedL 11) 102 = false := by decide
  have K116 : hasL (usedL 11) 116 = false := by decide
  have K114 : hasL (usedL 11) 114 = true := by decide
  have K99 : hasL (usedL 11) 99 = false := by decide
  have K107 : hasL (usedL 11) 107 = true := by decide
  have K121 : hasL (usedL 11) 121 = false := by decide
  have HH := fun c w => Lib.hid (refHas_any (usedL 11) (by decide) c w)
  have HU := fun w => Lib.hid (refUsed_any 11 (by decide) w)
  have HSP := Lib.hid hsp
  clear hal hbx eb hw1 hk hsp HSP
  go_enter Tryz.func83, Tryz.ntmps83
  go_upto_region 1 with fail
  rw [HW.out, EB.out]
  go_upto_region 2 with (go_at_call 119; refine ((HU _).out).mono ?_; rintro e w2 ⟨rfl, hb2⟩)
  have hf := KF.out w2 hb2
  have HB2 := Lib.hid (HAL.out.trans (hb2.mono HAL.out.size))
  clear y1 hb2 HU
  have y2 := hf.c2
  have y3 := hf.c3
  have y4 := hf.c4
  have y5 := hf.c5
  have y6 := hf.c6
  have y7 := hf.c7
  have y8 := hf.c8
  have y9 := hf.c9
  have y10 := hf.c10
  have y12 := hf.c12
  have y14 := hf.c14
  clear hf
  by_cases q2 : d.bits = 0
  rotate_left
  · have n2 : (d.bits != 0) = true := bne_iff_ne.2 q2
    have m2 : (d.bits == 0) = false := beq_eq_false_iff_ne.2 q2
    go_wp2_with (go_at_call 120; refine ((HH _ _).out).mono ?_; rintro e w' ⟨he, rfl⟩; first | rw [K98] at he; subst he | rw [K108] at he; subst he | rw [K111] at he; subst he | rw [K120] at he; subst he | rw [K104] at he; subst he | rw [K115] at he; subst he | rw [K102] at he; subst he | rw [K116] at he; subst he | rw [K114] at he; subst he | rw [K99] at he; subst he | rw [K107] at he; subst he | rw [K121] at he; subst he)
    go_ret
    exact ⟨ret_bool (by simp [*]), HB2.out⟩
  rw [q2] at y2 ⊢
  by_cases q3 : d.little = false
  rotate_left
  · have q3b := Bool.of_not_eq_false q3
    rw [q3b] at y3 ⊢
    go_wp2_with (go_at_call 120; refine ((HH _ _).out).mono ?_; rintro e w' ⟨he, rfl⟩; first | rw [K98] at he; subst he | rw [K108] at he; subst he | rw [K111] at he; subst he | rw [K120] at he; subst he | rw [K104] at he; subst he | rw [K115] at he; subst he | rw [K102] at he; subst he | rw [K116] at he; subst he | rw [K114] at he; subst he | rw [K99] at he; subst he | rw [K107] at he; subst he | rw [K121] at he; subst he)
    go_ret
    exact ⟨ret_bool (by simp [*]), HB2.out⟩
  rw [q3] at y3 ⊢
  by_cases q4 : d.loose = false
  rotate_left
  · have q4b := Bool.of_not_eq_false q4
    rw [q4b] at y4 ⊢
    go_wp2_with (go_at_call 120; refine ((HH _ _).out).mono ?_; rintro e w' ⟨he, rfl⟩; first | rw [K98] at he; subst he | rw [K108] at he; subst he | rw [K111] at he; subst he | rw [K120] at he; subst he | rw [K104] at he; subst he | rw [K115] at he; subst he | rw [K102] at he; subst he | rw [K116] at he; subst he | rw [K114] at he; subst he | rw [K99] at he; subst he | rw [K107] at he; subst he | rw [K121] at he; subst he)
    go_ret
    exact ⟨ret_bool (by simp [*]), HB2.out⟩
  rw [q4] at y4 ⊢
  by_cases q5 : d.low = 0
  rotate_left
  · have n5 : (d.low != 0) = true := bne_iff_ne.2 q5
    have m5 : (d.low == 0) = false := beq_eq_false_iff_ne.2 q5
    go_wp2_with (go_at_call 120; refine ((HH _ _).out).mono ?_; rintro e w' ⟨he, rfl⟩; first | rw [K98] at he; subst he | rw [K108] at he; subst he | rw [K111] at he; subst he | rw [K120] at he; subst he | rw [K104] at he; subst he | rw [K115] at he; subst he | rw [K102] at he; subst he | rw [K116] at he; subst he | rw [K114] at he; subst he | rw [K99] at he; subst he | rw [K107] at he; subst he | rw [K121] at he; subst he)
    go_ret
    exact ⟨ret_bool (by simp [*]), HB2.out⟩
  rw [q5] at y5 ⊢
  by_cases q6 : d.high = 0
  rotate_left
  · have n6 : (d.high != 0) = true := bne_iff_ne.2 q6
    have m6 : (d.high == 0) = false := beq_eq_false_iff_ne.2 q6
    go_wp2_with (go_at_call 120; refine ((HH _ _).out).mono ?_; rintro e w' ⟨he, rfl⟩; first | rw [K98] at he; subst he | rw [K108] at he; subst he | rw [K111] at he; subst he | rw [K120] at he; subst he | rw [K104] at he; subst he | rw [K115] at he; subst he | rw [K102] at he; subst he | rw [K116] at he; subst he | rw [K114] at he; subst he | rw [K99] at he; subst he | rw [K107] at he; subst he | rw [K121] at he; subst he)
    go_ret
    exact ⟨ret_bool (by simp [*]), HB2.out⟩
  rw [q6] at y6 ⊢
  go_upto_region 4 with (go_at_call 120; refine ((HH _ _).out).mono ?_; rintro e w' ⟨he, rfl⟩; first | rw [K98] at he; subst he | rw [K108] at he; subst he | rw [K111] at he; subst he | rw [K120] at he; subst he | rw [K104] at he; subst he | rw [K115] at he; subst he | rw [K102] at he; subst he | rw [K116] at he; subst he | rw [K114] at he; subst he | rw [K99] at he; subst he | rw [K107] at he; subst he | rw [K121] at he; subst he)
  by_cases q7 : d.base = 0
  rotate_left
  · have n7 : (d.base != 0) = true := bne_iff_ne.2 q7
    have m7 : (d.base == 0) = false := beq_eq_false_iff_ne.2 q7
    go_wp2_with (go_at_call 120; refine ((HH _ _).out).mono ?_; rintro e w' ⟨he, rfl⟩; first | rw [K98] at he; subst he | rw [K108] at he; subst he | rw [K111] at he; subst he | rw [K120] at he; subst he | rw [K104] at he; subst he | rw [K115] at he; subst he | rw [K102] at he; subst he | rw [K116] at he; subst he | rw [K114] at he; subst he | rw [K99] at he; subst he | rw [K107] at he; subst he | rw [K121] at he; subst he)
    go_ret
    exact ⟨ret_bool (by simp [*]), HB2.out⟩
  rw [q7] at y7 ⊢
  by_cases q8 : d.terms.length = 0
  rotate_left
  · have n8 : (((d.terms.length : Nat) : Int) != 0) = true := bne_iff_ne.2 (by omega)
    have m8 : (((d.terms.length : Nat) : Int) == 0) = false := beq_eq_false_iff_ne.2 (by omega)
    have m8b : (d.terms.length == 0) = false := beq_eq_false_iff_ne.2 q8
    go_wp2_with (go_at_call 120; refine ((HH _ _).out).mono ?_; rintro e w' ⟨he, rfl⟩; first | rw [K98] at he; subst he | rw [K108] at he; subst he | rw [K111] at he; subst he | rw [K120] at he; subst he | rw [K104] at he; subst he | rw [K115] at he; subst he | rw [K102] at he; subst he | rw [K116] at he; subst he | rw [K114] at he; subst he | rw [K99] at he; subst he | rw [K107] at he; subst he | rw [K121] at he; subst he)
    go_ret
    exact ⟨ret_bool (by simp [*]), HB2.out⟩
  rw [q8] at y8 ⊢
  by_cases q9 : d.of_ = []
  rotate_left
  · have n9 : (strL d.of_).toList.isEmpty = false := by rw [strL_toList]; cases h : d.of_ with | nil => exact absurd h q9 | cons x y => rfl
    have n9b : ¬ (strL d.of_).toList = [] := by rw [strL_toList]; exact q9
    have m9 : (d.of_ == []) = false := beq_eq_false_iff_ne.2 q9
    go_wp2_with (go_at_call 120; refine ((HH _ _).out).mono ?_; rintro e w' ⟨he, rfl⟩; first | rw [K98] at he; subst he | rw [K108] at he; subst he | rw [K111] at he; subst he | rw [K120] at he; subst he | rw [K104] at he; subst he | rw [K115] at he; subst he | rw [K102] at he; subst he | rw [K116] at he; subst he | rw [K114] at he; subst he | rw [K99] at he; subst he | rw [K107] at he; subst he | rw [K121] at he; subst he)
    go_ret
    exact ⟨ret_bool (by simp [*]), HB2.out⟩
  rw [q9] at y9 ⊢; change World.cell? _ _ = some (Value.string ⟨#[]⟩) at y9
  by_cases q10 : d.tag = []
  rotate_left
  · have n10 : (strL d.tag).toList.isEmpty = false := by rw [strL_toList]; cases h : d.tag with | nil => exact absurd h q10 | cons x y => rfl
    have n10b : ¬ (strL d.tag).toList = [] := by rw [strL_toList]; exact q10
    have m10 : (d.tag == []) = false := beq_eq_false_iff_ne.2 q10
    go_wp2_with (go_at_call 120; refine ((HH _ _).out).mono ?_; rintro e w' ⟨he, rfl⟩; first | rw [K98] at he; subst he | rw [K108] at he; subst he | rw [K111] at he; subst he | rw [K120] at he; subst he | rw [K104] at he; subst he | rw [K115] at he; subst he | rw [K102] at he; subst he | rw [K116] at he; subst he | rw [K114] at he; subst he | rw [K99] at he; subst he | rw [K107] at he; subst he | rw [K121] at he; subst he)
    go_ret
    exact ⟨ret_bool (by simp [*]), HB2.out⟩
  rw [q10] at y10 ⊢; change World.cell? _ _ = some (Value.string ⟨#[]⟩) at y10
  go_upto_region 6 with (go_at_call 120; refine ((HH _ _).out).mono ?_; rintro e w' ⟨he, rfl⟩; first | rw [K98] at he; subst he | rw [K108] at he; subst he | rw [K111] at he; subst he | rw [K120] at he; subst he | rw [K104] at he; subst he | rw [K115] at he; subst he | rw [K102] at he; subst he | rw [K116] at he; subst he | rw [K114] at he; subst he | rw [K99] at he; subst he | rw [K107] at he; subst he | rw [K121] at he; subst he)
  by_cases q12 : d.cases.length = 0
  rotate_left
  · have n12 : (((d.cases.length : Nat) : Int) != 0) = true := bne_iff_ne.2 (by omega)
    have m12 : (((d.cases.length : Nat) : Int) == 0) = false := beq_eq_false_iff_ne.2 (by omega)
    have m12b : (d.cases.length == 0) = false := beq_eq_false_iff_ne.2 q12
    go_wp2_with (go_at_call 120; refine ((HH _ _).out).mono ?_; rintro e w' ⟨he, rfl⟩; first | rw [K98] at he; subst he | rw [K108] at he; subst he | rw [K111] at he; subst he | rw [K120] at he; subst he | rw [K104] at he; subst he | rw [K115] at he; subst he | rw [K102] at he; subst he | rw [K116] at he; subst he | rw [K114] at he; subst he | rw [K99] at he; subst he | rw [K107] at he; subst he | rw [K121] at he; subst he)
    go_ret
    exact ⟨ret_bool (by simp [*]), HB2.out⟩
  rw [q12] at y12 ⊢
  by_cases q14 : d.key = 0
  rotate_left
  · have n14 : (d.key != 0) = true := bne_iff_ne.2 q14
    have m14 : (d.key == 0) = false := beq_eq_false_iff_ne.2 q14
    go_wp2_with (go_at_call 120; refine ((HH _ _).out).mono ?_; rintro e w' ⟨he, rfl⟩; first | rw [K98] at he; subst he | rw [K108] at he; subst he | rw [K111] at he; subst he | rw [K120] at he; subst he | rw [K104] at he; subst he | rw [K115] at he; subst he | rw [K102] at he; subst he | rw [K116] at he; subst he | rw [K114] at he; subst he | rw [K99] at he; subst he | rw [K107] at he; subst he | rw [K121] at he; subst he)
    go_ret
    exact ⟨ret_bool (by simp [*]), HB2.out⟩
  rw [q14] at y14 ⊢
  go_wp2_with (go_at_call 120; refine ((HH _ _).out).mono ?_; rintro e w' ⟨he, rfl⟩; first | rw [K98] at he; subst he | rw [K108] at he; subst he | rw [K111] at he; subst he | rw [K120] at he; subst he | rw [K104] at he; subst he | rw [K115] at he; subst he | rw [K102] at he; subst he | rw [K116] at he; subst he | rw [K114] at he; subst he | rw [K99] at he; subst he | rw [K107] at he; subst he | rw [K121] at he; subst he)
  go_ret
  exact ⟨ret_bool (by simp [q2, q3, q4, q5, q6, q7, List.length_eq_zero_iff.1 q8, q9, q10, List.length_eq_zero_iff.1 q12, q14]), HB2.out⟩

set_option maxRecDepth 100000 in
set_option maxHeartbeats 6400000 in
theorem zero_12 (d : FieldD) (hk : d.kind = 12) (w : World) : Calls Tryz.prog 83 #[d.agg] w fun e w' => e = .returned (.bool (!spareB d)) ∧ Below w.heap.size w w' := by
  unfold FieldD.agg
  have hal := below_alloc w (.cells #[.string (strL d.name), .int .i64 d.kind, .int .i64 d.bits, .bool d.little, .bool d.loose, .int .i64 d.low, .int .i64 d.high, .int .i64 d.base, .slice d.ta d.terms.length d.tc, .string (strL d.of_), .string (strL d.tag), .string (strL d.from_), .slice d.ca d.cases.length d.cc, .int .i64 d.check, .int .i64 d.key] 55)
  have hbx := FBox.new w d
  obtain ⟨b, eb⟩ : ∃ b, w.heap.size = b := ⟨_, rfl⟩
  obtain ⟨w1, hw1⟩ : ∃ w1, w.alloc (.cells #[.string (strL d.name), .int .i64 d.kind, .int .i64 d.bits, .bool d.little, .bool d.loose, .int .i64 d.low, .int .i64 d.high, .int .i64 d.base, .slice d.ta d.terms.length d.tc, .string (strL d.of_), .string (strL d.tag), .string (strL d.from_), .slice d.ca d.cases.length d.cc, .int .i64 d.check, .int .i64 d.key] 55) = w1 := ⟨_, rfl⟩
  rw [hw1] at hal hbx
  rw [eb] at hbx
  have HW := Lib.hid hw1
  have EB := Lib.hid eb
  have HAL := Lib.hid hal
  have y1 := hbx.c1
  rw [hk] at y1
  have KF : Hid (∀ wx, Below w1.heap.size w1 wx → FBox wx b d) := Lib.hid (fun wx hb => hbx.below hb hbx.lt)
  have hsp : (!spareB d) = ((d.bits == 0) && !d.little && !d.loose && (d.low == 0) && (d.high == 0) && (d.tag == []) && (d.from_ == []) && (d.cases.length == 0) && (d.check == 0)) := by
    rw [Bool.eq_iff_iff]
    simp [spareB, outQ, clrD, zeroF, hk]
    exact ⟨fun h => by simp_all, fun h => by simp_all⟩
  rw [hsp]
  have K98 : hasL (usedL 12) 98 = false := by decide
  have K108 : hasL (usedL 12) 108 = false := by decide
  have K111 : hasL (usedL 12) 111 = false := by decide
  have K120 : hasL (usedL 12) 120 = false := by decide
  have K104 : hasL (usedL 12) 104 = false := by decide
  have K115 : hasL (usedL 12) 115 = true := by decide
  have K102 : hasL (usedL 12) 102 = true := by decide
  have K116 : hasL (usedL 12) 116 = false := by decide
  have K114 : hasL (usedL 12) 114 = false := by decide
  have K99 : hasL (usedL 12) 99 = false := by decide
  have K107 : hasL (usedL 12) 107 = false := by decide
  have K121 : hasL (usedL 12) 121 = true := by decide
  have HH := fun c w => Lib.hid (refHas_any (usedL 12) (by decide) c w)
  have HU := fun w => Lib.hid (refUsed_any 12 (by decide) w)
  have HSP := Lib.hid hsp
  clear hal hbx eb hw1 hk hsp HSP
  go_enter Tryz.func83, Tryz.ntmps83
  go_upto_region 1 with fail
  rw [HW.out, EB.out]
  go_upto_region 2 with (go_at_call 119; refine ((HU _).out).mono ?_; rintro e w2 ⟨rfl, hb2⟩)
  have hf := KF.out w2 hb2
  have HB2 := Lib.hid (HAL.out.trans (hb2.mono HAL.out.size))
  clear y1 hb2 HU
  have y2 := hf.c2
  have y3 := hf.c3
  have y4 := hf.c4
  have y5 := hf.c5
  have y6 := hf.c6
  have y10 := hf.c10
  have y11 := hf.c11
  have y12 := hf.c12
  have y13 := hf.c13
  clear hf
  by_cases q2 : d.bits = 0
  rotate_left
  · have n2 : (d.bits != 0) = true := bne_iff_ne.2 q2
    have m2 : (d.bits == 0) = false := beq_eq_false_iff_ne.2 q2
    go_wp2_with (go_at_call 120; refine ((HH _ _).out).mono ?_; rintro e w' ⟨he, rfl⟩; first | rw [K98] at he; subst he | rw [K108] at he; subst he | rw [K111] at he; subst he | rw [K120] at he; subst he | rw [K104] at he; subst he | rw [K115] at he; subst he | rw [K102] at he; subst he | rw [K116] at he; subst he | rw [K114] at he; subst he | rw [K99] at he; subst he | rw [K107] at he; subst he | rw [K121] at he; subst he)
    go_ret
    exact ⟨ret_bool (by simp [*]), HB2.out⟩
  rw [q2] at y2 ⊢
  by_cases q3 : d.little = false
  rotate_left
  · have q3b := Bool.of_not_eq_false q3
    rw [q3b] at y3 ⊢
    go_wp2_with (go_at_call 120; refine ((HH _ _).out).mono ?_; rintro e w' ⟨he, rfl⟩; first | rw [K98] at he; subst he | rw [K108] at he; subst he | rw [K111] at he; subst he | rw [K120] at he; subst he | rw [K104] at he; subst he | rw [K115] at he; subst he | rw [K102] at he; subst he | rw [K116] at he; subst he | rw [K114] at he; subst he | rw [K99] at he; subst he | rw [K107] at he; subst he | rw [K121] at he; subst he)
    go_ret
    exact ⟨ret_bool (by simp [*]), HB2.out⟩
  rw [q3] at y3 ⊢
  by_cases q4 : d.loose = false
  rotate_left
  · have q4b := Bool.of_not_eq_false q4
    rw [q4b] at y4 ⊢
    go_wp2_with (go_at_call 120; refine ((HH _ _).out).mono ?_; rintro e w' ⟨he, rfl⟩; first | rw [K98] at he; subst he | rw [K108] at he; subst he | rw [K111] at he; subst he | rw [K120] at he; subst he | rw [K104] at he; subst he | rw [K115] at he; subst he | rw [K102] at he; subst he | rw [K116] at he; subst he | rw [K114] at he; subst he | rw [K99] at he; subst he | rw [K107] at he; subst he | rw [K121] at he; subst he)
    go_ret
    exact ⟨ret_bool (by simp [*]), HB2.out⟩
  rw [q4] at y4 ⊢
  by_cases q5 : d.low = 0
  rotate_left
  · have n5 : (d.low != 0) = true := bne_iff_ne.2 q5
    have m5 : (d.low == 0) = false := beq_eq_false_iff_ne.2 q5
    go_wp2_with (go_at_call 120; refine ((HH _ _).out).mono ?_; rintro e w' ⟨he, rfl⟩; first | rw [K98] at he; subst he | rw [K108] at he; subst he | rw [K111] at he; subst he | rw [K120] at he; subst he | rw [K104] at he; subst he | rw [K115] at he; subst he | rw [K102] at he; subst he | rw [K116] at he; subst he | rw [K114] at he; subst he | rw [K99] at he; subst he | rw [K107] at he; subst he | rw [K121] at he; subst he)
    go_ret
    exact ⟨ret_bool (by simp [*]), HB2.out⟩
  rw [q5] at y5 ⊢
  by_cases q6 : d.high = 0
  rotate_left
  · have n6 : (d.high != 0) = true := bne_iff_ne.2 q6
    have m6 : (d.high == 0) = false := beq_eq_false_iff_ne.2 q6
    go_wp2_with (go_at_call 120; refine ((HH _ _).out).mono ?_; rintro e w' ⟨he, rfl⟩; first | rw [K98] at he; subst he | rw [K108] at he; subst he | rw [K111] at he; subst he | rw [K120] at he; subst he | rw [K104] at he; subst he | rw [K115] at he; subst he | rw [K102] at he; subst he | rw [K116] at he; subst he | rw [K114] at he; subst he | rw [K99] at he; subst he | rw [K107] at he; subst he | rw [K121] at he; subst he)
    go_ret
    exact ⟨ret_bool (by simp [*]), HB2.out⟩
  rw [q6] at y6 ⊢
  go_upto_region 4 with (go_at_call 120; refine ((HH _ _).out).mono ?_; rintro e w' ⟨he, rfl⟩; first | rw [K98] at he; subst he | rw [K108] at he; subst he | rw [K111] at he; subst he | rw [K120] at he; subst he | rw [K104] at he; subst he | rw [K115] at he; subst he | rw [K102] at he; subst he | rw [K116] at he; subst he | rw [K114] at he; subst he | rw [K99] at he; subst he | rw [K107] at he; subst he | rw [K121] at he; subst he)
  by_cases q10 : d.tag = []
  rotate_left
  · have n10 : (strL d.tag).toList.isEmpty = false := by rw [strL_toList]; cases h : d.tag with | nil => exact absurd h q10 | cons x y => rfl
    have n10b : ¬ (strL d.tag).toList = [] := by rw [strL_toList]; exact q10
    have m10 : (d.tag == []) = false := beq_eq_false_iff_ne.2 q10
    go_wp2_with (go_at_call 120; refine ((HH _ _).out).mono ?_; rintro e w' ⟨he, rfl⟩; first | rw [K98] at he; subst he | rw [K108] at he; subst he | rw [K111] at he; subst he | rw [K120] at he; subst he | rw [K104] at he; subst he | rw [K115] at he; subst he | rw [K102] at he; subst he | rw [K116] at he; subst he | rw [K114] at he; subst he | rw [K99] at he; subst he | rw [K107] at he; subst he | rw [K121] at he; subst he)
    go_ret
    exact ⟨ret_bool (by simp [*]), HB2.out⟩
  rw [q10] at y10 ⊢; change World.cell? _ _ = some (Value.string ⟨#[]⟩) at y10
  by_cases q11 : d.from_ = []
  rotate_left
  · have n11 : (strL d.from_).toList.isEmpty = false := by rw [strL_toList]; cases h : d.from_ with | nil => exact absurd h q11 | cons x y => rfl
    have n11b : ¬ (strL d.from_).toList = [] := by rw [strL_toList]; exact q11
    have m11 : (d.from_ == []) = false := beq_eq_false_iff_ne.2 q11
    go_wp2_with (go_at_call 120; refine ((HH _ _).out).mono ?_; rintro e w' ⟨he, rfl⟩; first | rw [K98] at he; subst he | rw [K108] at he; subst he | rw [K111] at he; subst he | rw [K120] at he; subst he | rw [K104] at he; subst he | rw [K115] at he; subst he | rw [K102] at he; subst he | rw [K116] at he; subst he | rw [K114] at he; subst he | rw [K99] at he; subst he | rw [K107] at he; subst he | rw [K121] at he; subst he)
    go_ret
    exact ⟨ret_bool (by simp [*]), HB2.out⟩
  rw [q11] at y11 ⊢; change World.cell? _ _ = some (Value.string ⟨#[]⟩) at y11
  go_upto_region 6 with (go_at_call 120; refine ((HH _ _).out).mono ?_; rintro e w' ⟨he, rfl⟩; first | rw [K98] at he; subst he | rw [K108] at he; subst he | rw [K111] at he; subst he | rw [K120] at he; subst he | rw [K104] at he; subst he | rw [K115] at he; subst he | rw [K102] at he; subst he | rw [K116] at he; subst he | rw [K114] at he; subst he | rw [K99] at he; subst he | rw [K107] at he; subst he | rw [K121] at he; subst he)
  by_cases q12 : d.cases.length = 0
  rotate_left
  · have n12 : (((d.cases.length : Nat) : Int) != 0) = true := bne_iff_ne.2 (by omega)
    have m12 : (((d.cases.length : Nat) : Int) == 0) = false := beq_eq_false_iff_ne.2 (by omega)
    have m12b : (d.cases.length == 0) = false := beq_eq_false_iff_ne.2 q12
    go_wp2_with (go_at_call 120; refine ((HH _ _).out).mono ?_; rintro e w' ⟨he, rfl⟩; first | rw [K98] at he; subst he | rw [K108] at he; subst he | rw [K111] at he; subst he | rw [K120] at he; subst he | rw [K104] at he; subst he | rw [K115] at he; subst he | rw [K102] at he; subst he | rw [K116] at he; subst he | rw [K114] at he; subst he | rw [K99] at he; subst he | rw [K107] at he; subst he | rw [K121] at he; subst he)
    go_ret
    exact ⟨ret_bool (by simp [*]), HB2.out⟩
  rw [q12] at y12 ⊢
  by_cases q13 : d.check = 0
  rotate_left
  · have n13 : (d.check != 0) = true := bne_iff_ne.2 q13
    have m13 : (d.check == 0) = false := beq_eq_false_iff_ne.2 q13
    go_wp2_with (go_at_call 120; refine ((HH _ _).out).mono ?_; rintro e w' ⟨he, rfl⟩; first | rw [K98] at he; subst he | rw [K108] at he; subst he | rw [K111] at he; subst he | rw [K120] at he; subst he | rw [K104] at he; subst he | rw [K115] at he; subst he | rw [K102] at he; subst he | rw [K116] at he; subst he | rw [K114] at he; subst he | rw [K99] at he; subst he | rw [K107] at he; subst he | rw [K121] at he; subst he)
    go_ret
    exact ⟨ret_bool (by simp [*]), HB2.out⟩
  rw [q13] at y13 ⊢
  go_wp2_with (go_at_call 120; refine ((HH _ _).out).mono ?_; rintro e w' ⟨he, rfl⟩; first | rw [K98] at he; subst he | rw [K108] at he; subst he | rw [K111] at he; subst he | rw [K120] at he; subst he | rw [K104] at he; subst he | rw [K115] at he; subst he | rw [K102] at he; subst he | rw [K116] at he; subst he | rw [K114] at he; subst he | rw [K99] at he; subst he | rw [K107] at he; subst he | rw [K121] at he; subst he)
  go_ret
  exact ⟨ret_bool (by simp [q2, q3, q4, q5, q6, q10, q11, List.length_eq_zero_iff.1 q12, q13]), HB2.out⟩

end Go.Proofs.YtbpkppmbbpoohaaGreat
