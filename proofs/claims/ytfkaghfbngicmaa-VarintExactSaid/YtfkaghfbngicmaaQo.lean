/- The examples of the chapter: known of law 09 returns true. No conditions. -/
import Derived.Test.YtfkaghfbngicmaaQn
namespace Go.Proofs.Ytfkaghfbngicmaa
open Go.RowKit Go.Shelf

set_option maxRecDepth 100000 in
set_option maxHeartbeats 6400000 in
theorem known9_any (w : World) : Calls Try.prog 10 #[] w fun e w' => e = .returned (.bool true) ∧ Below w.heap.size w w' := by
  have A1 := fun w => Lib.hid (append_lit 300 2 [172, 2] (by decide) (by decide) (by decide) 2 rfl w)
  have A2 := fun w => Lib.hid (append_lit 0 1 [0] (by decide) (by decide) (by decide) 1 rfl w)
  have A3 := fun w => Lib.hid (append_bad none 0 0 34359738368 (by decide) w)
  have L1 := fun w => Lib.hid (len_lit 34359738367 5 (by decide) (by decide) w)
  have R1 := fun w => Lib.hid (reads_any [172, 2, 255] false 300 2 (300, 2, 0) (by decide) true (by decide) ⟨#[172, 2, 255]⟩ rfl (by decide) (by decide) w)
  have R2 := fun w => Lib.hid (refuses_any [172] 4 (0, 0, 4) (by decide) true (by decide) ⟨#[172]⟩ rfl (by decide) (by decide) w)
  have R3 := fun w => Lib.hid (refuses_any [128, 0] 6 (0, 0, 6) (by decide) true (by decide) ⟨#[128, 0]⟩ rfl (by decide) (by decide) w)
  have R4 := fun w => Lib.hid (reads_any [128, 0] true 0 2 (0, 2, 0) (by decide) true (by decide) ⟨#[128, 0]⟩ rfl (by decide) (by decide) w)
  have R5 := fun w => Lib.hid (refuses_any [128, 128, 128, 128, 128] 6 (0, 0, 6) (by decide) true (by decide) ⟨#[128, 128, 128, 128, 128]⟩ rfl (by decide) (by decide) w)
  have B1 := fun w => Lib.hid (beginsL_any [172] false 300 300 true (by decide) ⟨#[172]⟩ rfl (by decide) (by decide) w)
  have B2 := fun w => Lib.hid (beginsL_any [172] false 44 44 false (by decide) ⟨#[172]⟩ rfl (by decide) (by decide) w)
  have B3 := fun w => Lib.hid (beginsL_any [172] true 44 44 true (by decide) ⟨#[172]⟩ rfl (by decide) (by decide) w)
  have B4 := fun w => Lib.hid (beginsL_any [173] false 300 427 true (by decide) ⟨#[173]⟩ rfl (by decide) (by decide) w)
  have F1 := fun w => Lib.hid (fold_any (-1) w)
  have F2 := fun w => Lib.hid (fold_any 5 w)
  have F3 := fun w => Lib.hid (unfold_any 4 w)
  have F4 := fun w => Lib.hid (fold_any 17179869184 w)
  rw [show foldC (-1) = (1, 0) by decide] at F1
  rw [show foldC 5 = (10, 0) by decide] at F2
  rw [show unfoldC 4 = (2, 0) by decide] at F3
  rw [show foldC 17179869184 = (0, 3) by decide] at F4
  go_enter Try.func10, Try.ntmps10
  go_wp2_with fail
  refine (A1 _).out.mono ?_
  rintro e w1 ⟨g1, c1, rfl, hs1, hb1⟩
  have HB1 := Lib.hid hb1
  have HS1 := Lib.hid hs1
  clear hb1 hs1
  go_wp2_with fail
  refine (A2 _).out.mono ?_
  rintro e w2 ⟨g2, c2, rfl, hs2, hb2⟩
  have HB2 := Lib.hid (HB1.out.trans (hb2.mono HB1.out.size))
  have HS12 := Lib.hid (HS1.out.below hb2 HS1.out.lt)
  have HS2 := Lib.hid hs2
  clear hb2 hs2
  go_wp2_with fail
  refine (A3 _).out.mono ?_
  rintro e w3 ⟨rfl, hb3⟩
  have HB3 := Lib.hid (HB2.out.trans (hb3.mono HB2.out.size))
  have HS13 := Lib.hid (HS12.out.below hb3 HS12.out.lt)
  have HS23 := Lib.hid (HS2.out.below hb3 HS2.out.lt)
  clear hb3
  go_wp2_with fail
  refine (L1 _).out.mono ?_
  rintro e w4 ⟨rfl, hb4⟩
  have HB4 := Lib.hid (HB3.out.trans (hb4.mono HB3.out.size))
  have q1 := conv_src (HS13.out.below hb4 HS13.out.lt) (by decide)
  have q2 := conv_src (HS23.out.below hb4 HS23.out.lt) (by decide)
  rw [show strOf [172, 2] = ⟨#[172, 2]⟩ from rfl] at q1
  rw [show strOf [0] = ⟨#[0]⟩ from rfl] at q2
  clear hb4
  go_wp2_with fail
  clear q1 q2
  refine (R1 _).out.mono ?_
  rintro e w5 ⟨rfl, hb5⟩
  have HB5 := Lib.hid (HB4.out.trans (hb5.mono HB4.out.size))
  clear hb5
  go_wp2_with fail
  refine (R2 _).out.mono ?_
  rintro e w6 ⟨rfl, hb6⟩
  have HB6 := Lib.hid (HB5.out.trans (hb6.mono HB5.out.size))
  clear hb6
  go_wp2_with fail
  refine (R3 _).out.mono ?_
  rintro e w7 ⟨rfl, hb7⟩
  have HB7 := Lib.hid (HB6.out.trans (hb7.mono HB6.out.size))
  clear hb7
  go_wp2_with fail
  refine (R4 _).out.mono ?_
  rintro e w8 ⟨rfl, hb8⟩
  have HB8 := Lib.hid (HB7.out.trans (hb8.mono HB7.out.size))
  clear hb8
  go_wp2_with fail
  refine (R5 _).out.mono ?_
  rintro e w9 ⟨rfl, hb9⟩
  have HB9 := Lib.hid (HB8.out.trans (hb9.mono HB8.out.size))
  clear hb9
  go_wp2_with fail
  refine (B1 _).out.mono ?_
  rintro e w10 ⟨rfl, hb10⟩
  have HB10 := Lib.hid (HB9.out.trans (hb10.mono HB9.out.size))
  clear hb10
  go_wp2_with fail
  refine (B2 _).out.mono ?_
  rintro e w11 ⟨rfl, hb11⟩
  have HB11 := Lib.hid (HB10.out.trans (hb11.mono HB10.out.size))
  clear hb11
  go_wp2_with fail
  refine (B3 _).out.mono ?_
  rintro e w12 ⟨rfl, hb12⟩
  have HB12 := Lib.hid (HB11.out.trans (hb12.mono HB11.out.size))
  clear hb12
  go_wp2_with fail
  refine (B4 _).out.mono ?_
  rintro e w13 ⟨rfl, hb13⟩
  have HB13 := Lib.hid (HB12.out.trans (hb13.mono HB12.out.size))
  clear hb13
  go_wp2_with fail
  refine (F1 _).out.mono ?_
  rintro e w' ⟨rfl, rfl⟩
  go_wp2_with fail
  refine (F2 _).out.mono ?_
  rintro e w' ⟨rfl, rfl⟩
  go_wp2_with fail
  refine (F3 _).out.mono ?_
  rintro e w' ⟨rfl, rfl⟩
  go_wp2_with fail
  refine (F4 _).out.mono ?_
  rintro e w' ⟨rfl, rfl⟩
  go_wp2
  go_ret
  exact ⟨rfl, HB13.out⟩
end Go.Proofs.Ytfkaghfbngicmaa
