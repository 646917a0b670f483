/- Every call without a writer or a reader: for nil and for the zero value. Conditions: the zero value lies in memory. -/
import Derived.Test.YtboiiohpkoodpaaKn
namespace Go.Proofs.Ytboiiohpkoodpaa
open Go.RowKit Go.Shelf

set_option maxRecDepth 100000 in
set_option maxHeartbeats 800000 in
theorem put_nil (w : World) (v n : Int) :
    Calls Try.prog 18 #[.pointer none, .int .i64 v, .int .i64 n] w fun e w' => e = .returned (.int .i64 1) ∧ Below w.heap.size w w' := by
  have hf := firstError3 ⟨1, 34, #[.pointer none], #[], true⟩ ⟨2, 44, #[], #[.pointer (some ⟨w.heap.size + 1 + 1, 0, none⟩), .pointer (some ⟨w.heap.size + 1, 0, none⟩)], false⟩ ⟨7, 47, #[], #[.pointer (some ⟨w.heap.size + 1 + 1, 0, none⟩), .pointer (some ⟨w.heap.size, 0, none⟩)], false⟩ (box3 w (.pointer none) (.int .i64 v) (.int .i64 n) 25 3 3) _ (box3_size w (.pointer none) (.int .i64 v) (.int .i64 n) 25 3 3) (good34n) (fun h => by cases h) (fun h _ => by cases h)
  rw [show firstCode _ = 1 from rfl] at hf
  have HF := Lib.hid hf
  have HBX := Lib.hid (box3_below w (.pointer none) (.int .i64 v) (.int .i64 n) 25 3 3)
  clear hf
  go_enter Try.func18, Try.ntmps18
  go_wp2_with fail
  refine HF.out.mono ?_
  rintro e w1 ⟨rfl, hb1⟩
  go_wp2
  go_ret
  exact ⟨rfl, HBX.out.trans (hb1.mono HBX.out.size)⟩

set_option maxRecDepth 100000 in
set_option maxHeartbeats 800000 in
theorem little_nil (w : World) (v n : Int) :
    Calls Try.prog 32 #[.pointer none, .int .i64 v, .int .i64 n] w fun e w' => e = .returned (.int .i64 1) ∧ Below w.heap.size w w' := by
  have hf := firstError4 ⟨1, 34, #[.pointer none], #[], true⟩ ⟨2, 79, #[], #[.pointer (some ⟨w.heap.size + 1 + 1, 0, none⟩), .pointer (some ⟨w.heap.size + 1, 0, none⟩)], false⟩ ⟨8, 80, #[], #[.pointer (some ⟨w.heap.size, 0, none⟩)], false⟩ ⟨7, 81, #[], #[.pointer (some ⟨w.heap.size + 1 + 1, 0, none⟩), .pointer (some ⟨w.heap.size, 0, none⟩)], false⟩ (box3 w (.pointer none) (.int .i64 v) (.int .i64 n) 25 3 3) _ (box3_size w (.pointer none) (.int .i64 v) (.int .i64 n) 25 3 3) (good34n) (fun h => by cases h) (fun h _ => by cases h) (fun h _ _ => by cases h)
  rw [show firstCode _ = 1 from rfl] at hf
  have HF := Lib.hid hf
  have HBX := Lib.hid (box3_below w (.pointer none) (.int .i64 v) (.int .i64 n) 25 3 3)
  clear hf
  go_enter Try.func32, Try.ntmps32
  go_wp2_with fail
  refine HF.out.mono ?_
  rintro e w1 ⟨rfl, hb1⟩
  go_wp2
  go_ret
  exact ⟨rfl, HBX.out.trans (hb1.mono HBX.out.size)⟩

set_option maxRecDepth 100000 in
set_option maxHeartbeats 800000 in
theorem bytes_nil (w : World) (A : Option Addr) (m c : Nat) :
    Calls Try.prog 36 #[.pointer none, .slice A m c] w fun e w' => e = .returned (.int .i64 1) ∧ Below w.heap.size w w' := by
  have hf := firstError3 ⟨1, 34, #[.pointer none], #[], true⟩ ⟨8, 85, #[], #[.pointer (some ⟨w.heap.size, 0, none⟩)], false⟩ ⟨7, 86, #[], #[.pointer (some ⟨w.heap.size + 1, 0, none⟩), .pointer (some ⟨w.heap.size, 0, none⟩)], false⟩ (box2 w (.pointer none) (.slice A m c) 25 28) _ (box2_size w (.pointer none) (.slice A m c) 25 28) (good34n) (fun h => by cases h) (fun h _ => by cases h)
  rw [show firstCode _ = 1 from rfl] at hf
  have HF := Lib.hid hf
  have HBX := Lib.hid (box2_below w (.pointer none) (.slice A m c) 25 28)
  clear hf
  go_enter Try.func36, Try.ntmps36
  go_wp2_with fail
  refine HF.out.mono ?_
  rintro e w1 ⟨rfl, hb1⟩
  go_wp2
  go_ret
  exact ⟨rfl, HBX.out.trans (hb1.mono HBX.out.size)⟩

set_option maxRecDepth 100000 in
set_option maxHeartbeats 800000 in
theorem align_nil (w : World) (n : Int) :
    Calls Try.prog 33 #[.pointer none, .int .i64 n] w fun e w' => e = .returned (.int .i64 1) ∧ Below w.heap.size w w' := by
  have hf := firstError3 ⟨1, 34, #[.pointer none], #[], true⟩ ⟨2, 83, #[], #[.pointer (some ⟨w.heap.size + 1, 0, none⟩)], false⟩ ⟨7, 84, #[], #[.pointer (some ⟨w.heap.size, 0, none⟩), .pointer (some ⟨w.heap.size + 1, 0, none⟩)], false⟩ (box2 w (.pointer none) (.int .i64 n) 25 3) _ (box2_size w (.pointer none) (.int .i64 n) 25 3) (good34n) (fun h => by cases h) (fun h _ => by cases h)
  rw [show firstCode _ = 1 from rfl] at hf
  have HF := Lib.hid hf
  have HBX := Lib.hid (box2_below w (.pointer none) (.int .i64 n) 25 3)
  clear hf
  go_enter Try.func33, Try.ntmps33
  go_wp2_with fail
  refine HF.out.mono ?_
  rintro e w1 ⟨rfl, hb1⟩
  go_wp2
  go_ret
  exact ⟨rfl, HBX.out.trans (hb1.mono HBX.out.size)⟩

set_option maxRecDepth 100000 in
set_option maxHeartbeats 800000 in
theorem get_nil (w : World) (n : Int) :
    Calls Try.prog 28 #[.pointer none, .int .i64 n] w fun e w' => e = .returned (.tuple #[.int .i64 0, .int .i64 1]) ∧ Below w.heap.size w w' := by
  have hf := firstError3 ⟨1, 53, #[.pointer none], #[], true⟩ ⟨2, 63, #[], #[.pointer (some ⟨w.heap.size + 1, 0, none⟩)], false⟩ ⟨4, 64, #[], #[.pointer (some ⟨w.heap.size + 1, 0, none⟩), .pointer (some ⟨w.heap.size, 0, none⟩)], false⟩ (box2 w (.pointer none) (.int .i64 n) 40 3) _ (box2_size w (.pointer none) (.int .i64 n) 40 3) (good53n) (fun h => by cases h) (fun h _ => by cases h)
  rw [show firstCode _ = 1 from rfl] at hf
  have HF := Lib.hid hf
  have HBX := Lib.hid (box2_below w (.pointer none) (.int .i64 n) 40 3)
  clear hf
  go_enter Try.func28, Try.ntmps28
  go_wp2_with fail
  refine HF.out.mono ?_
  rintro e w1 ⟨rfl, hb1⟩
  go_wp2
  go_ret2
  exact ⟨rfl, HBX.out.trans (hb1.mono HBX.out.size)⟩

set_option maxRecDepth 100000 in
set_option maxHeartbeats 800000 in
theorem rlittle_nil (w : World) (n : Int) :
    Calls Try.prog 29 #[.pointer none, .int .i64 n] w fun e w' => e = .returned (.tuple #[.int .i64 0, .int .i64 1]) ∧ Below w.heap.size w w' := by
  have hf := firstError4 ⟨1, 53, #[.pointer none], #[], true⟩ ⟨2, 66, #[], #[.pointer (some ⟨w.heap.size + 1, 0, none⟩)], false⟩ ⟨8, 67, #[], #[.pointer (some ⟨w.heap.size, 0, none⟩)], false⟩ ⟨4, 69, #[], #[.pointer (some ⟨w.heap.size + 1, 0, none⟩), .pointer (some ⟨w.heap.size, 0, none⟩)], false⟩ (box2 w (.pointer none) (.int .i64 n) 40 3) _ (box2_size w (.pointer none) (.int .i64 n) 40 3) (good53n) (fun h => by cases h) (fun h _ => by cases h) (fun h _ _ => by cases h)
  rw [show firstCode _ = 1 from rfl] at hf
  have HF := Lib.hid hf
  have HBX := Lib.hid (box2_below w (.pointer none) (.int .i64 n) 40 3)
  clear hf
  go_enter Try.func29, Try.ntmps29
  go_wp2_with fail
  refine HF.out.mono ?_
  rintro e w1 ⟨rfl, hb1⟩
  go_wp2
  go_ret2
  exact ⟨rfl, HBX.out.trans (hb1.mono HBX.out.size)⟩

set_option maxRecDepth 100000 in
set_option maxHeartbeats 800000 in
theorem take_nil (w : World) (n : Int) :
    Calls Try.prog 30 #[.pointer none, .int .i64 n] w fun e w' => e = .returned (.tuple #[.slice none 0 0, .int .i64 1]) ∧ Below w.heap.size w w' := by
  have hf := firstError4 ⟨1, 53, #[.pointer none], #[], true⟩ ⟨2, 71, #[], #[.pointer (some ⟨w.heap.size + 1, 0, none⟩)], false⟩ ⟨8, 72, #[], #[.pointer (some ⟨w.heap.size, 0, none⟩)], false⟩ ⟨4, 73, #[], #[.pointer (some ⟨w.heap.size + 1, 0, none⟩), .pointer (some ⟨w.heap.size, 0, none⟩)], false⟩ (box2 w (.pointer none) (.int .i64 n) 40 3) _ (box2_size w (.pointer none) (.int .i64 n) 40 3) (good53n) (fun h => by cases h) (fun h _ => by cases h) (fun h _ _ => by cases h)
  rw [show firstCode _ = 1 from rfl] at hf
  have HF := Lib.hid hf
  have HBX := Lib.hid (box2_below w (.pointer none) (.int .i64 n) 40 3)
  clear hf
  go_enter Try.func30, Try.ntmps30
  go_wp2_with fail
  refine HF.out.mono ?_
  rintro e w1 ⟨rfl, hb1⟩
  go_wp2
  go_ret2
  exact ⟨rfl, HBX.out.trans (hb1.mono HBX.out.size)⟩

set_option maxRecDepth 100000 in
set_option maxHeartbeats 800000 in
theorem skip_nil (w : World) (n : Int) :
    Calls Try.prog 26 #[.pointer none, .int .i64 n] w fun e w' => e = .returned (.int .i64 1) ∧ Below w.heap.size w w' := by
  have hf := firstError3 ⟨1, 53, #[.pointer none], #[], true⟩ ⟨2, 59, #[], #[.pointer (some ⟨w.heap.size + 1, 0, none⟩)], false⟩ ⟨4, 60, #[], #[.pointer (some ⟨w.heap.size + 1, 0, none⟩), .pointer (some ⟨w.heap.size, 0, none⟩)], false⟩ (box2 w (.pointer none) (.int .i64 n) 40 3) _ (box2_size w (.pointer none) (.int .i64 n) 40 3) (good53n) (fun h => by cases h) (fun h _ => by cases h)
  rw [show firstCode _ = 1 from rfl] at hf
  have HF := Lib.hid hf
  have HBX := Lib.hid (box2_below w (.pointer none) (.int .i64 n) 40 3)
  clear hf
  go_enter Try.func26, Try.ntmps26
  go_wp2_with fail
  refine HF.out.mono ?_
  rintro e w1 ⟨rfl, hb1⟩
  go_wp2
  go_ret
  exact ⟨rfl, HBX.out.trans (hb1.mono HBX.out.size)⟩

set_option maxRecDepth 100000 in
set_option maxHeartbeats 800000 in
theorem pad_nil (w : World) (n : Int) :
    Calls Try.prog 31 #[.pointer none, .int .i64 n] w fun e w' => e = .returned (.int .i64 1) ∧ Below w.heap.size w w' := by
  have hf := firstError4 ⟨1, 53, #[.pointer none], #[], true⟩ ⟨2, 74, #[], #[.pointer (some ⟨w.heap.size + 1, 0, none⟩)], false⟩ ⟨4, 75, #[], #[.pointer (some ⟨w.heap.size, 0, none⟩), .pointer (some ⟨w.heap.size + 1, 0, none⟩)], false⟩ ⟨6, 77, #[], #[.pointer (some ⟨w.heap.size, 0, none⟩), .pointer (some ⟨w.heap.size + 1, 0, none⟩)], false⟩ (box2 w (.pointer none) (.int .i64 n) 40 3) _ (box2_size w (.pointer none) (.int .i64 n) 40 3) (good53n) (fun h => by cases h) (fun h _ => by cases h) (fun h _ _ => by cases h)
  rw [show firstCode _ = 1 from rfl] at hf
  have HF := Lib.hid hf
  have HBX := Lib.hid (box2_below w (.pointer none) (.int .i64 n) 40 3)
  clear hf
  go_enter Try.func31, Try.ntmps31
  go_wp2_with fail
  refine HF.out.mono ?_
  rintro e w1 ⟨rfl, hb1⟩
  go_wp2
  go_ret
  exact ⟨rfl, HBX.out.trans (hb1.mono HBX.out.size)⟩

set_option maxRecDepth 100000 in
set_option maxHeartbeats 400000 in
theorem len_nil (w : World) :
    Calls Try.prog 16 #[.pointer none] w fun e w' => e = .returned (.int .i64 0) ∧ w = w' := by
  go_enter Try.func16, Try.ntmps16
  go_wp2_with (go_at_call 34; go_must (refine (none_nil _).mono ?_); rintro e w1 ⟨rfl, rfl⟩)
  go_ret
  exact ⟨rfl, rfl⟩

set_option maxRecDepth 100000 in
set_option maxHeartbeats 400000 in
theorem out_nil (w : World) :
    Calls Try.prog 15 #[.pointer none] w fun e w' => e = .returned (.slice none 0 0) ∧ w = w' := by
  go_enter Try.func15, Try.ntmps15
  go_wp2_with (go_at_call 34; go_must (refine (none_nil _).mono ?_); rintro e w1 ⟨rfl, rfl⟩)
  go_ret
  exact ⟨rfl, rfl⟩

set_option maxRecDepth 100000 in
set_option maxHeartbeats 400000 in
theorem wcopy_nil (w : World) :
    Calls Try.prog 12 #[.pointer none] w fun e w' => e = .returned (.pointer none) ∧ w = w' := by
  go_enter Try.func12, Try.ntmps12
  go_wp2_with (go_at_call 34; go_must (refine (none_nil _).mono ?_); rintro e w1 ⟨rfl, rfl⟩)
  go_ret
  exact ⟨rfl, rfl⟩

set_option maxRecDepth 100000 in
set_option maxHeartbeats 400000 in
theorem left_nil (w : World) :
    Calls Try.prog 25 #[.pointer none] w fun e w' => e = .returned (.int .i64 0) ∧ w = w' := by
  go_enter Try.func25, Try.ntmps25
  go_wp2_with (go_at_call 53; go_must (refine (rnone_nil _).mono ?_); rintro e w1 ⟨rfl, rfl⟩)
  go_ret
  exact ⟨rfl, rfl⟩

set_option maxRecDepth 100000 in
set_option maxHeartbeats 400000 in
theorem place_nil (w : World) :
    Calls Try.prog 24 #[.pointer none] w fun e w' => e = .returned (.int .i64 0) ∧ w = w' := by
  go_enter Try.func24, Try.ntmps24
  go_wp2_with (go_at_call 53; go_must (refine (rnone_nil _).mono ?_); rintro e w1 ⟨rfl, rfl⟩)
  go_ret
  exact ⟨rfl, rfl⟩

set_option maxRecDepth 100000 in
set_option maxHeartbeats 400000 in
theorem rcopy_nil (w : World) :
    Calls Try.prog 21 #[.pointer none] w fun e w' => e = .returned (.pointer none) ∧ w = w' := by
  go_enter Try.func21, Try.ntmps21
  go_wp2_with (go_at_call 53; go_must (refine (rnone_nil _).mono ?_); rintro e w1 ⟨rfl, rfl⟩)
  go_ret
  exact ⟨rfl, rfl⟩

set_option maxRecDepth 100000 in
set_option maxHeartbeats 400000 in
theorem bits_nil (w : World) :
    Calls Try.prog 27 #[.pointer none] w fun e w' => e = .returned (.func (.func 61) #[] #[]) ∧ w = w' := by
  go_enter Try.func27, Try.ntmps27
  go_wp2_with (go_at_call 53; go_must (refine (rnone_nil _).mono ?_); rintro e w1 ⟨rfl, rfl⟩)
  go_ret
  exact ⟨rfl, rfl⟩

set_option maxRecDepth 100000 in
set_option maxHeartbeats 800000 in
theorem put_zero (w : World) (b : Nat) (hb : b < w.heap.size) (hc : w.cell? ⟨b, 0, none⟩ = some (.bool false)) (v n : Int) :
    Calls Try.prog 18 #[.pointer (some ⟨b, 0, none⟩), .int .i64 v, .int .i64 n] w fun e w' => e = .returned (.int .i64 1) ∧ Below w.heap.size w w' := by
  have hf := firstError3 ⟨1, 34, #[.pointer (some ⟨b, 0, none⟩)], #[], true⟩ ⟨2, 44, #[], #[.pointer (some ⟨w.heap.size + 1 + 1, 0, none⟩), .pointer (some ⟨w.heap.size + 1, 0, none⟩)], false⟩ ⟨7, 47, #[], #[.pointer (some ⟨w.heap.size + 1 + 1, 0, none⟩), .pointer (some ⟨w.heap.size, 0, none⟩)], false⟩ (box3 w (.pointer (some ⟨b, 0, none⟩)) (.int .i64 v) (.int .i64 n) 25 3 3) _ (box3_size w (.pointer (some ⟨b, 0, none⟩)) (.int .i64 v) (.int .i64 n) 25 3 3) (good34z (Nat.lt_of_lt_of_le hb (box3_below w (.pointer (some ⟨b, 0, none⟩)) (.int .i64 v) (.int .i64 n) 25 3 3).size) (((box3_below w (.pointer (some ⟨b, 0, none⟩)) (.int .i64 v) (.int .i64 n) 25 3 3).cell (p := ⟨b, 0, none⟩) hb).trans hc)) (fun h => by cases h) (fun h _ => by cases h)
  rw [show firstCode _ = 1 from rfl] at hf
  have HF := Lib.hid hf
  have HBX := Lib.hid (box3_below w (.pointer (some ⟨b, 0, none⟩)) (.int .i64 v) (.int .i64 n) 25 3 3)
  clear hf
  go_enter Try.func18, Try.ntmps18
  go_wp2_with fail
  refine HF.out.mono ?_
  rintro e w1 ⟨rfl, hb1⟩
  go_wp2
  go_ret
  exact ⟨rfl, HBX.out.trans (hb1.mono HBX.out.size)⟩

set_option maxRecDepth 100000 in
set_option maxHeartbeats 800000 in
theorem little_zero (w : World) (b : Nat) (hb : b < w.heap.size) (hc : w.cell? ⟨b, 0, none⟩ = some (.bool false)) (v n : Int) :
    Calls Try.prog 32 #[.pointer (some ⟨b, 0, none⟩), .int .i64 v, .int .i64 n] w fun e w' => e = .returned (.int .i64 1) ∧ Below w.heap.size w w' := by
  have hf := firstError4 ⟨1, 34, #[.pointer (some ⟨b, 0, none⟩)], #[], true⟩ ⟨2, 79, #[], #[.pointer (some ⟨w.heap.size + 1 + 1, 0, none⟩), .pointer (some ⟨w.heap.size + 1, 0, none⟩)], false⟩ ⟨8, 80, #[], #[.pointer (some ⟨w.heap.size, 0, none⟩)], false⟩ ⟨7, 81, #[], #[.pointer (some ⟨w.heap.size + 1 + 1, 0, none⟩), .pointer (some ⟨w.heap.size, 0, none⟩)], false⟩ (box3 w (.pointer (some ⟨b, 0, none⟩)) (.int .i64 v) (.int .i64 n) 25 3 3) _ (box3_size w (.pointer (some ⟨b, 0, none⟩)) (.int .i64 v) (.int .i64 n) 25 3 3) (good34z (Nat.lt_of_lt_of_le hb (box3_below w (.pointer (some ⟨b, 0, none⟩)) (.int .i64 v) (.int .i64 n) 25 3 3).size) (((box3_below w (.pointer (some ⟨b, 0, none⟩)) (.int .i64 v) (.int .i64 n) 25 3 3).cell (p := ⟨b, 0, none⟩) hb).trans hc)) (fun h => by cases h) (fun h _ => by cases h) (fun h _ _ => by cases h)
  rw [show firstCode _ = 1 from rfl] at hf
  have HF := Lib.hid hf
  have HBX := Lib.hid (box3_below w (.pointer (some ⟨b, 0, none⟩)) (.int .i64 v) (.int .i64 n) 25 3 3)
  clear hf
  go_enter Try.func32, Try.ntmps32
  go_wp2_with fail
  refine HF.out.mono ?_
  rintro e w1 ⟨rfl, hb1⟩
  go_wp2
  go_ret
  exact ⟨rfl, HBX.out.trans (hb1.mono HBX.out.size)⟩

set_option maxRecDepth 100000 in
set_option maxHeartbeats 800000 in
theorem bytes_zero (w : World) (b : Nat) (hb : b < w.heap.size) (hc : w.cell? ⟨b, 0, none⟩ = some (.bool false)) (A : Option Addr) (m c : Nat) :
    Calls Try.prog 36 #[.pointer (some ⟨b, 0, none⟩), .slice A m c] w fun e w' => e = .returned (.int .i64 1) ∧ Below w.heap.size w w' := by
  have hf := firstError3 ⟨1, 34, #[.pointer (some ⟨b, 0, none⟩)], #[], true⟩ ⟨8, 85, #[], #[.pointer (some ⟨w.heap.size, 0, none⟩)], false⟩ ⟨7, 86, #[], #[.pointer (some ⟨w.heap.size + 1, 0, none⟩), .pointer (some ⟨w.heap.size, 0, none⟩)], false⟩ (box2 w (.pointer (some ⟨b, 0, none⟩)) (.slice A m c) 25 28) _ (box2_size w (.pointer (some ⟨b, 0, none⟩)) (.slice A m c) 25 28) (good34z (Nat.lt_of_lt_of_le hb (box2_below w (.pointer (some ⟨b, 0, none⟩)) (.slice A m c) 25 28).size) (((box2_below w (.pointer (some ⟨b, 0, none⟩)) (.slice A m c) 25 28).cell (p := ⟨b, 0, none⟩) hb).trans hc)) (fun h => by cases h) (fun h _ => by cases h)
  rw [show firstCode _ = 1 from rfl] at hf
  have HF := Lib.hid hf
  have HBX := Lib.hid (box2_below w (.pointer (some ⟨b, 0, none⟩)) (.slice A m c) 25 28)
  clear hf
  go_enter Try.func36, Try.ntmps36
  go_wp2_with fail
  refine HF.out.mono ?_
  rintro e w1 ⟨rfl, hb1⟩
  go_wp2
  go_ret
  exact ⟨rfl, HBX.out.trans (hb1.mono HBX.out.size)⟩

set_option maxRecDepth 100000 in
set_option maxHeartbeats 800000 in
theorem align_zero (w : World) (b : Nat) (hb : b < w.heap.size) (hc : w.cell? ⟨b, 0, none⟩ = some (.bool false)) (n : Int) :
    Calls Try.prog 33 #[.pointer (some ⟨b, 0, none⟩), .int .i64 n] w fun e w' => e = .returned (.int .i64 1) ∧ Below w.heap.size w w' := by
  have hf := firstError3 ⟨1, 34, #[.pointer (some ⟨b, 0, none⟩)], #[], true⟩ ⟨2, 83, #[], #[.pointer (some ⟨w.heap.size + 1, 0, none⟩)], false⟩ ⟨7, 84, #[], #[.pointer (some ⟨w.heap.size, 0, none⟩), .pointer (some ⟨w.heap.size + 1, 0, none⟩)], false⟩ (box2 w (.pointer (some ⟨b, 0, none⟩)) (.int .i64 n) 25 3) _ (box2_size w (.pointer (some ⟨b, 0, none⟩)) (.int .i64 n) 25 3) (good34z (Nat.lt_of_lt_of_le hb (box2_below w (.pointer (some ⟨b, 0, none⟩)) (.int .i64 n) 25 3).size) (((box2_below w (.pointer (some ⟨b, 0, none⟩)) (.int .i64 n) 25 3).cell (p := ⟨b, 0, none⟩) hb).trans hc)) (fun h => by cases h) (fun h _ => by cases h)
  rw [show firstCode _ = 1 from rfl] at hf
  have HF := Lib.hid hf
  have HBX := Lib.hid (box2_below w (.pointer (some ⟨b, 0, none⟩)) (.int .i64 n) 25 3)
  clear hf
  go_enter Try.func33, Try.ntmps33
  go_wp2_with fail
  refine HF.out.mono ?_
  rintro e w1 ⟨rfl, hb1⟩
  go_wp2
  go_ret
  exact ⟨rfl, HBX.out.trans (hb1.mono HBX.out.size)⟩

set_option maxRecDepth 100000 in
set_option maxHeartbeats 800000 in
theorem get_zero (w : World) (b : Nat) (hb : b < w.heap.size) (hc : w.cell? ⟨b, 0, none⟩ = some (.bool false)) (n : Int) :
    Calls Try.prog 28 #[.pointer (some ⟨b, 0, none⟩), .int .i64 n] w fun e w' => e = .returned (.tuple #[.int .i64 0, .int .i64 1]) ∧ Below w.heap.size w w' := by
  have hf := firstError3 ⟨1, 53, #[.pointer (some ⟨b, 0, none⟩)], #[], true⟩ ⟨2, 63, #[], #[.pointer (some ⟨w.heap.size + 1, 0, none⟩)], false⟩ ⟨4, 64, #[], #[.pointer (some ⟨w.heap.size + 1, 0, none⟩), .pointer (some ⟨w.heap.size, 0, none⟩)], false⟩ (box2 w (.pointer (some ⟨b, 0, none⟩)) (.int .i64 n) 40 3) _ (box2_size w (.pointer (some ⟨b, 0, none⟩)) (.int .i64 n) 40 3) (good53z (Nat.lt_of_lt_of_le hb (box2_below w (.pointer (some ⟨b, 0, none⟩)) (.int .i64 n) 40 3).size) (((box2_below w (.pointer (some ⟨b, 0, none⟩)) (.int .i64 n) 40 3).cell (p := ⟨b, 0, none⟩) hb).trans hc)) (fun h => by cases h) (fun h _ => by cases h)
  rw [show firstCode _ = 1 from rfl] at hf
  have HF := Lib.hid hf
  have HBX := Lib.hid (box2_below w (.pointer (some ⟨b, 0, none⟩)) (.int .i64 n) 40 3)
  clear hf
  go_enter Try.func28, Try.ntmps28
  go_wp2_with fail
  refine HF.out.mono ?_
  rintro e w1 ⟨rfl, hb1⟩
  go_wp2
  go_ret2
  exact ⟨rfl, HBX.out.trans (hb1.mono HBX.out.size)⟩

set_option maxRecDepth 100000 in
set_option maxHeartbeats 800000 in
theorem rlittle_zero (w : World) (b : Nat) (hb : b < w.heap.size) (hc : w.cell? ⟨b, 0, none⟩ = some (.bool false)) (n : Int) :
    Calls Try.prog 29 #[.pointer (some ⟨b, 0, none⟩), .int .i64 n] w fun e w' => e = .returned (.tuple #[.int .i64 0, .int .i64 1]) ∧ Below w.heap.size w w' := by
  have hf := firstError4 ⟨1, 53, #[.pointer (some ⟨b, 0, none⟩)], #[], true⟩ ⟨2, 66, #[], #[.pointer (some ⟨w.heap.size + 1, 0, none⟩)], false⟩ ⟨8, 67, #[], #[.pointer (some ⟨w.heap.size, 0, none⟩)], false⟩ ⟨4, 69, #[], #[.pointer (some ⟨w.heap.size + 1, 0, none⟩), .pointer (some ⟨w.heap.size, 0, none⟩)], false⟩ (box2 w (.pointer (some ⟨b, 0, none⟩)) (.int .i64 n) 40 3) _ (box2_size w (.pointer (some ⟨b, 0, none⟩)) (.int .i64 n) 40 3) (good53z (Nat.lt_of_lt_of_le hb (box2_below w (.pointer (some ⟨b, 0, none⟩)) (.int .i64 n) 40 3).size) (((box2_below w (.pointer (some ⟨b, 0, none⟩)) (.int .i64 n) 40 3).cell (p := ⟨b, 0, none⟩) hb).trans hc)) (fun h => by cases h) (fun h _ => by cases h) (fun h _ _ => by cases h)
  rw [show firstCode _ = 1 from rfl] at hf
  have HF := Lib.hid hf
  have HBX := Lib.hid (box2_below w (.pointer (some ⟨b, 0, none⟩)) (.int .i64 n) 40 3)
  clear hf
  go_enter Try.func29, Try.ntmps29
  go_wp2_with fail
  refine HF.out.mono ?_
  rintro e w1 ⟨rfl, hb1⟩
  go_wp2
  go_ret2
  exact ⟨rfl, HBX.out.trans (hb1.mono HBX.out.size)⟩

set_option maxRecDepth 100000 in
set_option maxHeartbeats 800000 in
theorem take_zero (w : World) (b : Nat) (hb : b < w.heap.size) (hc : w.cell? ⟨b, 0, none⟩ = some (.bool false)) (n : Int) :
    Calls Try.prog 30 #[.pointer (some ⟨b, 0, none⟩), .int .i64 n] w fun e w' => e = .returned (.tuple #[.slice none 0 0, .int .i64 1]) ∧ Below w.heap.size w w' := by
  have hf := firstError4 ⟨1, 53, #[.pointer (some ⟨b, 0, none⟩)], #[], true⟩ ⟨2, 71, #[], #[.pointer (some ⟨w.heap.size + 1, 0, none⟩)], false⟩ ⟨8, 72, #[], #[.pointer (some ⟨w.heap.size, 0, none⟩)], false⟩ ⟨4, 73, #[], #[.pointer (some ⟨w.heap.size + 1, 0, none⟩), .pointer (some ⟨w.heap.size, 0, none⟩)], false⟩ (box2 w (.pointer (some ⟨b, 0, none⟩)) (.int .i64 n) 40 3) _ (box2_size w (.pointer (some ⟨b, 0, none⟩)) (.int .i64 n) 40 3) (good53z (Nat.lt_of_lt_of_le hb (box2_below w (.pointer (some ⟨b, 0, none⟩)) (.int .i64 n) 40 3).size) (((box2_below w (.pointer (some ⟨b, 0, none⟩)) (.int .i64 n) 40 3).cell (p := ⟨b, 0, none⟩) hb).trans hc)) (fun h => by cases h) (fun h _ => by cases h) (fun h _ _ => by cases h)
  rw [show firstCode _ = 1 from rfl] at hf
  have HF := Lib.hid hf
  have HBX := Lib.hid (box2_below w (.pointer (some ⟨b, 0, none⟩)) (.int .i64 n) 40 3)
  clear hf
  go_enter Try.func30, Try.ntmps30
  go_wp2_with fail
  refine HF.out.mono ?_
  rintro e w1 ⟨rfl, hb1⟩
  go_wp2
  go_ret2
  exact ⟨rfl, HBX.out.trans (hb1.mono HBX.out.size)⟩

set_option maxRecDepth 100000 in
set_option maxHeartbeats 800000 in
theorem skip_zero (w : World) (b : Nat) (hb : b < w.heap.size) (hc : w.cell? ⟨b, 0, none⟩ = some (.bool false)) (n : Int) :
    Calls Try.prog 26 #[.pointer (some ⟨b, 0, none⟩), .int .i64 n] w fun e w' => e = .returned (.int .i64 1) ∧ Below w.heap.size w w' := by
  have hf := firstError3 ⟨1, 53, #[.pointer (some ⟨b, 0, none⟩)], #[], true⟩ ⟨2, 59, #[], #[.pointer (some ⟨w.heap.size + 1, 0, none⟩)], false⟩ ⟨4, 60, #[], #[.pointer (some ⟨w.heap.size + 1, 0, none⟩), .pointer (some ⟨w.heap.size, 0, none⟩)], false⟩ (box2 w (.pointer (some ⟨b, 0, none⟩)) (.int .i64 n) 40 3) _ (box2_size w (.pointer (some ⟨b, 0, none⟩)) (.int .i64 n) 40 3) (good53z (Nat.lt_of_lt_of_le hb (box2_below w (.pointer (some ⟨b, 0, none⟩)) (.int .i64 n) 40 3).size) (((box2_below w (.pointer (some ⟨b, 0, none⟩)) (.int .i64 n) 40 3).cell (p := ⟨b, 0, none⟩) hb).trans hc)) (fun h => by cases h) (fun h _ => by cases h)
  rw [show firstCode _ = 1 from rfl] at hf
  have HF := Lib.hid hf
  have HBX := Lib.hid (box2_below w (.pointer (some ⟨b, 0, none⟩)) (.int .i64 n) 40 3)
  clear hf
  go_enter Try.func26, Try.ntmps26
  go_wp2_with fail
  refine HF.out.mono ?_
  rintro e w1 ⟨rfl, hb1⟩
  go_wp2
  go_ret
  exact ⟨rfl, HBX.out.trans (hb1.mono HBX.out.size)⟩

set_option maxRecDepth 100000 in
set_option maxHeartbeats 800000 in
theorem pad_zero (w : World) (b : Nat) (hb : b < w.heap.size) (hc : w.cell? ⟨b, 0, none⟩ = some (.bool false)) (n : Int) :
    Calls Try.prog 31 #[.pointer (some ⟨b, 0, none⟩), .int .i64 n] w fun e w' => e = .returned (.int .i64 1) ∧ Below w.heap.size w w' := by
  have hf := firstError4 ⟨1, 53, #[.pointer (some ⟨b, 0, none⟩)], #[], true⟩ ⟨2, 74, #[], #[.pointer (some ⟨w.heap.size + 1, 0, none⟩)], false⟩ ⟨4, 75, #[], #[.pointer (some ⟨w.heap.size, 0, none⟩), .pointer (some ⟨w.heap.size + 1, 0, none⟩)], false⟩ ⟨6, 77, #[], #[.pointer (some ⟨w.heap.size, 0, none⟩), .pointer (some ⟨w.heap.size + 1, 0, none⟩)], false⟩ (box2 w (.pointer (some ⟨b, 0, none⟩)) (.int .i64 n) 40 3) _ (box2_size w (.pointer (some ⟨b, 0, none⟩)) (.int .i64 n) 40 3) (good53z (Nat.lt_of_lt_of_le hb (box2_below w (.pointer (some ⟨b, 0, none⟩)) (.int .i64 n) 40 3).size) (((box2_below w (.pointer (some ⟨b, 0, none⟩)) (.int .i64 n) 40 3).cell (p := ⟨b, 0, none⟩) hb).trans hc)) (fun h => by cases h) (fun h _ => by cases h) (fun h _ _ => by cases h)
  rw [show firstCode _ = 1 from rfl] at hf
  have HF := Lib.hid hf
  have HBX := Lib.hid (box2_below w (.pointer (some ⟨b, 0, none⟩)) (.int .i64 n) 40 3)
  clear hf
  go_enter Try.func31, Try.ntmps31
  go_wp2_with fail
  refine HF.out.mono ?_
  rintro e w1 ⟨rfl, hb1⟩
  go_wp2
  go_ret
  exact ⟨rfl, HBX.out.trans (hb1.mono HBX.out.size)⟩

set_option maxRecDepth 100000 in
set_option maxHeartbeats 400000 in
theorem len_zero (w : World) (b : Nat) (hc : w.cell? ⟨b, 0, none⟩ = some (.bool false)) :
    Calls Try.prog 16 #[.pointer (some ⟨b, 0, none⟩)] w fun e w' => e = .returned (.int .i64 0) ∧ w = w' := by
  go_enter Try.func16, Try.ntmps16
  go_wp2_with (go_at_call 34; go_must (refine (none_zero b _ hc).mono ?_); rintro e w1 ⟨rfl, rfl⟩)
  go_ret
  exact ⟨rfl, rfl⟩

set_option maxRecDepth 100000 in
set_option maxHeartbeats 400000 in
theorem out_zero (w : World) (b : Nat) (hc : w.cell? ⟨b, 0, none⟩ = some (.bool false)) :
    Calls Try.prog 15 #[.pointer (some ⟨b, 0, none⟩)] w fun e w' => e = .returned (.slice none 0 0) ∧ w = w' := by
  go_enter Try.func15, Try.ntmps15
  go_wp2_with (go_at_call 34; go_must (refine (none_zero b _ hc).mono ?_); rintro e w1 ⟨rfl, rfl⟩)
  go_ret
  exact ⟨rfl, rfl⟩

set_option maxRecDepth 100000 in
set_option maxHeartbeats 400000 in
theorem wcopy_zero (w : World) (b : Nat) (hc : w.cell? ⟨b, 0, none⟩ = some (.bool false)) :
    Calls Try.prog 12 #[.pointer (some ⟨b, 0, none⟩)] w fun e w' => e = .returned (.pointer none) ∧ w = w' := by
  go_enter Try.func12, Try.ntmps12
  go_wp2_with (go_at_call 34; go_must (refine (none_zero b _ hc).mono ?_); rintro e w1 ⟨rfl, rfl⟩)
  go_ret
  exact ⟨rfl, rfl⟩

set_option maxRecDepth 100000 in
set_option maxHeartbeats 400000 in
theorem left_zero (w : World) (b : Nat) (hc : w.cell? ⟨b, 0, none⟩ = some (.bool false)) :
    Calls Try.prog 25 #[.pointer (some ⟨b, 0, none⟩)] w fun e w' => e = .returned (.int .i64 0) ∧ w = w' := by
  go_enter Try.func25, Try.ntmps25
  go_wp2_with (go_at_call 53; go_must (refine (rnone_zero b _ hc).mono ?_); rintro e w1 ⟨rfl, rfl⟩)
  go_ret
  exact ⟨rfl, rfl⟩

set_option maxRecDepth 100000 in
set_option maxHeartbeats 400000 in
theorem place_zero (w : World) (b : Nat) (hc : w.cell? ⟨b, 0, none⟩ = some (.bool false)) :
    Calls Try.prog 24 #[.pointer (some ⟨b, 0, none⟩)] w fun e w' => e = .returned (.int .i64 0) ∧ w = w' := by
  go_enter Try.func24, Try.ntmps24
  go_wp2_with (go_at_call 53; go_must (refine (rnone_zero b _ hc).mono ?_); rintro e w1 ⟨rfl, rfl⟩)
  go_ret
  exact ⟨rfl, rfl⟩

set_option maxRecDepth 100000 in
set_option maxHeartbeats 400000 in
theorem rcopy_zero (w : World) (b : Nat) (hc : w.cell? ⟨b, 0, none⟩ = some (.bool false)) :
    Calls Try.prog 21 #[.pointer (some ⟨b, 0, none⟩)] w fun e w' => e = .returned (.pointer none) ∧ w = w' := by
  go_enter Try.func21, Try.ntmps21
  go_wp2_with (go_at_call 53; go_must (refine (rnone_zero b _ hc).mono ?_); rintro e w1 ⟨rfl, rfl⟩)
  go_ret
  exact ⟨rfl, rfl⟩

set_option maxRecDepth 100000 in
set_option maxHeartbeats 400000 in
theorem bits_zero (w : World) (b : Nat) (hc : w.cell? ⟨b, 0, none⟩ = some (.bool false)) :
    Calls Try.prog 27 #[.pointer (some ⟨b, 0, none⟩)] w fun e w' => e = .returned (.func (.func 61) #[] #[]) ∧ w = w' := by
  go_enter Try.func27, Try.ntmps27
  go_wp2_with (go_at_call 53; go_must (refine (rnone_zero b _ hc).mono ?_); rintro e w1 ⟨rfl, rfl⟩)
  go_ret
  exact ⟨rfl, rfl⟩

end Go.Proofs.Ytboiiohpkoodpaa
