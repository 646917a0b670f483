/- The form of an integer, in new memory. Conditions: one to five bytes. -/
import Derived.Test.YtfkaghfbngicmaaQh
namespace Go.Proofs.Ytfkaghfbngicmaa
open Go.RowKit Go.Shelf

theorem form_end {w : World} {n : Nat} {C D : Array Value} (h : C = D) {e : Value} (he : e = .slice (some ⟨w.heap.size, 0, none⟩) n n) : Ending.returned e = .returned (.slice (some ⟨w.heap.size, 0, none⟩) n n) ∧ w.alloc (.cells C 5) = w.alloc (.cells D 5) := by rw [h, he]; exact ⟨rfl, rfl⟩

set_option maxRecDepth 100000 in
set_option maxHeartbeats 1600000 in
theorem form_1 (v : Nat) (hv : v < 34359738368) (w : World) :
    Calls Try.prog 34 #[.int .i64 v, .int .i64 1] w fun e w' => e = .returned (.slice (some ⟨w.heap.size, 0, none⟩) 1 1) ∧ w' = w.alloc (.cells (u8s (formV v 1)).toArray 5) := by
  have HW := fun i hi w => Lib.hid (weight_any i hi w)
  have hmk : ∀ w, (Instr.makeSlice 22 (.int .i64 1) (.int .i64 1)).run Try.prog w = .ok (.slice (some ⟨w.heap.size, 0, none⟩) 1 1) (w.alloc (.cells #[.int .u8 0] 5)) := fun _ => by kernel_rfl
  have hvi : ((v : Nat) : Int) < 34359738368 := by omega
  go_enter Try.func34, Try.ntmps34
  go_wp2
  refine wp_loop_rounds 2 ?_
  rw [rounds_succ]
  go_wp2_with fail
  refine ((HW 0 (by omega) _).out).mono ?_; rintro e w' ⟨rfl, rfl⟩
  go_wp2_with fail
  rw [rounds_succ]
  go_wp2_with fail
  go_ret
  exact form_end (by simp [formV, u8s, List.range_succ]) rfl

set_option maxRecDepth 100000 in
set_option maxHeartbeats 1600000 in
theorem form_2 (v : Nat) (hv : v < 34359738368) (w : World) :
    Calls Try.prog 34 #[.int .i64 v, .int .i64 2] w fun e w' => e = .returned (.slice (some ⟨w.heap.size, 0, none⟩) 2 2) ∧ w' = w.alloc (.cells (u8s (formV v 2)).toArray 5) := by
  have HW := fun i hi w => Lib.hid (weight_any i hi w)
  have hmk : ∀ w, (Instr.makeSlice 22 (.int .i64 2) (.int .i64 2)).run Try.prog w = .ok (.slice (some ⟨w.heap.size, 0, none⟩) 2 2) (w.alloc (.cells #[.int .u8 0, .int .u8 0] 5)) := fun _ => by kernel_rfl
  have hvi : ((v : Nat) : Int) < 34359738368 := by omega
  go_enter Try.func34, Try.ntmps34
  go_wp2
  refine wp_loop_rounds 3 ?_
  rw [rounds_succ]
  go_wp2_with fail
  refine ((HW 0 (by omega) _).out).mono ?_; rintro e w' ⟨rfl, rfl⟩
  go_wp2_with fail
  rw [rounds_succ]
  go_wp2_with fail
  refine ((HW 1 (by omega) _).out).mono ?_; rintro e w' ⟨rfl, rfl⟩
  go_wp2_with fail
  rw [rounds_succ]
  go_wp2_with fail
  go_ret
  exact form_end (by simp [formV, u8s, List.range_succ]) rfl

set_option maxRecDepth 100000 in
set_option maxHeartbeats 1600000 in
theorem form_3 (v : Nat) (hv : v < 34359738368) (w : World) :
    Calls Try.prog 34 #[.int .i64 v, .int .i64 3] w fun e w' => e = .returned (.slice (some ⟨w.heap.size, 0, none⟩) 3 3) ∧ w' = w.alloc (.cells (u8s (formV v 3)).toArray 5) := by
  have HW := fun i hi w => Lib.hid (weight_any i hi w)
  have hmk : ∀ w, (Instr.makeSlice 22 (.int .i64 3) (.int .i64 3)).run Try.prog w = .ok (.slice (some ⟨w.heap.size, 0, none⟩) 3 3) (w.alloc (.cells #[.int .u8 0, .int .u8 0, .int .u8 0] 5)) := fun _ => by kernel_rfl
  have hvi : ((v : Nat) : Int) < 34359738368 := by omega
  go_enter Try.func34, Try.ntmps34
  go_wp2
  refine wp_loop_rounds 4 ?_
  rw [rounds_succ]
  go_wp2_with fail
  refine ((HW 0 (by omega) _).out).mono ?_; rintro e w' ⟨rfl, rfl⟩
  go_wp2_with fail
  rw [rounds_succ]
  go_wp2_with fail
  refine ((HW 1 (by omega) _).out).mono ?_; rintro e w' ⟨rfl, rfl⟩
  go_wp2_with fail
  rw [rounds_succ]
  go_wp2_with fail
  refine ((HW 2 (by omega) _).out).mono ?_; rintro e w' ⟨rfl, rfl⟩
  go_wp2_with fail
  rw [rounds_succ]
  go_wp2_with fail
  go_ret
  exact form_end (by simp [formV, u8s, List.range_succ]) rfl

set_option maxRecDepth 100000 in
set_option maxHeartbeats 1600000 in
theorem form_4 (v : Nat) (hv : v < 34359738368) (w : World) :
    Calls Try.prog 34 #[.int .i64 v, .int .i64 4] w fun e w' => e = .returned (.slice (some ⟨w.heap.size, 0, none⟩) 4 4) ∧ w' = w.alloc (.cells (u8s (formV v 4)).toArray 5) := by
  have HW := fun i hi w => Lib.hid (weight_any i hi w)
  have hmk : ∀ w, (Instr.makeSlice 22 (.int .i64 4) (.int .i64 4)).run Try.prog w = .ok (.slice (some ⟨w.heap.size, 0, none⟩) 4 4) (w.alloc (.cells #[.int .u8 0, .int .u8 0, .int .u8 0, .int .u8 0] 5)) := fun _ => by kernel_rfl
  have hvi : ((v : Nat) : Int) < 34359738368 := by omega
  go_enter Try.func34, Try.ntmps34
  go_wp2
  refine wp_loop_rounds 5 ?_
  rw [rounds_succ]
  go_wp2_with fail
  refine ((HW 0 (by omega) _).out).mono ?_; rintro e w' ⟨rfl, rfl⟩
  go_wp2_with fail
  rw [rounds_succ]
  go_wp2_with fail
  refine ((HW 1 (by omega) _).out).mono ?_; rintro e w' ⟨rfl, rfl⟩
  go_wp2_with fail
  rw [rounds_succ]
  go_wp2_with fail
  refine ((HW 2 (by omega) _).out).mono ?_; rintro e w' ⟨rfl, rfl⟩
  go_wp2_with fail
  rw [rounds_succ]
  go_wp2_with fail
  refine ((HW 3 (by omega) _).out).mono ?_; rintro e w' ⟨rfl, rfl⟩
  go_wp2_with fail
  rw [rounds_succ]
  go_wp2_with fail
  go_ret
  exact form_end (by simp [formV, u8s, List.range_succ]) rfl

set_option maxRecDepth 100000 in
set_option maxHeartbeats 1600000 in
theorem form_5 (v : Nat) (hv : v < 34359738368) (w : World) :
    Calls Try.prog 34 #[.int .i64 v, .int .i64 5] w fun e w' => e = .returned (.slice (some ⟨w.heap.size, 0, none⟩) 5 5) ∧ w' = w.alloc (.cells (u8s (formV v 5)).toArray 5) := by
  have HW := fun i hi w => Lib.hid (weight_any i hi w)
  have hmk : ∀ w, (Instr.makeSlice 22 (.int .i64 5) (.int .i64 5)).run Try.prog w = .ok (.slice (some ⟨w.heap.size, 0, none⟩) 5 5) (w.alloc (.cells #[.int .u8 0, .int .u8 0, .int .u8 0, .int .u8 0, .int .u8 0] 5)) := fun _ => by kernel_rfl
  have hvi : ((v : Nat) : Int) < 34359738368 := by omega
  go_enter Try.func34, Try.ntmps34
  go_wp2
  refine wp_loop_rounds 6 ?_
  rw [rounds_succ]
  go_wp2_with fail
  refine ((HW 0 (by omega) _).out).mono ?_; rintro e w' ⟨rfl, rfl⟩
  go_wp2_with fail
  rw [rounds_succ]
  go_wp2_with fail
  refine ((HW 1 (by omega) _).out).mono ?_; rintro e w' ⟨rfl, rfl⟩
  go_wp2_with fail
  rw [rounds_succ]
  go_wp2_with fail
  refine ((HW 2 (by omega) _).out).mono ?_; rintro e w' ⟨rfl, rfl⟩
  go_wp2_with fail
  rw [rounds_succ]
  go_wp2_with fail
  refine ((HW 3 (by omega) _).out).mono ?_; rintro e w' ⟨rfl, rfl⟩
  go_wp2_with fail
  rw [rounds_succ]
  go_wp2_with fail
  refine ((HW 4 (by omega) _).out).mono ?_; rintro e w' ⟨rfl, rfl⟩
  go_wp2_with fail
  rw [rounds_succ]
  go_wp2_with fail
  go_ret
  exact form_end (by simp [formV, u8s, List.range_succ]) rfl

/-- The form of an integer lies in a new block. -/
theorem form_any (v n : Nat) (hv : v < 34359738368) (h1 : 1 ≤ n) (h5 : n ≤ 5) (w : World) :
    Calls Try.prog 34 #[.int .i64 v, .int .i64 n] w fun e w' => e = .returned (.slice (some ⟨w.heap.size, 0, none⟩) n n) ∧ w' = w.alloc (.cells (u8s (formV v n)).toArray 5) := by
  obtain rfl | rfl | rfl | rfl | rfl : n = 1 ∨ n = 2 ∨ n = 3 ∨ n = 4 ∨ n = 5 := by omega
  · exact form_1 v hv w
  · exact form_2 v hv w
  · exact form_3 v hv w
  · exact form_4 v hv w
  · exact form_5 v hv w
end Go.Proofs.Ytfkaghfbngicmaa
