/- The conditions of Put, Little, Bytes and Align. Conditions: the captured variables hold what is said. -/
import Derived.Test.YtboiiohpkoodpaaD
import Derived.BigQuiet
import Derived.Deep.QuietTactic
namespace Go.Proofs.Ytboiiohpkoodpaa
open Go.RowKit

set_option maxHeartbeats 400000 in
theorem none_zero (b : Nat) (w : World) (hc : w.cell? ⟨b, 0, none⟩ = some (.bool false)) :
    Calls Try.prog 34 #[.pointer (some ⟨b, 0, none⟩)] w fun e w' => e = .returned (.bool true) ∧ w = w' := by
  go_enter Try.func34, Try.ntmps34
  go_wp2
  go_ret
  exact ⟨rfl, rfl⟩

set_option maxHeartbeats 400000 in
theorem none_nil (w : World) :
    Calls Try.prog 34 #[.pointer none] w fun e w' => e = .returned (.bool true) ∧ w = w' := by
  go_enter Try.func34, Try.ntmps34
  go_wp2
  go_ret
  exact ⟨rfl, rfl⟩

/-- A callee that draws nothing, at a region that draws its order. -/
theorem quiet_same {P : Program} {f : FuncId} {args : Array Value} {w : World} {n : Nat} {v : Value}
    (h : Calls P f args (w.drewN n) fun e w' => e = .returned v ∧ w.drewN n = w') : Calls P f args (w.drewN n) fun e w'' => e = .returned v ∧ ∃ m, w'' = w.drewN m :=
  h.mono fun _ _ ⟨he, hm⟩ => ⟨he, n, hm.symm⟩

/-- A number fits in n bits. -/
def fitsB (v n : Int) : Bool := decide (0 ≤ v) && decide (v < 2 ^ n.toNat)
def withinB (n a b : Int) : Bool := decide (a ≤ n) && decide (n ≤ b)

theorem within_ok (n a b : Int) (w : World) :
    Calls Try.prog 45 #[.int .i64 n, .int .i64 a, .int .i64 b] w fun e w' => e = .returned (.bool (withinB n a b)) ∧ w = w' := within_any n a b w

set_option maxHeartbeats 400000 in
theorem fits_any (v n : Int) (h1 : 1 ≤ n) (h2 : n ≤ 32) (w : World) :
    Calls Try.prog 46 #[.int .i64 v, .int .i64 n] w fun e w' => e = .returned (.bool (fitsB v n)) ∧ w = w' := by
  have hp : (2 : Int) ^ n.toNat ≤ 4294967296 := by
    have := Nat.pow_le_pow_right (n := 2) (by omega) (show n.toNat ≤ 32 by omega)
    have h' : ((2 ^ n.toNat : Nat) : Int) ≤ ((2 ^ 32 : Nat) : Int) := Int.ofNat_le.2 this
    simpa using h'
  have hp0 : (0 : Int) ≤ 2 ^ n.toNat := Int.le_of_lt (Int.pow_pos (by omega))
  go_enter Try.func46, Try.ntmps46
  go_wp2
  all_goals go_ret
  · exact ⟨ret_bool (by simp [fitsB, *]), rfl⟩
  · exact ⟨ret_bool (by simp [fitsB]; omega), rfl⟩

set_option maxHeartbeats 400000 in
theorem put1_any (B1 B2 : Nat) (v n : Int) (w : World) (hn : w.cell? ⟨B1, 0, none⟩ = some (.int .i64 n)) (hv : w.cell? ⟨B2, 0, none⟩ = some (.int .i64 v)) :
    Calls Try.prog 44 #[.pointer (some ⟨B1, 0, none⟩), .pointer (some ⟨B2, 0, none⟩)] w fun e w' => e = .returned (.bool (!(withinB n 1 32 && fitsB v n))) ∧ w = w' := by
  by_cases h : withinB n 1 32 = true
  · obtain ⟨h1, h2⟩ : 1 ≤ n ∧ n ≤ 32 := by simpa [withinB] using h
    go_enter Try.func44, Try.ntmps44
    go_wp2_with (first | (go_at_call 45; go_must (refine (within_ok n 1 32 _).mono ?_); rw [h]; rintro e w1 ⟨rfl, rfl⟩) | (go_at_call 46; go_must (refine (fits_any v n h1 h2 _).mono ?_); rintro e w1 ⟨rfl, rfl⟩))
    go_ret
    exact ⟨ret_bool (by simp [h]), rfl⟩
  · have h' : withinB n 1 32 = false := by simpa using h
    go_enter Try.func44, Try.ntmps44
    go_wp2_with (first | (go_at_call 45; go_must (refine (within_ok n 1 32 _).mono ?_); rw [h']; rintro e w1 ⟨rfl, rfl⟩))
    go_ret
    exact ⟨ret_bool (by simp [h']), rfl⟩

set_option maxHeartbeats 400000 in
theorem put2_any (B1 B2 b : Nat) (n k : Int) (w : World) (hn : w.cell? ⟨B1, 0, none⟩ = some (.int .i64 n)) (hw : w.cell? ⟨B2, 0, none⟩ = some (.pointer (some ⟨b, 0, none⟩))) (h0 : 0 ≤ k) (h1 : k ≤ 8388608) (hc : w.cell? ⟨b, 2, none⟩ = some (.int .i64 k)) :
    Calls Try.prog 47 #[.pointer (some ⟨B1, 0, none⟩), .pointer (some ⟨B2, 0, none⟩)] w fun e w' => e = .returned (.bool (decide (8388608 - k < n))) ∧ Below w.heap.size w w' := by
  go_enter Try.func47, Try.ntmps47
  go_wp2
  go_quiet ((go_at_call 48; exact quiet_same (room_any b k _ h0 h1 hc)))
  go_wp2
  go_ret
  exact ⟨rfl, below_drewN (Below.refl _ _) nq⟩
end Go.Proofs.Ytboiiohpkoodpaa
