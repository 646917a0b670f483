/- Contracts of the small functions of package bits: what each returns, and that it changes nothing. Conditions: the cells that are read hold what is said. -/
import Derived.Test.YtboiiohpkoodpaaProg
import Derived.WalkKit
import Derived.WalkSpells
import Derived.WalkLawsBesides
namespace Go.Proofs.Ytboiiohpkoodpaa
open Go.RowKit

theorem ret_bool {a b : Bool} (h : a = b) : Ending.returned (.bool a) = .returned (.bool b) := by rw [h]
theorem ret_int {k : IntKind} {a b : Int} (h : a = b) : Ending.returned (.int k a) = .returned (.int k b) := by rw [h]

set_option maxHeartbeats 400000 in
theorem within_any (n a b : Int) (w : World) :
    Calls Try.prog 45 #[.int .i64 n, .int .i64 a, .int .i64 b] w fun e w' => e = .returned (.bool (decide (a ≤ n) && decide (n ≤ b))) ∧ w = w' := by
  go_enter Try.func45, Try.ntmps45
  go_wp2
  all_goals go_ret
  · exact ⟨ret_bool (by simp [*]), rfl⟩
  · exact ⟨ret_bool (by simp; omega), rfl⟩

set_option maxHeartbeats 400000 in
theorem aligned_any (b : Nat) (n : Int) (w : World) (h0 : 0 ≤ n) (hc : w.cell? ⟨b, 2, none⟩ = some (.int .i64 n)) :
    Calls Try.prog 68 #[.pointer (some ⟨b, 0, none⟩)] w fun e w' => e = .returned (.bool (n % 8 == 0)) ∧ w = w' := by
  go_enter Try.func68, Try.ntmps68
  go_wp2
  go_ret
  exact ⟨rfl, rfl⟩

set_option maxHeartbeats 400000 in
theorem none_no (b : Nat) (w : World) (hc : w.cell? ⟨b, 0, none⟩ = some (.bool true)) :
    Calls Try.prog 34 #[.pointer (some ⟨b, 0, none⟩)] w fun e w' => e = .returned (.bool false) ∧ w = w' := by
  go_enter Try.func34, Try.ntmps34
  go_wp2
  go_ret
  exact ⟨rfl, rfl⟩

set_option maxHeartbeats 400000 in
theorem room_any (b : Nat) (n : Int) (w : World) (h0 : 0 ≤ n) (h1 : n ≤ 8388608) (hc : w.cell? ⟨b, 2, none⟩ = some (.int .i64 n)) :
    Calls Try.prog 48 #[.pointer (some ⟨b, 0, none⟩)] w fun e w' => e = .returned (.int .i64 (8388608 - n)) ∧ w = w' := by
  go_enter Try.func48, Try.ntmps48
  go_wp2
  go_ret
  exact ⟨rfl, rfl⟩

set_option maxHeartbeats 400000 in
theorem border_any (b : Nat) (n k : Int) (w : World) (h0 : 0 ≤ n) (h1 : n ≤ 8388608) (hk : 1 ≤ k) (hk2 : k ≤ 4096) (hc : w.cell? ⟨b, 2, none⟩ = some (.int .i64 n)) :
    Calls Try.prog 76 #[.pointer (some ⟨b, 0, none⟩), .int .i64 k] w fun e w' => e = .returned (.int .i64 ((n + k - 1) / k * k)) ∧ w = w' := by
  have q1 : 0 ≤ (n + k - 1) / k * k := Int.mul_nonneg (Int.ediv_nonneg (by omega) (by omega)) (by omega)
  have q2 : (n + k - 1) / k * k ≤ 8400000 := by have := Int.ediv_mul_le (n + k - 1) (b := k) (by omega); omega
  go_enter Try.func76, Try.ntmps76
  go_wp2
  go_ret
  exact ⟨rfl, rfl⟩
end Go.Proofs.Ytboiiohpkoodpaa
