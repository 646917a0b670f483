/- BitsJoins where the numbers are out of their bounds: it returns true. No conditions beyond that. -/
import Derived.Test.YtboiiohpkoodpaaTw
namespace Go.Proofs.Ytboiiohpkoodpaa
open Go.RowKit Go.Shelf

/-- What BitsJoins asks of its numbers. -/
def JoinsGood (x y m n a : Int) : Prop := 1 ≤ m ∧ 1 ≤ n ∧ m ≤ 31 ∧ n ≤ 31 ∧ m + n ≤ 32 ∧ 0 ≤ x ∧ 0 ≤ y ∧ x < 2 ^ m.toNat ∧ y < 2 ^ n.toNat ∧ 1 ≤ a ∧ a ≤ 31

set_option maxRecDepth 100000 in
set_option maxHeartbeats 4000000 in
theorem joins_far (x y m n a : Nat) (A : Int) (w : World) (hm1 : 1 ≤ m) (hn1 : 1 ≤ n) (hm : m ≤ 31) (hn : n ≤ 31) (hmn : m + n ≤ 32) (h : 2 ^ m ≤ x ∨ 2 ^ n ≤ y ∨ A < 1 ∨ 31 < A) :
    Calls Try.prog 7 #[.int .i64 x, .int .i64 y, .int .i64 m, .int .i64 n, .int .i64 A] w fun e w' => e = .returned (.bool true) ∧ Below w.heap.size w w' := by
  have hpm : 2 ^ m ≤ 2 ^ 31 := Nat.pow_le_pow_right (by omega) hm
  have hpn : 2 ^ n ≤ 2 ^ 31 := Nat.pow_le_pow_right (by omega) hn
  obtain ⟨P, hP⟩ : ∃ P, 2 ^ m = P := ⟨_, rfl⟩
  obtain ⟨R, hR⟩ : ∃ R, 2 ^ n = R := ⟨_, rfl⟩
  have eM : ((2 : Int) ^ m) = (P : Int) := by rw [← hP]; simp
  have eN : ((2 : Int) ^ n) = (R : Int) := by rw [← hR]; simp
  rw [hP] at h hpm
  rw [hR] at h hpn
  have hM : IntKind.i64.wrap ((2 : Int) ^ m) = (P : Int) := by rw [eM]; exact IntWalk.i64_in _ (by omega)
  have hN : IntKind.i64.wrap ((2 : Int) ^ n) = (R : Int) := by rw [eN]; exact IntWalk.i64_in _ (by omega)
  clear hP hR eM eN
  by_cases h8 : P ≤ x
  · clear h
    go_enter Try.func7, Try.ntmps7
    go_wp2_with fail
    refine (known_any _).mono ?_
    rintro e w' ⟨rfl, hb⟩
    go_wp2
    go_ret
    exact ⟨rfl, hb⟩
  by_cases h9 : R ≤ y
  · clear h
    go_enter Try.func7, Try.ntmps7
    go_wp2_with fail
    refine (known_any _).mono ?_
    rintro e w' ⟨rfl, hb⟩
    go_wp2
    go_ret
    exact ⟨rfl, hb⟩
  by_cases h10 : A < 1
  · clear h
    go_enter Try.func7, Try.ntmps7
    go_wp2_with fail
    refine (known_any _).mono ?_
    rintro e w' ⟨rfl, hb⟩
    go_wp2
    go_ret
    exact ⟨rfl, hb⟩
  have h11 : 31 < A := by omega
  clear h
  go_enter Try.func7, Try.ntmps7
  go_wp2_with fail
  refine (known_any _).mono ?_
  rintro e w' ⟨rfl, hb⟩
  go_wp2
  go_ret
  exact ⟨rfl, hb⟩

set_option maxRecDepth 100000 in
set_option maxHeartbeats 4000000 in
theorem joins_bad (x y m n a : Int) (w : World) (h : ¬ JoinsGood x y m n a) :
    Calls Try.prog 7 #[.int .i64 x, .int .i64 y, .int .i64 m, .int .i64 n, .int .i64 a] w fun e w' => e = .returned (.bool true) ∧ Below w.heap.size w w' := by
  by_cases h1 : m < 1
  · clear h
    go_enter Try.func7, Try.ntmps7
    go_wp2_with fail
    refine (known_any _).mono ?_
    rintro e w' ⟨rfl, hb⟩
    go_wp2
    go_ret
    exact ⟨rfl, hb⟩
  by_cases h2 : n < 1
  · clear h
    go_enter Try.func7, Try.ntmps7
    go_wp2_with fail
    refine (known_any _).mono ?_
    rintro e w' ⟨rfl, hb⟩
    go_wp2
    go_ret
    exact ⟨rfl, hb⟩
  by_cases h3 : 31 < m
  · clear h
    go_enter Try.func7, Try.ntmps7
    go_wp2_with fail
    refine (known_any _).mono ?_
    rintro e w' ⟨rfl, hb⟩
    go_wp2
    go_ret
    exact ⟨rfl, hb⟩
  by_cases h4 : 31 < n
  · clear h
    go_enter Try.func7, Try.ntmps7
    go_wp2_with fail
    refine (known_any _).mono ?_
    rintro e w' ⟨rfl, hb⟩
    go_wp2
    go_ret
    exact ⟨rfl, hb⟩
  by_cases h5 : 32 < m + n
  · clear h
    go_enter Try.func7, Try.ntmps7
    go_wp2_with fail
    refine (known_any _).mono ?_
    rintro e w' ⟨rfl, hb⟩
    go_wp2
    go_ret
    exact ⟨rfl, hb⟩
  by_cases h6 : x < 0
  · clear h
    go_enter Try.func7, Try.ntmps7
    go_wp2_with fail
    refine (known_any _).mono ?_
    rintro e w' ⟨rfl, hb⟩
    go_wp2
    go_ret
    exact ⟨rfl, hb⟩
  by_cases h7 : y < 0
  · clear h
    go_enter Try.func7, Try.ntmps7
    go_wp2_with fail
    refine (known_any _).mono ?_
    rintro e w' ⟨rfl, hb⟩
    go_wp2
    go_ret
    exact ⟨rfl, hb⟩
  obtain ⟨X, rfl⟩ := Int.eq_ofNat_of_zero_le (show 0 ≤ x by omega)
  obtain ⟨Y, rfl⟩ := Int.eq_ofNat_of_zero_le (show 0 ≤ y by omega)
  obtain ⟨M, rfl⟩ := Int.eq_ofNat_of_zero_le (show 0 ≤ m by omega)
  obtain ⟨N, rfl⟩ := Int.eq_ofNat_of_zero_le (show 0 ≤ n by omega)
  refine joins_far X Y M N 0 a w (by omega) (by omega) (by omega) (by omega) (by omega) ?_
  by_cases c1 : 2 ^ M ≤ X
  · exact .inl c1
  · by_cases c2 : 2 ^ N ≤ Y
    · exact .inr (.inl c2)
    · by_cases c3 : a < 1
      · exact .inr (.inr (.inl c3))
      · by_cases c4 : 31 < a
        · exact .inr (.inr (.inr c4))
        · have e1 : (X : Int) < 2 ^ M := by have := Int.ofNat_lt.2 (Nat.lt_of_not_le c1); simpa using this
          have e2 : (Y : Int) < 2 ^ N := by have := Int.ofNat_lt.2 (Nat.lt_of_not_le c2); simpa using this
          exact absurd ⟨by omega, by omega, by omega, by omega, by omega, by omega, by omega, by simpa using e1, by simpa using e2, by omega, by omega⟩ h
end Go.Proofs.Ytboiiohpkoodpaa
