/- The small functions of package varint: isInteger, weight, Fold, Unfold, and the document's. Conditions: an index of at most 5. -/
import Derived.Test.YtfkaghfbngicmaaQs
namespace Go.Proofs.Ytfkaghfbngicmaa
open Go.RowKit Go.Shelf

set_option maxRecDepth 100000 in
set_option maxHeartbeats 800000 in
theorem isInt_any (v : Int) (w : World) : Calls Try.prog 32 #[.int .i64 v] w fun e w' => e = .returned (.bool (okV v)) ∧ w = w' := by
  go_enter Try.func32, Try.ntmps32
  go_wp2
  all_goals (go_ret; refine ⟨ret_bool' ?_, rfl⟩; rw [Bool.eq_iff_iff]; simp [okV, *]; try omega)

set_option maxRecDepth 100000 in
set_option maxHeartbeats 800000 in
theorem allowed_any (v : Int) (w : World) : Calls Try.prog 27 #[.int .i64 v] w fun e w' => e = .returned (.bool (okV v)) ∧ w = w' := by
  go_enter Try.func27, Try.ntmps27
  go_wp2
  all_goals (go_ret; refine ⟨ret_bool' ?_, rfl⟩; rw [Bool.eq_iff_iff]; simp [okV, *]; try omega)

set_option maxRecDepth 100000 in
set_option maxHeartbeats 800000 in
theorem weight_any (i : Nat) (hi : i ≤ 5) (w : World) : Calls Try.prog 33 #[.int .i64 i] w fun e w' => e = .returned (.int .i64 ((128 ^ i : Nat) : Int)) ∧ w = w' := by
  obtain rfl | rfl | rfl | rfl | rfl | rfl : i = 0 ∨ i = 1 ∨ i = 2 ∨ i = 3 ∨ i = 4 ∨ i = 5 := by omega
  all_goals
    go_enter Try.func33, Try.ntmps33
    go_wp2
    go_ret
    exact ⟨rfl, rfl⟩

/-- What Fold answers. -/
def foldC (v : Int) : Int × Int := if v < -17179869184 ∨ 17179869184 ≤ v then (0, 3) else if v < 0 then (-2 * v - 1, 0) else (2 * v, 0)
/-- What Unfold answers. -/
def unfoldC (v : Int) : Int × Int := if okV v = false then (0, 3) else if v % 2 = 1 then (-((v + 1) / 2), 0) else (v / 2, 0)

theorem foldC_a {v : Int} (h : v < -17179869184 ∨ 17179869184 ≤ v) : foldC v = (0, 3) := by unfold foldC; rw [if_pos h]
theorem foldC_b {v : Int} (h : ¬ v < -17179869184) (k : v < 0) : foldC v = (-2 * v - 1, 0) := by unfold foldC; rw [if_neg (by omega), if_pos k]
theorem foldC_c {v : Int} (h : v < 17179869184) (k : ¬ v < 0) : foldC v = (2 * v, 0) := by unfold foldC; rw [if_neg (by omega), if_neg k]
theorem unf_odd {v : Int} (h : 0 ≤ v) (k : v < 34359738368) : wrap64 (-(v + 1).tdiv 2) = -((v + 1) / 2) := by
  rw [Int.tdiv_eq_ediv_of_nonneg (by omega)]
  exact IntWalk.wrap64_in _ ⟨by omega, by omega⟩

theorem ret_ii {a b c d : Int} (h : a = c) (k : b = d) : Ending.returned (.tuple #[.int .i64 a, .int .i64 b]) = .returned (.tuple #[.int .i64 c, .int .i64 d]) := by rw [h, k]

set_option maxRecDepth 100000 in
set_option maxHeartbeats 800000 in
theorem fold_any (v : Int) (w : World) : Calls Try.prog 20 #[.int .i64 v] w fun e w' => e = .returned (.tuple #[.int .i64 (foldC v).1, .int .i64 (foldC v).2]) ∧ w = w' := by
  obtain ⟨R1, h1⟩ : ∃ R1, (foldC v).1 = R1 := ⟨_, rfl⟩
  obtain ⟨R2, h2⟩ : ∃ R2, (foldC v).2 = R2 := ⟨_, rfl⟩
  rw [h1, h2]
  have H1 := Lib.hid h1
  have H2 := Lib.hid h2
  clear h1 h2
  by_cases ha : v < -17179869184
  · go_enter Try.func20, Try.ntmps20
    go_wp2
    go_ret2
    refine ⟨ret_ii ?_ ?_, rfl⟩
    · rw [← H1.out, foldC_a (.inl ha)]
    · rw [← H2.out, foldC_a (.inl ha)]
  · by_cases hb : 17179869184 ≤ v
    · go_enter Try.func20, Try.ntmps20
      go_wp2
      go_ret2
      refine ⟨ret_ii ?_ ?_, rfl⟩
      · rw [← H1.out]; rw [foldC_a (.inr hb)]
      · rw [← H2.out]; rw [foldC_a (.inr hb)]
    · by_cases hc : v < 0
      · go_enter Try.func20, Try.ntmps20
        go_wp2
        go_ret2
        refine ⟨ret_ii ?_ ?_, rfl⟩
        · rw [← H1.out]; rw [foldC_b (v := v) (by omega) (by omega)]
        · rw [← H2.out]; rw [foldC_b (v := v) (by omega) (by omega)]
      · go_enter Try.func20, Try.ntmps20
        go_wp2
        go_ret2
        refine ⟨ret_ii ?_ ?_, rfl⟩
        · rw [← H1.out]; rw [foldC_c (v := v) (by omega) (by omega)]
        · rw [← H2.out]; rw [foldC_c (v := v) (by omega) (by omega)]

set_option maxRecDepth 100000 in
set_option maxHeartbeats 800000 in
theorem rfold_any (v : Int) (w : World) : Calls Try.prog 21 #[.int .i64 v] w fun e w' => e = .returned (.tuple #[.int .i64 (foldC v).1, .int .i64 (foldC v).2]) ∧ w = w' := by
  obtain ⟨R1, h1⟩ : ∃ R1, (foldC v).1 = R1 := ⟨_, rfl⟩
  obtain ⟨R2, h2⟩ : ∃ R2, (foldC v).2 = R2 := ⟨_, rfl⟩
  rw [h1, h2]
  have H1 := Lib.hid h1
  have H2 := Lib.hid h2
  clear h1 h2
  by_cases ha : v < -17179869184
  · go_enter Try.func21, Try.ntmps21
    go_wp2
    go_ret2
    refine ⟨ret_ii ?_ ?_, rfl⟩
    · rw [← H1.out, foldC_a (.inl ha)]
    · rw [← H2.out, foldC_a (.inl ha)]
  · by_cases hb : 17179869183 < v
    · go_enter Try.func21, Try.ntmps21
      go_wp2
      go_ret2
      refine ⟨ret_ii ?_ ?_, rfl⟩
      · rw [← H1.out]; rw [foldC_a (.inr (by omega))]
      · rw [← H2.out]; rw [foldC_a (.inr (by omega))]
    · by_cases hc : v < 0
      · go_enter Try.func21, Try.ntmps21
        go_wp2
        go_ret2
        refine ⟨ret_ii ?_ ?_, rfl⟩
        · rw [← H1.out]; rw [foldC_b (v := v) (by omega) (by omega)]
        · rw [← H2.out]; rw [foldC_b (v := v) (by omega) (by omega)]
      · go_enter Try.func21, Try.ntmps21
        go_wp2
        go_ret2
        refine ⟨ret_ii ?_ ?_, rfl⟩
        · rw [← H1.out]; rw [foldC_c (v := v) (by omega) (by omega)]
        · rw [← H2.out]; rw [foldC_c (v := v) (by omega) (by omega)]

set_option maxRecDepth 100000 in
set_option maxHeartbeats 800000 in
theorem unfold_any (v : Int) (w : World) : Calls Try.prog 22 #[.int .i64 v] w fun e w' => e = .returned (.tuple #[.int .i64 (unfoldC v).1, .int .i64 (unfoldC v).2]) ∧ w = w' := by
  have HI := fun w => Lib.hid (isInt_any v w)
  obtain ⟨R1, h1⟩ : ∃ R1, (unfoldC v).1 = R1 := ⟨_, rfl⟩
  obtain ⟨R2, h2⟩ : ∃ R2, (unfoldC v).2 = R2 := ⟨_, rfl⟩
  rw [h1, h2]
  have H1 := Lib.hid h1
  have H2 := Lib.hid h2
  clear h1 h2
  cases hk : okV v with
  | false =>
    rw [hk] at HI
    have HK := Lib.hid hk
    clear hk
    go_enter Try.func22, Try.ntmps22
    go_wp2_with (go_at_call 32; refine ((HI _).out).mono ?_; rintro e w' ⟨rfl, rfl⟩)
    go_ret2
    refine ⟨ret_ii ?_ ?_, rfl⟩
    · rw [← H1.out]; simp [unfoldC, HK.out]
    · rw [← H2.out]; simp [unfoldC, HK.out]
  | true =>
    rw [hk] at HI
    have HK := Lib.hid hk
    rw [okV_iff] at hk
    obtain ⟨h0, h3⟩ := hk
    by_cases hc : v % 2 = 1
    · have HC := Lib.hid hc
      have hd : (v % 2 == 1) = true := by simpa using hc
      clear hc
      go_enter Try.func22, Try.ntmps22
      go_wp2_with (go_at_call 32; refine ((HI _).out).mono ?_; rintro e w' ⟨rfl, rfl⟩)
      go_ret2
      refine ⟨ret_ii ?_ ?_, rfl⟩
      · rw [← H1.out, unf_odd h0 h3]; simp [unfoldC, HK.out, HC.out]
      · rw [← H2.out]; simp [unfoldC, HK.out, HC.out]
    · have HC := Lib.hid hc
      have hd : (v % 2 == 1) = false := by simpa using hc
      clear hc
      go_enter Try.func22, Try.ntmps22
      go_wp2_with (go_at_call 32; refine ((HI _).out).mono ?_; rintro e w' ⟨rfl, rfl⟩)
      go_ret2
      refine ⟨ret_ii ?_ ?_, rfl⟩
      · rw [← H1.out]; simp [unfoldC, HK.out, HC.out]
      · rw [← H2.out]; simp [unfoldC, HK.out, HC.out]

set_option maxRecDepth 100000 in
set_option maxHeartbeats 800000 in
theorem runfold_any (v : Int) (w : World) : Calls Try.prog 23 #[.int .i64 v] w fun e w' => e = .returned (.tuple #[.int .i64 (unfoldC v).1, .int .i64 (unfoldC v).2]) ∧ w = w' := by
  have HI := fun w => Lib.hid (allowed_any v w)
  obtain ⟨R1, h1⟩ : ∃ R1, (unfoldC v).1 = R1 := ⟨_, rfl⟩
  obtain ⟨R2, h2⟩ : ∃ R2, (unfoldC v).2 = R2 := ⟨_, rfl⟩
  rw [h1, h2]
  have H1 := Lib.hid h1
  have H2 := Lib.hid h2
  clear h1 h2
  cases hk : okV v with
  | false =>
    rw [hk] at HI
    have HK := Lib.hid hk
    clear hk
    go_enter Try.func23, Try.ntmps23
    go_wp2_with (go_at_call 27; refine ((HI _).out).mono ?_; rintro e w' ⟨rfl, rfl⟩)
    go_ret2
    refine ⟨ret_ii ?_ ?_, rfl⟩
    · rw [← H1.out]; simp [unfoldC, HK.out]
    · rw [← H2.out]; simp [unfoldC, HK.out]
  | true =>
    rw [hk] at HI
    have HK := Lib.hid hk
    rw [okV_iff] at hk
    obtain ⟨h0, h3⟩ := hk
    by_cases hc : v % 2 = 1
    · have HC := Lib.hid hc
      have hd : (v % 2 == 1) = true := by simpa using hc
      clear hc
      go_enter Try.func23, Try.ntmps23
      go_wp2_with (go_at_call 27; refine ((HI _).out).mono ?_; rintro e w' ⟨rfl, rfl⟩)
      go_ret2
      refine ⟨ret_ii ?_ ?_, rfl⟩
      · rw [← H1.out, unf_odd h0 h3]; simp [unfoldC, HK.out, HC.out]
      · rw [← H2.out]; simp [unfoldC, HK.out, HC.out]
    · have HC := Lib.hid hc
      have hd : (v % 2 == 1) = false := by simpa using hc
      clear hc
      go_enter Try.func23, Try.ntmps23
      go_wp2_with (go_at_call 27; refine ((HI _).out).mono ?_; rintro e w' ⟨rfl, rfl⟩)
      go_ret2
      refine ⟨ret_ii ?_ ?_, rfl⟩
      · rw [← H1.out]; simp [unfoldC, HK.out, HC.out]
      · rw [← H2.out]; simp [unfoldC, HK.out, HC.out]
end Go.Proofs.Ytfkaghfbngicmaa
