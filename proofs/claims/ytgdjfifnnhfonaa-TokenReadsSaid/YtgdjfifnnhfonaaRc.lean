/- The law's own small functions: at, is, as; which tokens are equal. Conditions: an index lies in the text. -/
import Derived.Test.YtgdjfifnnhfonaaRb
import Derived.Laws.StructEq
namespace Go.Proofs.Ytgdjfifnnhfonaa
open Go.RowKit Go.Shelf

set_option maxRecDepth 100000 in
set_option maxHeartbeats 1600000 in
theorem lawAt_any (l : List UInt8) (n : Nat) (w : World) (hn : n ≤ l.length) (hl : l.length ≤ 1099511627776) :
    Calls Try.prog 11 #[.string (strL l), .int .i64 n] w fun e w' => e = .returned (.agg #[.int .i64 (adv (l.take n) (1, 1)).1, .int .i64 (adv (l.take n) (1, 1)).2]) ∧ Below w.heap.size w w' := by
  have HAL := Lib.hid ((Below.refl w.heap.size w).alloc (Nat.le_refl _) (.cells #[.int .i64 (adv (l.take n) (1, 1)).1, .int .i64 (adv (l.take n) (1, 1)).2] 25))
  have hc := fun w => refLines_any l n w hn hl
  generalize adv (l.take n) (1, 1) = q at hc HAL ⊢
  have HC := fun w => Lib.hid (hc w)
  clear hc hn hl
  go_enter Try.func11, Try.ntmps11
  go_wp2_with (go_at_call 34; refine ((HC _).out).mono ?_; rintro e w' ⟨rfl, rfl⟩)
  refine bodyPost_ret (by simp [results, Try.results11, go_sem]; try rfl) rfl ?_
  exact ⟨rfl, HAL.out⟩

set_option maxRecDepth 100000 in
set_option maxHeartbeats 1600000 in
theorem lawAs_any (k v a b : Int) (t : List UInt8) (w : World) :
    Calls Try.prog 13 #[.agg #[.int .i64 k, .string (strL t), .int .i64 v, .int .i64 a, .int .i64 b]] w fun e w' => e = .returned (.agg #[.int .i64 k, .string (strL t), .int .i64 v, .int .i64 0]) ∧ Below w.heap.size w w' := by
  have HAL := Lib.hid (((Below.refl w.heap.size w).alloc (Nat.le_refl _) (.cells #[.int .i64 k, .string (strL t), .int .i64 v, .int .i64 a, .int .i64 b] 36)).alloc (by simp) (.cells #[.int .i64 k, .string (strL t), .int .i64 v, .int .i64 0] 38))
  go_enter Try.func13, Try.ntmps13
  go_wp2_with fail
  refine bodyPost_ret (by simp [results, Try.results13, go_sem]; try rfl) rfl ?_
  exact ⟨rfl, HAL.out⟩

set_option maxRecDepth 100000 in
set_option maxHeartbeats 1600000 in
theorem lawIs_same (l : List UInt8) (n : Nat) (k v : Int) (t : List UInt8) (w : World) (hn : n ≤ l.length) (hl : l.length ≤ 1099511627776) (q : Nat × Nat) (hq : adv (l.take n) (1, 1) = q) :
    Calls Try.prog 12 #[.agg #[.int .i64 k, .string (strL t), .int .i64 v, .int .i64 ((q.1 : Nat) : Int), .int .i64 ((q.2 : Nat) : Int)], .agg #[.int .i64 k, .string (strL t), .int .i64 v, .int .i64 n], .string (strL l)] w fun e w' => e = .returned (.bool true) ∧ Below w.heap.size w w' := by
  have HAL := Lib.hid (((Below.refl w.heap.size w).alloc (Nat.le_refl _) (.cells #[.int .i64 k, .string (strL t), .int .i64 v, .int .i64 ((q.1 : Nat) : Int), .int .i64 ((q.2 : Nat) : Int)] 36)).alloc (by simp) (.cells #[.int .i64 k, .string (strL t), .int .i64 v, .int .i64 n] 38))
  have hc := fun w => refLines_any l n w hn hl
  rw [hq] at hc
  have HC := fun w => Lib.hid (hc w)
  clear hc hn hl hq
  go_enter Try.func12, Try.ntmps12
  go_wp2_with (go_at_call 34; refine ((HC _).out).mono ?_; rintro e w' ⟨rfl, rfl⟩)
  go_ret
  exact ⟨rfl, HAL.out⟩

/-- Which tokens are equal. -/
def eqTok (k v k2 v2 : Int) (t t2 : List UInt8) : Bool := decide (k = k2) && (if k = 2 then decide (v = v2) else decide (t = t2))

set_option maxRecDepth 100000 in
set_option maxHeartbeats 1600000 in
theorem equal_any (k v a b k2 v2 a2 b2 : Int) (t t2 : List UInt8) (w : World) :
    Calls Try.prog 16 #[.agg #[.int .i64 k, .string (strL t), .int .i64 v, .int .i64 a, .int .i64 b], .agg #[.int .i64 k2, .string (strL t2), .int .i64 v2, .int .i64 a2, .int .i64 b2]] w fun e w' => e = .returned (.bool (eqTok k v k2 v2 t t2)) ∧ Below w.heap.size w w' := by
  have HAL := Lib.hid (((Below.refl w.heap.size w).alloc (Nat.le_refl _) (.cells #[.int .i64 k, .string (strL t), .int .i64 v, .int .i64 a, .int .i64 b] 36)).alloc (by simp) (.cells #[.int .i64 k2, .string (strL t2), .int .i64 v2, .int .i64 a2, .int .i64 b2] 36))
  obtain ⟨B, hB⟩ : ∃ B, eqTok k v k2 v2 t t2 = B := ⟨_, rfl⟩
  rw [hB]
  by_cases h1 : k = k2
  · subst h1
    by_cases h2 : k = 2
    · subst h2
      have hR : B = decide (v = v2) := by rw [← hB]; simp [eqTok]
      have HR := Lib.hid hR
      clear hB hR
      go_enter Try.func16, Try.ntmps16
      go_wp2_with fail
      all_goals (go_ret; exact ⟨ret_bool (by rw [HR.out]; first | rfl | (rw [Bool.eq_iff_iff]; simp)), HAL.out⟩)
    · have hR : B = decide (t = t2) := by rw [← hB]; simp [eqTok, h2]
      have hx : decide ((strL t).toList = (strL t2).toList) = decide (t = t2) := by rw [strL_toList, strL_toList]
      have HR := Lib.hid hR
      clear hB hR
      go_enter Try.func16, Try.ntmps16
      go_wp2_with fail
      all_goals (go_ret; exact ⟨ret_bool (by rw [HR.out]; first | exact hx | rfl | (rw [Bool.eq_iff_iff]; simp [strL_toList])), HAL.out⟩)
  · have hR : B = false := by rw [← hB]; simp [eqTok, h1]
    subst hR
    clear hB
    go_enter Try.func16, Try.ntmps16
    go_wp2_with fail
    all_goals (go_ret; exact ⟨rfl, HAL.out⟩)

set_option maxRecDepth 100000 in
set_option maxHeartbeats 1600000 in
theorem refEqual_any (k v a k2 v2 a2 : Int) (t t2 : List UInt8) (w : World) :
    Calls Try.prog 17 #[.agg #[.int .i64 k, .string (strL t), .int .i64 v, .int .i64 a], .agg #[.int .i64 k2, .string (strL t2), .int .i64 v2, .int .i64 a2]] w fun e w' => e = .returned (.bool (eqTok k v k2 v2 t t2)) ∧ Below w.heap.size w w' := by
  have HAL := Lib.hid (((Below.refl w.heap.size w).alloc (Nat.le_refl _) (.cells #[.int .i64 k, .string (strL t), .int .i64 v, .int .i64 a] 38)).alloc (by simp) (.cells #[.int .i64 k2, .string (strL t2), .int .i64 v2, .int .i64 a2] 38))
  obtain ⟨B, hB⟩ : ∃ B, eqTok k v k2 v2 t t2 = B := ⟨_, rfl⟩
  rw [hB]
  by_cases h1 : k = k2
  · subst h1
    by_cases h2 : k = 2
    · subst h2
      have hR : B = decide (v = v2) := by rw [← hB]; simp [eqTok]
      have HR := Lib.hid hR
      clear hB hR
      go_enter Try.func17, Try.ntmps17
      go_wp2_with fail
      all_goals (go_ret; exact ⟨ret_bool (by rw [HR.out]; first | rfl | (rw [Bool.eq_iff_iff]; simp)), HAL.out⟩)
    · have hR : B = decide (t = t2) := by rw [← hB]; simp [eqTok, h2]
      have hx : decide ((strL t).toList = (strL t2).toList) = decide (t = t2) := by rw [strL_toList, strL_toList]
      have HR := Lib.hid hR
      clear hB hR
      go_enter Try.func17, Try.ntmps17
      go_wp2_with fail
      all_goals (go_ret; exact ⟨ret_bool (by rw [HR.out]; first | exact hx | rfl | (rw [Bool.eq_iff_iff]; simp [strL_toList])), HAL.out⟩)
  · have hR : B = false := by rw [← hB]; simp [eqTok, h1]
    subst hR
    clear hB
    by_cases h2 : k = 2
    · subst h2
      have h3 : ¬ k2 = 2 := fun e => h1 e.symm
      go_enter Try.func17, Try.ntmps17
      go_wp2_with fail
      all_goals (go_ret; exact ⟨rfl, HAL.out⟩)
    · go_enter Try.func17, Try.ntmps17
      go_wp2_with fail
      all_goals (go_ret; exact ⟨rfl, HAL.out⟩)

set_option maxRecDepth 100000 in
set_option maxHeartbeats 1600000 in
theorem refWhole_any (k v a : Int) (t : List UInt8) (w : World) (ht : t.length ≤ 1000000) :
    Calls Try.prog 41 #[.agg #[.int .i64 k, .string (strL t), .int .i64 v, .int .i64 a]] w fun e w' => e = .returned (.string (strL (wholeOf k t))) ∧ Below w.heap.size w w' := by
  have HAL := Lib.hid ((Below.refl w.heap.size w).alloc (Nat.le_refl _) (.cells #[.int .i64 k, .string (strL t), .int .i64 v, .int .i64 a] 38))
  have hs1 : (strL t).size = t.length := strL_size t
  have hc1 : (⟨#[34]⟩ : ByteArray) ++ strL t = strL (34 :: t) := strL_append [34] t
  have hc2 : strL (34 :: t) ++ (⟨#[34]⟩ : ByteArray) = strL (34 :: t ++ [34]) := strL_append (34 :: t) [34]
  have hz1 : (9223372036854775807 < (⟨#[34]⟩ : ByteArray).size + (strL t).size) = False := eq_false (by rw [strL_size]; show ¬ 9223372036854775807 < 1 + t.length; omega)
  have hs2 : (strL (34 :: t)).size = t.length + 1 := by rw [strL_size]; rfl
  by_cases hk : k = 3
  · have hw : wholeOf k t = 34 :: t ++ [34] := if_pos hk
    rw [hw]
    subst hk
    clear hw
    go_enter Try.func41, Try.ntmps41
    go_wp2_with fail
    go_ret
    exact ⟨rfl, HAL.out⟩
  · have hw : wholeOf k t = t := if_neg hk
    rw [hw]
    have hq : (k == 3) = false := by simpa using hk
    clear hw hk
    go_enter Try.func41, Try.ntmps41
    go_wp2_with fail
    go_ret
    exact ⟨rfl, HAL.out⟩
end Go.Proofs.Ytgdjfifnnhfonaa
