/- wrong of the statements, the text of a token, and which tokens are valid. Conditions: the texts have at most 1000000 bytes. -/
import Derived.Test.YtgdjfifnnhfonaaR
namespace Go.Proofs.Ytgdjfifnnhfonaa
open Go.RowKit Go.Shelf

set_option maxRecDepth 100000 in
set_option maxHeartbeats 1600000 in
theorem wrongL_any (l : List UInt8) (q : Nat × Nat) (c : Nat) (w : World) (h3 : l.length ≤ 1048576) (hs : scanS l = .bad q c) :
    Calls Try.prog 26 #[.string (strL l), .int .i64 q.1, .int .i64 q.2, .int .i64 c] w fun e w' => e = .returned (.bool true) ∧ Below w.heap.size w w' := by
  have HS := Lib.hid (Scan_any l w h3)
  rw [hs] at HS
  clear hs
  go_enter Try.func26, Try.ntmps26
  go_wp2_with fail
  refine HS.out.mono ?_
  rintro e w2 ⟨hb2, rfl⟩
  have HB := Lib.hid hb2
  clear hb2
  go_wp2_with fail
  go_ret
  exact ⟨rfl, HB.out.alloc HB.out.size _⟩

/-- The bytes of a token in a text. -/
def wholeOf (k : Int) (t : List UInt8) : List UInt8 := if k = 3 then 34 :: t ++ [34] else t

set_option maxRecDepth 100000 in
set_option maxHeartbeats 1600000 in
theorem written_any (k v a b : Int) (t : List UInt8) (w : World) (ht : t.length ≤ 1000000) :
    Calls Try.prog 38 #[.agg #[.int .i64 k, .string (strL t), .int .i64 v, .int .i64 a, .int .i64 b]] w fun e w' => e = .returned (.string (strL (wholeOf k t))) ∧ Below w.heap.size w w' := by
  have hal := (Below.refl w.heap.size w).alloc (Nat.le_refl _) (.cells #[.int .i64 k, .string (strL t), .int .i64 v, .int .i64 a, .int .i64 b] 36)
  have HAL := Lib.hid hal
  have hs1 : (strL t).size = t.length := strL_size t
  have hc1 : (⟨#[34]⟩ : ByteArray) ++ strL t = strL (34 :: t) := strL_append [34] t
  have hc2 : strL (34 :: t) ++ (⟨#[34]⟩ : ByteArray) = strL (34 :: t ++ [34]) := strL_append (34 :: t) [34]
  have hz1 : (9223372036854775807 < (⟨#[34]⟩ : ByteArray).size + (strL t).size) = False := eq_false (by rw [strL_size]; show ¬ 9223372036854775807 < 1 + t.length; omega)
  have hz2 : (9223372036854775807 < (strL (34 :: t)).size + (⟨#[34]⟩ : ByteArray).size) = False := eq_false (by rw [strL_size]; show ¬ 9223372036854775807 < (34 :: t).length + 1; simp; omega)
  have hs2 : (strL (34 :: t)).size = t.length + 1 := by rw [strL_size]; rfl
  clear hal hz2
  by_cases hk : k = 3
  · have hw : wholeOf k t = 34 :: t ++ [34] := if_pos hk
    rw [hw]
    subst hk
    clear hw
    go_enter Try.func38, Try.ntmps38
    go_wp2_with fail
    go_ret
    exact ⟨rfl, HAL.out⟩
  · have hw : wholeOf k t = t := if_neg hk
    rw [hw]
    have hq : (k == 3) = false := by simpa using hk
    clear hw hk
    go_enter Try.func38, Try.ntmps38
    go_wp2_with fail
    go_ret
    exact ⟨rfl, HAL.out⟩
end Go.Proofs.Ytgdjfifnnhfonaa
