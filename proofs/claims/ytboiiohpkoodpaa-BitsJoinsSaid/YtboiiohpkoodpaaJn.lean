/- Plain facts on bits for BitsJoins: parts of what was written; the bytes of a number in both orders. No conditions but the numbers' sizes. -/
import Derived.Test.YtboiiohpkoodpaaTw
namespace Go.Proofs.Ytboiiohpkoodpaa
open Go.RowKit Go.Shelf

theorem join_one (a m n x y : Nat) (r : List Bool) (hx : x < 2 ^ m) : val ((([] ++ digs 0 a ++ digs x m ++ digs y n ++ r).drop a).take m) = x := by
  have e : [] ++ digs 0 a ++ digs x m ++ digs y n ++ r = digs 0 a ++ (digs x m ++ (digs y n ++ r)) := by simp
  rw [e, List.drop_left' (digs_length 0 a), List.take_left' (digs_length x m)]
  exact val_digs x m hx

theorem join_two (a m n x y : Nat) (r : List Bool) (hy : y < 2 ^ n) : val ((([] ++ digs 0 a ++ digs x m ++ digs y n ++ r).drop (a + m)).take n) = y := by
  have e : [] ++ digs 0 a ++ digs x m ++ digs y n ++ r = (digs 0 a ++ digs x m) ++ (digs y n ++ r) := by simp
  rw [e, List.drop_left' (by simp [digs_length]), List.take_left' (digs_length y n)]
  exact val_digs y n hy

theorem le_small (x : Nat) : packs ([] ++ unpack (leBytes x 4)) = leBytes x 4 := by
  rw [List.nil_append, packs_unpack _ (leBytes_lt x 4)]

theorem le_list (x : Nat) : leBytes x 4 = [x % 256, x / 2 ^ 8 % 256, x / 2 ^ 16 % 256, x / 2 ^ 24 % 256] := by
  simp [leBytes, List.range_succ]

theorem be_bytes (x : Nat) (hx : x < 2 ^ 32) : packs ([] ++ digs x 32) = [x / 2 ^ 24 % 256, x / 2 ^ 16 % 256, x / 2 ^ 8 % 256, x % 256] := by
  have h0 : ∀ z : Nat, z % 256 < 2 ^ 8 := fun z => Nat.mod_lt _ (by decide)
  have e1 : x = (x / 2 ^ 8) * 2 ^ 8 + x % 256 := by omega
  have e2 : x / 2 ^ 8 = (x / 2 ^ 16) * 2 ^ 8 + x / 2 ^ 8 % 256 := by omega
  have e3 : x / 2 ^ 16 = (x / 2 ^ 24) * 2 ^ 8 + x / 2 ^ 16 % 256 := by omega
  have e4 : x / 2 ^ 24 = x / 2 ^ 24 % 256 := by omega
  have d1 : digs x 32 = digs (x / 2 ^ 8) 24 ++ digs (x % 256) 8 := by
    have := digs_append (x / 2 ^ 8) (x % 256) 24 8 (h0 _)
    rw [← e1] at this
    exact this
  have d2 : digs (x / 2 ^ 8) 24 = digs (x / 2 ^ 16) 16 ++ digs (x / 2 ^ 8 % 256) 8 := by
    have := digs_append (x / 2 ^ 16) (x / 2 ^ 8 % 256) 16 8 (h0 _)
    rw [← e2] at this
    exact this
  have d3 : digs (x / 2 ^ 16) 16 = digs (x / 2 ^ 24) 8 ++ digs (x / 2 ^ 16 % 256) 8 := by
    have := digs_append (x / 2 ^ 24) (x / 2 ^ 16 % 256) 8 8 (h0 _)
    rw [← e3] at this
    exact this
  have d : digs x 32 = unpack [x / 2 ^ 24 % 256, x / 2 ^ 16 % 256, x / 2 ^ 8 % 256, x % 256] := by
    rw [d1, d2, d3, ← e4]
    simp [unpack]
  rw [List.nil_append, d, packs_unpack]
  intro c hc
  simp only [List.mem_cons, List.not_mem_nil, or_false] at hc
  rcases hc with rfl | rfl | rfl | rfl <;> exact h0 _

theorem little_four (x : Nat) (hx : x < 2 ^ 31) : littleCode 0 x 4 = 0 := by
  unfold littleCode
  have h : withinB 4 1 4 = true := by decide
  have h2 : fitsB (x : Int) (8 * 4) = true := by
    have : (x : Int) < 2 ^ 31 := by have := Int.ofNat_lt.2 hx; simpa using this
    simp [fitsB]
    omega
  rw [h, h2]
  decide
end Go.Proofs.Ytboiiohpkoodpaa
