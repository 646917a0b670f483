/- Reading what was written, as plain lists of bits: numbers, little numbers, bytes, zeros. No conditions beyond the bounds that each says. -/
import Derived.Test.YtboiiohpkoodpaaWa
namespace Go.Proofs.Ytboiiohpkoodpaa
open Go.RowKit

theorem byteOf_left (l r : List Bool) (i : Nat) (h : 8 * i + 8 ≤ l.length) : byteOf (l ++ r) i = byteOf l i := by
  unfold byteOf
  congr 1
  refine List.map_congr_left fun j hj => ?_
  rw [List.mem_range] at hj
  rw [List.getD_eq_getElem?_getD, List.getD_eq_getElem?_getD, List.getElem?_append_left (by omega)]
theorem byteOf_right (l r : List Bool) (q i : Nat) (h : l.length = 8 * q) : byteOf (l ++ r) (q + i) = byteOf r i := by
  unfold byteOf
  congr 1
  refine List.map_congr_left fun j _ => ?_
  rw [List.getD_eq_getElem?_getD, List.getD_eq_getElem?_getD, List.getElem?_append_right (by omega)]
  congr 2
  omega

/-- Behind a whole number of bytes, the bytes of what follows follow. -/
theorem packs_append (l r : List Bool) (h : l.length % 8 = 0) : packs (l ++ r) = packs l ++ packs r := by
  obtain ⟨q, hq⟩ : ∃ q, l.length = 8 * q := ⟨l.length / 8, by omega⟩
  have hl : (packs l).length = q := by rw [packs_length]; omega
  refine List.ext_getElem (by simp [packs_length]; omega) fun k h1 h2 => ?_
  rw [packs_length] at h1
  rw [packs_get _ _ h1, List.getElem_append]
  by_cases hk : k < (packs l).length
  · rw [dif_pos hk, packs_get _ _ (by rw [packs_length] at hk; exact hk)]
    exact byteOf_left l r k (by omega)
  · rw [dif_neg hk]
    simp only [hl]
    rw [packs_get _ _ (by rw [List.length_append] at h1; omega)]
    have := byteOf_right l r q (k - q) hq
    rwa [show q + (k - q) = k by omega] at this

/-- The bytes that were written are read. -/
theorem read_bytes (l r : List Bool) (B : List Nat) (h : l.length % 8 = 0) (hB : ∀ c ∈ B, c < 256) : ((packs (l ++ unpack B ++ r)).drop (l.length / 8)).take B.length = B := by
  rw [packs_append (l ++ unpack B) r (by rw [List.length_append, unpack_length]; omega), packs_append l (unpack B) h, packs_unpack B hB, List.append_assoc]
  have hl : (packs l).length = l.length / 8 := by rw [packs_length]; omega
  rw [List.drop_left' hl, List.take_left' rfl]

/-- The number that was written is read. -/
theorem read_digs (l r : List Bool) (a n : Nat) (h : a < 2 ^ n) : val (((unpack (packs (l ++ digs a n ++ r))).drop l.length).take n) = a := by
  rw [unpack_packs, List.append_assoc, List.append_assoc, List.append_assoc, List.drop_left' rfl, List.take_left' (digs_length a n)]
  exact val_digs a n h

/-- The little number that was written is read. -/
theorem leVal_leBytes (a n : Nat) (h : a < 2 ^ (8 * n)) : leVal (leBytes a n) = a := by
  have key : ∀ n, leVal (leBytes a n) = a % 2 ^ (8 * n) := by
    intro n
    induction n with
    | zero => simp [leBytes, leVal, Nat.mod_one]
    | succ n ih =>
      rw [leBytes_succ, leVal_snoc, leBytes_length, ih, show 8 * (n + 1) = 8 * n + 8 by omega, Nat.pow_add, Nat.mod_mul]
      rw [Nat.mul_comm (a / 2 ^ (8 * n) % 256)]
  rw [key, Nat.mod_eq_of_lt h]
theorem read_little (l r : List Bool) (a n : Nat) (h : l.length % 8 = 0) (ha : a < 2 ^ (8 * n)) : leVal (((packs (l ++ unpack (leBytes a n) ++ r)).drop (l.length / 8)).take n) = a := by
  have := read_bytes l r (leBytes a n) h (leBytes_lt a n)
  rw [leBytes_length] at this
  rw [this, leVal_leBytes a n ha]

/-- The zeros that were written are read. -/
theorem read_zeros (l r : List Bool) (k : Nat) : ((unpack (packs (l ++ List.replicate k false ++ r))).drop l.length).take k = List.replicate k false := by
  rw [unpack_packs, List.append_assoc, List.append_assoc, List.append_assoc, List.drop_left' rfl, List.take_left' (by simp)]

/-- What lies behind the last call is the filling of its byte. -/
theorem read_fill (l : List Bool) : (unpack (packs l)).drop l.length = List.replicate (8 * ((l.length + 7) / 8) - l.length) false := by
  rw [unpack_packs, List.drop_left' rfl]
end Go.Proofs.Ytboiiohpkoodpaa
