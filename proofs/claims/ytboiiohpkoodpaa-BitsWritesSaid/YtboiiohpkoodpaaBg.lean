/- The document's own answers on a reader: Read, Get, Take, GetLittle. Conditions: the bits are those of at most 1048576 bytes, and the place lies in them. -/
import Derived.Test.YtboiiohpkoodpaaBv
namespace Go.Proofs.Ytboiiohpkoodpaa
open Go.RowKit Go.Shelf

theorem part_len (l : List Bool) (p n : Nat) (h : p + n ≤ l.length) : ((l.drop p).take n).length = n := by rw [List.length_take, List.length_drop]; omega
theorem BitE.form {w : World} {s : Value} {l : List Bool} (h : BitE w s l) : ∃ A c, s = .slice A l.length c := by
  rcases h with ⟨rfl, rfl⟩ | ⟨g, o, c, rfl, _⟩
  · exact ⟨none, 0, rfl⟩
  · exact ⟨_, _, rfl⟩

set_option maxRecDepth 100000 in
set_option maxHeartbeats 800000 in
theorem refRead_ok (s : Value) (l : List Bool) (p n : Nat) (w : World) (h : BitE w s l) (hl : l.length ≤ 8388608) (hn : p + n ≤ l.length) :
    Calls Try.prog 57 #[s, .int .i64 p, .int .i64 n] w fun e w' => ∃ A c, e = .returned (.tuple #[.slice A n c, .int .i64 0]) ∧ BitE w (.slice A n c) ((l.drop p).take n) ∧ w = w' := by
  have hpl := part_len l p n hn
  rcases h with ⟨rfl, rfl⟩ | ⟨g, o, c, rfl, hlc, hc⟩
  · obtain rfl : p = 0 := by simp at hn; omega
    obtain rfl : n = 0 := by simp at hn; omega
    go_enter Try.func57, Try.ntmps57
    go_wp2
    go_ret2
    exact ⟨_, _, rfl, .inl ⟨rfl, by simp⟩, rfl⟩
  · have HC := Lib.hid hc
    have HPL := Lib.hid hpl
    clear hc hpl
    by_cases hpc : p = c
    · obtain rfl : n = 0 := by omega
      subst hpc
      go_enter Try.func57, Try.ntmps57
      go_wp2
      go_ret2
      exact ⟨some ⟨g, o, none⟩, 0, rfl, .inr ⟨g, o, 0, by simp, by simp, fun j b hj => by simp at hj⟩, rfl⟩
    · go_enter Try.func57, Try.ntmps57
      go_wp2
      go_ret2
      refine ⟨some ⟨g, o + p, none⟩, c - p, by show Ending.returned (.tuple #[.slice (some ⟨g, o + p, none⟩) (p + n - p) (c - p), .int .i64 0]) = _; rw [Nat.add_sub_cancel_left], .inr ⟨g, o + p, c - p, by rw [HPL.out], by rw [HPL.out]; omega, fun j b hj => ?_⟩, rfl⟩
      have hjn : j < n := by
        have := (List.getElem?_eq_some_iff.1 hj).1
        rw [HPL.out] at this; exact this
      have := HC.out (p + j) b (by rw [List.getElem?_take, if_pos hjn, List.getElem?_drop] at hj; exact hj)
      rw [← Nat.add_assoc] at this
      exact this

set_option maxRecDepth 100000 in
set_option maxHeartbeats 800000 in
theorem refRead_no (A : Option Addr) (m c p : Nat) (N : Int) (w : World) (hl : m ≤ 8388608) (hp : p ≤ m) (hn : (m : Int) - p < N) :
    Calls Try.prog 57 #[.slice A m c, .int .i64 p, .int .i64 N] w fun e w' => e = .returned (.tuple #[.slice none 0 0, .int .i64 4]) ∧ w = w' := by
  go_enter Try.func57, Try.ntmps57
  go_wp2
  go_ret2
  exact ⟨rfl, rfl⟩

set_option maxRecDepth 100000 in
set_option maxHeartbeats 800000 in
theorem refGet_ok (s : Value) (l : List Bool) (p n : Nat) (w : World) (h : BitE w s l) (hl : l.length ≤ 8388608) (hn : p + n ≤ l.length) (h1 : 1 ≤ n) (h2 : n ≤ 32) :
    Calls Try.prog 54 #[s, .int .i64 p, .int .i64 n] w fun e w' => e = .returned (.tuple #[.int .i64 (val ((l.drop p).take n) : Nat), .int .i64 0]) ∧ w = w' := by
  have HR := Lib.hid (refRead_ok s l p n w h hl hn)
  have HPL := Lib.hid (part_len l p n hn)
  clear h
  go_enter Try.func54, Try.ntmps54
  go_wp2_with fail
  refine HR.out.mono ?_
  rintro e w' ⟨A, c, rfl, hb, rfl⟩
  have HV := Lib.hid (refValue _ _ w hb (by rw [HPL.out]; omega))
  clear hb
  go_wp2_with fail
  refine HV.out.mono ?_
  rintro e w' ⟨rfl, rfl⟩
  go_wp2
  go_ret2
  exact ⟨rfl, rfl⟩

set_option maxRecDepth 100000 in
set_option maxHeartbeats 800000 in
theorem refGet_arg (s : Value) (p : Nat) (N : Int) (w : World) (h : N < 1 ∨ 32 < N) :
    Calls Try.prog 54 #[s, .int .i64 p, .int .i64 N] w fun e w' => e = .returned (.tuple #[.int .i64 0, .int .i64 2]) ∧ w = w' := by
  by_cases h1 : N < 1
  · clear h
    go_enter Try.func54, Try.ntmps54
    go_wp2
    go_ret2
    exact ⟨rfl, rfl⟩
  · have h2 : 32 < N := by omega
    clear h
    go_enter Try.func54, Try.ntmps54
    go_wp2
    go_ret2
    exact ⟨rfl, rfl⟩

set_option maxRecDepth 100000 in
set_option maxHeartbeats 800000 in
theorem refGet_short (A : Option Addr) (m c p : Nat) (N : Int) (w : World) (hl : m ≤ 8388608) (hp : p ≤ m) (hn : (m : Int) - p < N) (h1 : 1 ≤ N) (h2 : N ≤ 32) :
    Calls Try.prog 54 #[.slice A m c, .int .i64 p, .int .i64 N] w fun e w' => e = .returned (.tuple #[.int .i64 0, .int .i64 4]) ∧ w = w' := by
  have HR := Lib.hid (refRead_no A m c p N w hl hp hn)
  have HV := Lib.hid (refValue (.slice none 0 0) [] w (.inl ⟨rfl, rfl⟩) (by simp))
  clear hn
  go_enter Try.func54, Try.ntmps54
  go_wp2_with fail
  refine HR.out.mono ?_
  rintro e w' ⟨rfl, rfl⟩
  go_wp2_with fail
  refine HV.out.mono ?_
  rintro e w' ⟨rfl, rfl⟩
  go_wp2
  go_ret2
  exact ⟨rfl, rfl⟩

/-- Get on the bits of bytes. -/
theorem refGet (s : Value) (B : List Nat) (p : Nat) (N : Int) (w : World) (h : BitE w s (unpack B)) (hBl : B.length ≤ 1048576) (hp : p ≤ 8 * B.length) :
    Calls Try.prog 54 #[s, .int .i64 p, .int .i64 N] w fun e w' => e = .returned (.tuple #[.int .i64 ((if getCode B.length p N = 0 then val (((unpack B).drop p).take N.toNat) else 0 : Nat) : Int), .int .i64 (getCode B.length p N)]) ∧ w = w' := by
  have hul := unpack_length B
  by_cases h1 : N < 1 ∨ 32 < N
  · have hc : getCode B.length p N = 2 := by unfold getCode; rw [if_neg (by simp [withinB]; omega)]
    rw [hc]
    exact refGet_arg s p N w h1
  · by_cases h2 : 8 * (B.length : Int) - p < N
    · have hc : getCode B.length p N = 4 := by unfold getCode; rw [if_pos (by simp [withinB]; omega), if_pos h2]
      rw [hc]
      obtain ⟨A, c, rfl⟩ := h.form
      rw [hul]
      exact refGet_short A _ c p N w (by omega) (by omega) (by omega) (by omega) (by omega)
    · have hc : getCode B.length p N = 0 := by unfold getCode; rw [if_pos (by simp [withinB]; omega), if_neg h2]
      rw [hc]
      obtain ⟨n, rfl⟩ := Int.eq_ofNat_of_zero_le (show 0 ≤ N by omega)
      have := refGet_ok s (unpack B) p n w h (by omega) (by omega) (by omega) (by omega)
      simpa using this

/-- What Take answers. -/
def RefTook (w : World) (bs : List Nat) (code : Int) (e : Ending) (w' : World) : Prop :=
  ∃ A c, e = .returned (.tuple #[.slice A bs.length c, .int .i64 code]) ∧ w'.ownsRow w.heap.size 5 1 (.slice A bs.length c) bs.length (u8s bs) ∧ Below w.heap.size w w'
theorem took_nil (w : World) (code : Int) : RefTook w [] code (.returned (.tuple #[.slice none 0 0, .int .i64 code])) w :=
  ⟨none, 0, rfl, ⟨by simp [u8s], .inl ⟨rfl, rfl⟩⟩, Below.refl _ _⟩

theorem row_shape {w : World} {base n : Nat} {e : TypeId} {size : Nat} {v : Value} {xs : List Value} (h : w.ownsRow base e size v n xs) : ∃ A c, v = .slice A n c := by
  rcases Joins.ownsRow_forms h with ⟨rfl, h0⟩ | ⟨g, cap, rfl⟩
  · exact ⟨none, 0, by rw [h0]⟩
  · exact ⟨_, _, rfl⟩

set_option maxRecDepth 100000 in
set_option maxHeartbeats 800000 in
theorem refTake_ok (s : Value) (l : List Bool) (p k : Nat) (w : World) (h : BitE w s l) (hl : l.length ≤ 8388608) (hn : p + 8 * k ≤ l.length) (hp8 : p % 8 = 0) :
    Calls Try.prog 56 #[s, .int .i64 p, .int .i64 k] w (RefTook w (packs ((l.drop p).take (8 * k))) 0) := by
  have hr := refRead_ok s l p (8 * k) w h hl hn
  have hpl := part_len l p (8 * k) hn
  have e8 : (((8 * k : Nat) : Int)) = 8 * (k : Int) := by omega
  rw [e8] at hr
  have HR := Lib.hid hr
  have q0 : ((p : Int) % 8 == 0) = true := by simp; omega
  have q1 : ((p : Int) % 8 != 0) = false := by simp; omega
  have HPL := Lib.hid hpl
  clear h hr e8 hpl
  go_enter Try.func56, Try.ntmps56
  go_wp2_with fail
  refine HR.out.mono ?_
  rintro e w' ⟨A, c, rfl, hb, rfl⟩
  have HV := Lib.hid (refBytes _ _ w hb (by rw [HPL.out]; omega))
  clear hb
  go_wp2_with fail
  refine HV.out.mono ?_
  rintro e w' ⟨r, rfl, hrow, hbl⟩
  obtain ⟨A2, c2, rfl⟩ := row_shape hrow
  have HROW := Lib.hid hrow
  have HBL := Lib.hid hbl
  clear hrow hbl
  go_wp2
  go_ret2
  exact ⟨A2, c2, rfl, HROW.out, HBL.out⟩

set_option maxRecDepth 100000 in
set_option maxHeartbeats 800000 in
theorem refTake_arg (s : Value) (p : Nat) (N : Int) (w : World) (h : N < 0) : Calls Try.prog 56 #[s, .int .i64 p, .int .i64 N] w (RefTook w [] 2) := by
  go_enter Try.func56, Try.ntmps56
  go_wp2
  go_ret2
  exact took_nil w 2

set_option maxRecDepth 100000 in
set_option maxHeartbeats 800000 in
theorem refTake_state (s : Value) (p : Nat) (N : Int) (w : World) (h : 0 ≤ N) (hp8 : ¬ p % 8 = 0) : Calls Try.prog 56 #[s, .int .i64 p, .int .i64 N] w (RefTook w [] 8) := by
  have q0 : ((p : Int) % 8 == 0) = false := by simp; omega
  have q1 : ((p : Int) % 8 != 0) = true := by simp; omega
  go_enter Try.func56, Try.ntmps56
  go_wp2
  go_ret2
  exact took_nil w 8

set_option maxRecDepth 100000 in
set_option maxHeartbeats 800000 in
theorem refTake_most (s : Value) (p : Nat) (N : Int) (w : World) (h : 8388608 < N) (hp8 : p % 8 = 0) : Calls Try.prog 56 #[s, .int .i64 p, .int .i64 N] w (RefTook w [] 4) := by
  have q0 : ((p : Int) % 8 == 0) = true := by simp; omega
  have q1 : ((p : Int) % 8 != 0) = false := by simp; omega
  go_enter Try.func56, Try.ntmps56
  go_wp2
  go_ret2
  exact took_nil w 4

set_option maxRecDepth 100000 in
set_option maxHeartbeats 800000 in
theorem refTake_short (A : Option Addr) (m c p k : Nat) (w : World) (hl : m ≤ 8388608) (hp : p ≤ m) (hk : k ≤ 8388608) (hn : (m : Int) - p < 8 * (k : Int)) (hp8 : p % 8 = 0) :
    Calls Try.prog 56 #[.slice A m c, .int .i64 p, .int .i64 k] w (RefTook w [] 4) := by
  have q0 : ((p : Int) % 8 == 0) = true := by simp; omega
  have q1 : ((p : Int) % 8 != 0) = false := by simp; omega
  have HR := Lib.hid (refRead_no A m c p (8 * (k : Int)) w hl hp hn)
  have HV := Lib.hid (refBytes_nil w (.slice none 0 0) (.inl rfl))
  clear hn
  go_enter Try.func56, Try.ntmps56
  go_wp2_with fail
  refine HR.out.mono ?_
  rintro e w' ⟨rfl, rfl⟩
  go_wp2_with fail
  refine HV.out.mono ?_
  rintro e w' ⟨r, rfl, hrow, hbl⟩
  obtain ⟨A2, c2, rfl⟩ := row_shape hrow
  have HROW := Lib.hid hrow
  have HBL := Lib.hid hbl
  clear hrow hbl
  go_wp2
  go_ret2
  exact ⟨A2, c2, rfl, HROW.out, HBL.out⟩

/-- The bytes that Take answers. -/
def tBytes (B : List Nat) (p : Nat) (N : Int) : List Nat := if takeCode B.length p N = 0 then (B.drop (p / 8)).take N.toNat else []

/-- Take on the bits of bytes. -/
theorem refTake (s : Value) (B : List Nat) (p : Nat) (N : Int) (w : World) (h : BitE w s (unpack B)) (hB : ∀ c ∈ B, c < 256) (hBl : B.length ≤ 1048576) (hp : p ≤ 8 * B.length) :
    Calls Try.prog 56 #[s, .int .i64 p, .int .i64 N] w (RefTook w (tBytes B p N) (takeCode B.length p N)) := by
  have hul := unpack_length B
  unfold tBytes
  by_cases h1 : N < 0
  · have hc : takeCode B.length p N = 2 := by unfold takeCode; rw [if_pos h1]
    rw [hc]
    exact refTake_arg s p N w h1
  · by_cases h8 : p % 8 = 0
    · by_cases hm : 8388608 < N
      · have hc : takeCode B.length p N = 4 := by unfold takeCode; rw [if_neg h1, if_pos (by simp; omega), if_pos (by omega)]
        rw [hc]
        exact refTake_most s p N w hm h8
      · obtain ⟨k, rfl⟩ := Int.eq_ofNat_of_zero_le (show 0 ≤ N by omega)
        by_cases h2 : 8 * (B.length : Int) - p < 8 * (k : Int)
        · have hc : takeCode B.length p k = 4 := by unfold takeCode; rw [if_neg h1, if_pos (by simp; omega), if_pos (by omega)]
          rw [hc]
          obtain ⟨A, c, rfl⟩ := h.form
          rw [hul]
          exact refTake_short A _ c p k w (by omega) (by omega) (by omega) (by omega) h8
        · have hc : takeCode B.length p k = 0 := by unfold takeCode; rw [if_neg h1, if_pos (by simp; omega), if_neg (by omega)]
          rw [hc, if_pos rfl]
          have := refTake_ok s (unpack B) p k w h (by omega) (by omega) h8
          rw [part_bytes B p k h8 hB] at this
          simpa using this
    · have hc : takeCode B.length p N = 8 := by unfold takeCode; rw [if_neg h1, if_neg (by simp; omega)]
      rw [hc]
      exact refTake_state s p N w (by omega) h8
end Go.Proofs.Ytboiiohpkoodpaa
