/- What a call of a reader answers, as plain lists: its code, the place behind it, the number, the bytes. No conditions beyond the bounds that each says. -/
import Derived.Test.YtboiiohpkoodpaaIn
namespace Go.Proofs.Ytboiiohpkoodpaa
open Go.RowKit

theorem unpack_cons (c : Nat) (B : List Nat) : unpack (c :: B) = digs c 8 ++ unpack B := by simp [unpack]
theorem unpack_drop (B : List Nat) (q : Nat) : (unpack B).drop (8 * q) = unpack (B.drop q) := by
  induction B generalizing q with
  | nil => simp [unpack]
  | cons c B ih =>
    cases q with
    | zero => simp
    | succ q =>
      rw [unpack_cons, List.drop_append, digs_length, List.drop_of_length_le (by rw [digs_length]; omega), show 8 * (q + 1) - 8 = 8 * q by omega, ih]
      simp
theorem unpack_take (B : List Nat) (q : Nat) : (unpack B).take (8 * q) = unpack (B.take q) := by
  induction B generalizing q with
  | nil => simp [unpack]
  | cons c B ih =>
    cases q with
    | zero => simp [unpack]
    | succ q =>
      rw [unpack_cons, List.take_append, digs_length, List.take_of_length_le (by rw [digs_length]; omega), show 8 * (q + 1) - 8 = 8 * q by omega, ih]
      simp [unpack_cons]
theorem mem_part {B : List Nat} {q k c : Nat} (h : c ∈ (B.drop q).take k) : c ∈ B := List.mem_of_mem_drop (List.mem_of_mem_take h)
/-- The bytes of a part of the bits of bytes, at a border. -/
theorem part_bytes (B : List Nat) (p k : Nat) (hp : p % 8 = 0) (hB : ∀ c ∈ B, c < 256) : packs (((unpack B).drop p).take (8 * k)) = (B.drop (p / 8)).take k := by
  obtain ⟨q, rfl⟩ : ∃ q, p = 8 * q := ⟨p / 8, by omega⟩
  rw [unpack_drop, unpack_take, packs_unpack _ (fun c hc => hB c (mem_part hc)), show 8 * q / 8 = q by omega]

/-- The code of a call of a reader. -/
def rCode (B : List Nat) (p : Nat) (d : ActD) : Int :=
  if d.kd % 5 = 0 then getCode B.length p d.N else if d.kd % 5 = 1 then rlittleCode B.length p d.N else if d.kd % 5 = 2 then takeCode B.length p d.N else if d.kd % 5 = 3 then skipCode B.length p d.N else padCode B p d.N
/-- The place behind a call without an error. -/
def rTo (p : Nat) (d : ActD) : Nat :=
  if d.kd % 5 = 0 then p + d.N.toNat else if d.kd % 5 = 1 then p + 8 * d.N.toNat else if d.kd % 5 = 2 then p + 8 * d.N.toNat else if d.kd % 5 = 3 then p + d.N.toNat else bord p d.N.toNat
def rNext (B : List Nat) (p : Nat) (d : ActD) : Nat := if rCode B p d = 0 then rTo p d else p
def rVal (B : List Nat) (p : Nat) (d : ActD) : Nat :=
  if rCode B p d = 0 then (if d.kd % 5 = 0 then val (((unpack B).drop p).take d.N.toNat) else if d.kd % 5 = 1 then leVal ((B.drop (p / 8)).take d.N.toNat) else 0) else 0
def rBytes (B : List Nat) (p : Nat) (d : ActD) : List Nat := if rCode B p d = 0 then (if d.kd % 5 = 2 then (B.drop (p / 8)).take d.N.toNat else []) else []

theorem get_zero_iff {L p : Nat} {n : Int} (h : getCode L p n = 0) : ∃ m : Nat, n = m ∧ 1 ≤ m ∧ m ≤ 32 ∧ p + m ≤ 8 * L := by
  unfold getCode at h
  split at h
  · rename_i hc
    split at h
    · cases h
    · simp [withinB] at hc
      obtain ⟨m, rfl⟩ := Int.eq_ofNat_of_zero_le (show 0 ≤ n by omega)
      exact ⟨m, rfl, by omega, by omega, by omega⟩
  · cases h
theorem skip_zero_iff {L p : Nat} {n : Int} (h : skipCode L p n = 0) : ∃ m : Nat, n = m ∧ p + m ≤ 8 * L := by
  unfold skipCode at h
  split at h
  · cases h
  · split at h
    · cases h
    · obtain ⟨m, rfl⟩ := Int.eq_ofNat_of_zero_le (show 0 ≤ n by omega)
      exact ⟨m, rfl, by omega⟩
theorem take_zero_iff {L p : Nat} {n : Int} (h : takeCode L p n = 0) : ∃ m : Nat, n = m ∧ p % 8 = 0 ∧ p + 8 * m ≤ 8 * L ∨ (n = m ∧ p % 8 = 0 ∧ 8 * L < p ∧ m = 0) := by
  unfold takeCode at h
  split at h
  · cases h
  · split at h
    · rename_i hc
      split at h
      · cases h
      · simp at hc
        obtain ⟨m, rfl⟩ := Int.eq_ofNat_of_zero_le (show 0 ≤ n by omega)
        by_cases hp : p ≤ 8 * L
        · exact ⟨m, .inl ⟨rfl, by omega, by omega⟩⟩
        · exact ⟨m, .inr ⟨rfl, by omega, by omega, by omega⟩⟩
    · cases h
theorem take_zero_iff' {L p : Nat} {n : Int} (hp : p ≤ 8 * L) (h : takeCode L p n = 0) : ∃ m : Nat, n = m ∧ p % 8 = 0 ∧ p + 8 * m ≤ 8 * L := by
  obtain ⟨m, ⟨a, b, c⟩ | ⟨a, b, c, d⟩⟩ := take_zero_iff h
  · exact ⟨m, a, b, c⟩
  · omega
theorem rlittle_zero_iff {L p : Nat} {n : Int} (h : rlittleCode L p n = 0) : ∃ m : Nat, n = m ∧ 1 ≤ m ∧ m ≤ 4 ∧ p % 8 = 0 ∧ p + 8 * m ≤ 8 * L := by
  unfold rlittleCode at h
  split at h
  · rename_i hc
    split at h
    · rename_i hk
      split at h
      · cases h
      · simp [withinB] at hc hk
        obtain ⟨m, rfl⟩ := Int.eq_ofNat_of_zero_le (show 0 ≤ n by omega)
        exact ⟨m, rfl, by omega, by omega, by omega, by omega⟩
    · cases h
  · cases h
theorem pad_zero_iff {B : List Nat} {p : Nat} {n : Int} (h : padCode B p n = 0) : ∃ m : Nat, n = m ∧ 1 ≤ m ∧ m ≤ 4096 ∧ bord p m ≤ 8 * B.length := by
  unfold padCode at h
  split at h
  · rename_i hc
    split at h
    · cases h
    · rename_i hr
      simp [withinB] at hc
      obtain ⟨m, rfl⟩ := Int.eq_ofNat_of_zero_le (show 0 ≤ n by omega)
      refine ⟨m, rfl, by omega, by omega, ?_⟩
      have e : ((m : Nat) : Int).toNat = m := by omega
      rw [e] at hr
      omega
  · cases h

theorem rNext_le {B : List Nat} {p : Nat} (d : ActD) (hp : p ≤ 8 * B.length) : rNext B p d ≤ 8 * B.length := by
  unfold rNext
  split
  · rename_i h
    unfold rCode at h
    unfold rTo
    split
    · rename_i hk
      rw [if_pos hk] at h
      obtain ⟨m, e, _, _, h3⟩ := get_zero_iff h
      rw [e]; simpa using h3
    · rename_i hk
      rw [if_neg hk] at h
      split
      · rename_i hk1
        rw [if_pos hk1] at h
        obtain ⟨m, e, _, _, _, h3⟩ := rlittle_zero_iff h
        rw [e]; simpa using h3
      · rename_i hk1
        rw [if_neg hk1] at h
        split
        · rename_i hk2
          rw [if_pos hk2] at h
          obtain ⟨m, e, _, h3⟩ := take_zero_iff' hp h
          rw [e]; simpa using h3
        · rename_i hk2
          rw [if_neg hk2] at h
          split
          · rename_i hk3
            rw [if_pos hk3] at h
            obtain ⟨m, e, h3⟩ := skip_zero_iff h
            rw [e]; simpa using h3
          · rename_i hk3
            rw [if_neg hk3] at h
            obtain ⟨m, e, _, _, h3⟩ := pad_zero_iff h
            rw [e]; simpa using h3
  · exact hp
theorem rBytes_lt {B : List Nat} {p : Nat} {d : ActD} (hB : ∀ c ∈ B, c < 256) : ∀ c ∈ rBytes B p d, c < 256 := by
  intro c hc
  unfold rBytes at hc
  split at hc
  · split at hc
    · exact hB c (mem_part hc)
    · simp at hc
  · simp at hc
theorem rBytes_len {B : List Nat} {p : Nat} {d : ActD} : (rBytes B p d).length ≤ B.length := by
  unfold rBytes
  split
  · split
    · rw [List.length_take, List.length_drop]; omega
    · simp
  · simp
end Go.Proofs.Ytboiiohpkoodpaa
