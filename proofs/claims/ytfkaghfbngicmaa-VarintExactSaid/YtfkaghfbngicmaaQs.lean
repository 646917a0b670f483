/- Integers of variable length: plain facts on lists of bytes. No conditions. -/
import Derived.Test.YtfkaghfbngicmaaQa
namespace Go.Proofs.Ytfkaghfbngicmaa

/-- Whether an integer has forms. -/
def okV (v : Int) : Bool := decide (0 ≤ v) && decide (v < 34359738368)
theorem okV_iff (v : Int) : okV v = true ↔ 0 ≤ v ∧ v < 34359738368 := by simp [okV]
theorem okV_not (v : Int) : okV v = false ↔ v < 0 ∨ 34359738368 ≤ v := by
  rw [← Bool.not_eq_true, okV_iff]; omega

/-- The place of the first byte that has no other one behind it. -/
def lowI : List Nat → Nat
  | [] => 0
  | c :: r => if c < 128 then 0 else lowI r + 1
theorem lowI_le : ∀ B : List Nat, lowI B ≤ B.length
  | [] => Nat.le_refl _
  | c :: r => by have := lowI_le r; simp only [lowI, List.length_cons]; split <;> omega
theorem lowI_hit : ∀ (B : List Nat) (k : Nat) (h : k < B.length), k ≤ lowI B → B[k] < 128 → lowI B = k
  | [], k, h, _, _ => by simp at h
  | c :: r, 0, h, _, hc => by simp only [List.getElem_cons_zero] at hc; simp [lowI, hc]
  | c :: r, k + 1, h, hk, hc => by
    simp only [List.getElem_cons_succ] at hc
    simp only [lowI] at hk ⊢
    split at hk
    · omega
    · rename_i h1
      rw [if_neg h1, lowI_hit r k (by simpa using h) (by omega) hc]
theorem lowI_miss : ∀ (B : List Nat) (k : Nat) (h : k < B.length), k ≤ lowI B → ¬ B[k] < 128 → k + 1 ≤ lowI B
  | [], k, h, _, _ => by simp at h
  | c :: r, 0, h, _, hc => by simp only [List.getElem_cons_zero] at hc; simp [lowI, hc]
  | c :: r, k + 1, h, hk, hc => by
    simp only [List.getElem_cons_succ] at hc
    simp only [lowI] at hk ⊢
    split at hk
    · omega
    · rename_i h1
      rw [if_neg h1]
      have := lowI_miss r k (by simpa using h) (by omega) hc
      omega
theorem lowI_get : ∀ (B : List Nat) (h : lowI B < B.length), B[lowI B] < 128
  | [], h => by simp at h
  | c :: r, h => by
    by_cases hc : c < 128
    · simp [lowI, hc]
    · have e : lowI (c :: r) = lowI r + 1 := by simp [lowI, hc]
      simp only [e, List.getElem_cons_succ]
      exact lowI_get r (by simpa [e] using h)
theorem lowI_big : ∀ (B : List Nat) (k : Nat) (h : k < B.length), k < lowI B → 128 ≤ B[k]
  | [], k, h, _ => by simp at h
  | c :: r, 0, h, hk => by
    simp only [lowI] at hk
    split at hk
    · omega
    · simpa using by omega
  | c :: r, k + 1, h, hk => by
    simp only [lowI] at hk
    split at hk
    · omega
    · simpa using lowI_big r k (by simpa using h) (by omega)
theorem lowI_append : ∀ (A B : List Nat), (∀ c ∈ A, 128 ≤ c) → lowI (A ++ B) = A.length + lowI B
  | [], B, _ => by simp
  | c :: r, B, h => by
    have hc := h c (by simp)
    simp only [List.cons_append, lowI, if_neg (show ¬ c < 128 by omega), List.length_cons]
    rw [lowI_append r B (fun x hx => h x (by simp [hx]))]
    omega

/-- What bytes begin with: a form, or as many bytes as there are of one without its last byte. -/
def begL (B : List Nat) : List Nat := if lowI (B.take 5) < (B.take 5).length then B.take (lowI (B.take 5) + 1) else B.take 5
def begW (B : List Nat) : Bool := decide (lowI (B.take 5) < (B.take 5).length)
theorem begL_len (B : List Nat) : (begL B).length ≤ 5 ∧ (begL B).length ≤ B.length := by
  unfold begL
  have h := lowI_le (B.take 5)
  simp only [List.length_take] at h ⊢
  split
  · simp only [List.length_take]; omega
  · simp only [List.length_take]; omega
theorem begL_take (B : List Nat) : begL B = B.take (begL B).length := by
  unfold begL
  split
  · simp only [List.length_take]
    rename_i h
    simp only [List.length_take] at h
    rw [Nat.min_eq_left (by omega)]
  · simp only [List.length_take]
    rcases Nat.le_total 5 B.length with h | h
    · rw [Nat.min_eq_left h]
    · rw [Nat.min_eq_right h, List.take_of_length_le h, List.take_of_length_le (Nat.le_refl _)]

/-- What bytes count together. -/
def sumV : List Nat → Nat
  | [] => 0
  | c :: r => c % 128 + 128 * sumV r
theorem sumV_append : ∀ (A B : List Nat), sumV (A ++ B) = sumV A + 128 ^ A.length * sumV B
  | [], B => by simp [sumV]
  | c :: r, B => by
    simp only [List.cons_append, sumV, sumV_append r B, List.length_cons, Nat.pow_succ]
    rw [Nat.mul_add, Nat.add_assoc, Nat.mul_comm (128 ^ r.length) 128, Nat.mul_assoc]
theorem sumV_lt : ∀ A : List Nat, sumV A < 128 ^ A.length
  | [] => by simp [sumV]
  | c :: r => by
    have := sumV_lt r
    simp only [sumV, List.length_cons, Nat.pow_succ]
    have h1 : c % 128 < 128 := Nat.mod_lt _ (by omega)
    have h2 : 128 * sumV r + 128 ≤ 128 * 128 ^ r.length := by
      have := Nat.mul_le_mul_left 128 (show sumV r + 1 ≤ 128 ^ r.length from this)
      omega
    omega
theorem sumV_snoc (B : List Nat) (k : Nat) (h : k < B.length) : sumV (B.take (k + 1)) = sumV (B.take k) + B[k] % 128 * 128 ^ k := by
  rw [List.take_succ_eq_append_getElem h, sumV_append]
  simp only [sumV, List.length_take, Nat.min_eq_left (Nat.le_of_lt h)]
  rw [Nat.mul_zero, Nat.add_zero, Nat.mul_comm]
theorem sumV_le5 (A : List Nat) (h : A.length ≤ 5) : sumV A < 34359738368 :=
  Nat.lt_of_lt_of_le (sumV_lt A) (Nat.le_trans (Nat.pow_le_pow_right (by omega) h) (by decide))
theorem pow5 {k : Nat} (h : k ≤ 5) : 128 ^ k ≤ 34359738368 := Nat.le_trans (Nat.pow_le_pow_right (by omega) h) (by decide)
theorem pow_pos' (k : Nat) : 1 ≤ 128 ^ k := Nat.one_le_pow _ _ (by omega)

/-- Whether a whole form is one of those that are allowed. -/
def allowB (loose : Bool) (L : List Nat) : Bool := loose || decide (L.length = 1) || decide (0 < L.getLastD 0)

/-- What Read answers. -/
def readC (B : List Nat) (loose : Bool) : Nat × Nat × Nat :=
  if begW B = false ∧ (begL B).length < 5 then (0, 0, 4)
  else if begW B = false ∨ allowB loose (begL B) = false then (0, 0, 6)
  else (sumV (begL B), (begL B).length, 0)

/-- A form of an integer. -/
def formV (v n : Nat) : List Nat := (List.range n).map fun i => v / 128 ^ i % 128 + if i + 1 < n then 128 else 0
theorem formV_len (v n : Nat) : (formV v n).length = n := by simp [formV]
theorem formV_get (v n i : Nat) (h : i < n) : (formV v n)[i]'(by rw [formV_len]; exact h) = v / 128 ^ i % 128 + if i + 1 < n then 128 else 0 := by
  simp [formV]
theorem formV_lt (v n : Nat) : ∀ c ∈ formV v n, c < 256 := by
  intro c hc
  unfold formV at hc
  obtain ⟨i, _, rfl⟩ := List.mem_map.1 hc
  have := Nat.mod_lt (v / 128 ^ i) (show 0 < 128 by omega)
  split <;> omega

/-- All forms, by increasing length. -/
def formsN (v n : Nat) : List (List Nat) := ((List.range n).filter fun k => decide (v < 128 ^ (k + 1))).map fun k => formV v (k + 1)
def formsV (v : Int) : List (List Nat) := if okV v then formsN v.toNat 5 else []
theorem formsN_succ (v n : Nat) : formsN v (n + 1) = formsN v n ++ if v < 128 ^ (n + 1) then [formV v (n + 1)] else [] := by
  unfold formsN
  rw [List.range_succ, List.filter_append, List.map_append]
  congr 1
  by_cases h : v < 128 ^ (n + 1) <;> simp [h]
end Go.Proofs.Ytfkaghfbngicmaa
