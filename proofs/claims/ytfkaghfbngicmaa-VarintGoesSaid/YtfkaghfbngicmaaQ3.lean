/- When bytes go on: plain facts for VarintGoes. No conditions beyond a range of integers. -/
import Derived.Test.YtfkaghfbngicmaaQv
namespace Go.Proofs.Ytfkaghfbngicmaa

theorem up_iff (v lo p hi : Int) (hp : 1 ≤ p) : upV v lo p ≤ hi ↔ ∃ m : Nat, lo ≤ v + p * m ∧ v + p * m ≤ hi := by
  constructor
  · intro h
    by_cases hv : v < lo
    · rw [up_a hv] at h
      obtain ⟨f1, f2, f3⟩ := up_facts (lo - v + p - 1) p hp
      obtain ⟨f4, _⟩ := f3 (by omega)
      obtain ⟨m, hm⟩ := Int.eq_ofNat_of_zero_le f4
      rw [hm, Int.mul_comm] at f1 f2 h
      exact ⟨m, by omega, h⟩
    · rw [up_b hv] at h
      exact ⟨0, by simp; omega, by simpa using h⟩
  · rintro ⟨m, h1, h2⟩
    by_cases hv : v < lo
    · rw [up_a hv]
      obtain ⟨f1, f2, f3⟩ := up_facts (lo - v + p - 1) p hp
      obtain ⟨f4, _⟩ := f3 (by omega)
      -- the quotient is not above m
      have hq : (lo - v + p - 1) / p ≤ (m : Int) := by
        have : lo - v + p - 1 < ((m : Int) + 1) * p := by
          rw [Int.add_mul, Int.mul_comm (m : Int) p]; omega
        have := Int.ediv_lt_of_lt_mul (by omega) this
        omega
      have := Int.mul_le_mul_of_nonneg_right hq (show 0 ≤ p by omega)
      rw [Int.mul_comm (m : Int) p] at this
      omega
    · rw [up_b hv]
      have : 0 ≤ p * (m : Int) := Int.mul_nonneg (by omega) (by omega)
      omega

/-- From how many further units on. -/
def leastM (loose : Bool) (k : Nat) : Nat := if loose = false ∧ 0 < k then 1 else 0
theorem lead_iff (loose : Bool) (k S P : Nat) (lo hi : Int) (hp : 1 ≤ P) : upV (leadV loose k (S : Nat) (P : Nat)) lo (P : Nat) ≤ hi ↔ ∃ m : Nat, leastM loose k ≤ m ∧ lo ≤ ((S + P * m : Nat) : Int) ∧ ((S + P * m : Nat) : Int) ≤ hi := by
  rw [up_iff _ _ _ _ (by omega)]
  unfold leastM
  by_cases h : loose = false ∧ 0 < k
  · rw [lead_b loose k _ _ h.1 h.2, if_pos h]
    constructor
    · rintro ⟨m, h1, h2⟩
      refine ⟨m + 1, by omega, ?_, ?_⟩
      · push_cast
        rw [Int.mul_add]
        omega
      · push_cast
        rw [Int.mul_add]
        omega
    · rintro ⟨m, h0, h1, h2⟩
      obtain ⟨m', rfl⟩ : ∃ m', m = m' + 1 := ⟨m - 1, by omega⟩
      push_cast at h1 h2
      rw [Int.mul_add] at h1 h2
      exact ⟨m', by omega, by omega⟩
  · rw [lead_a loose k _ _ (by
      by_cases hl : loose = true
      · exact .inl hl
      · exact .inr (fun h0 => h ⟨by simpa using hl, h0⟩)), if_neg h]
    constructor
    · rintro ⟨m, h1, h2⟩
      exact ⟨m, Nat.zero_le _, by push_cast; exact h1, by push_cast; exact h2⟩
    · rintro ⟨m, _, h1, h2⟩
      push_cast at h1 h2
      exact ⟨m, h1, h2⟩

/-- Whether bytes are a whole form in a range. -/
def wholeB (B : List Nat) (loose : Bool) (lo hi : Int) : Bool := decide ((readC B loose).2.2 = 0) && decide ((readC B loose).2.1 = B.length) && decide (lo ≤ ((readC B loose).1 : Nat)) && decide ((((readC B loose).1 : Nat) : Int) ≤ hi)

theorem lowI_snoc_low {B : List Nat} (h : lowI B < B.length) (x : Nat) : lowI (B ++ [x]) = lowI B := by
  have := lowI_take (B ++ [x]) B.length
  rw [List.take_left] at this
  have hle := lowI_le (B ++ [x])
  omega
theorem lowI_all : ∀ (B : List Nat), (∀ c ∈ B, 128 ≤ c) → lowI B = B.length
  | [], _ => rfl
  | c :: r, h => by
    have hc := h c (by simp)
    simp only [lowI, if_neg (show ¬ c < 128 by omega), List.length_cons]
    rw [lowI_all r (fun x hx => h x (by simp [hx]))]
theorem big_of_low {B : List Nat} (h : lowI B = B.length) : ∀ c ∈ B, 128 ≤ c := by
  intro c hc
  obtain ⟨i, hi, rfl⟩ := List.mem_iff_getElem.1 hc
  exact lowI_big B i hi (by omega)

theorem too_big {m S P : Nat} {hi : Int} (hP : P = 268435456) (hm : 128 ≤ m) (h : ((S + P * m : Nat) : Int) ≤ hi) (hr : hi < 34359738368) : False := by
  have h1 : P * 128 ≤ P * m := Nat.mul_le_mul_left _ hm
  subst hP
  omega

/-- A further byte behind bytes that have no end. -/
theorem snoc_small {B : List Nat} {loose : Bool} {lo hi : Int} (h : lowI B = B.length) (h5 : B.length < 5) (x : Nat) (hx : x < 128) :
    beginsB (B ++ [x]) loose lo hi = ((loose || decide (B.length = 0) || decide (0 < x)) && decide (lo ≤ ((sumV B + 128 ^ B.length * x : Nat) : Int)) && decide (((sumV B + 128 ^ B.length * x : Nat) : Int) ≤ hi)) := by
  have hl : lowI (B ++ [x]) = B.length := by
    rw [lowI_append B [x] (big_of_low h)]; simp [lowI, hx]
  rw [beginsB_hit (i := B.length) h5 (by simp) hl]
  rw [List.take_of_length_le (by simp), sumV_append]
  simp [sumV, Nat.mod_eq_of_lt hx]
theorem snoc_big {B : List Nat} {loose : Bool} {lo hi : Int} (h : lowI B = B.length) (h5 : B.length < 5) (x : Nat) (hx : 128 ≤ x) (hx2 : x < 256) :
    beginsB (B ++ [x]) loose lo hi = if B.length + 1 = 5 then false else decide (upV (leadV loose (B.length + 1) (sumV B + 128 ^ B.length * (x - 128) : Nat) (128 ^ (B.length + 1) : Nat)) lo (128 ^ (B.length + 1) : Nat) ≤ hi) := by
  have hl : lowI (B ++ [x]) = (B ++ [x]).length := by
    rw [lowI_append B [x] (big_of_low h)]; simp [lowI, show ¬ x < 128 by omega]
  rw [beginsB_end (by simp; omega) hl, List.length_append, sumV_append]
  simp only [sumV, List.length_cons, List.length_nil, Nat.zero_add, Nat.mul_zero, Nat.add_zero]
  rw [show x % 128 = x - 128 by omega]

theorem goes_iff {B : List Nat} {loose : Bool} {lo hi : Int} (hr : rangeV lo hi = true) :
    (beginsB B loose lo hi = true ↔ wholeB B loose lo hi = true ∨ ∃ x, x < 256 ∧ beginsB (B ++ [x]) loose lo hi = true) ∧ ¬ (wholeB B loose lo hi = true ∧ ∃ x, x < 256 ∧ beginsB (B ++ [x]) loose lo hi = true) := by
  obtain ⟨r1, r2, r3⟩ := (rangeV_iff lo hi).1 hr
  have hle := lowI_le B
  by_cases h5 : 5 ≤ lowI B
  · -- five bytes that have others behind them
    have hb : ∀ C : List Nat, 5 ≤ lowI C → beginsB C loose lo hi = false := fun C hC => by
      have h1 := (beg_none (.inl hC)).1
      have h2 := (beg_none (.inl hC)).2
      have hl := lowI_le C
      unfold beginsB
      rw [h1, h2, if_neg (by simp), if_pos (by rw [List.length_take]; omega)]
    have hw : wholeB B loose lo hi = false := by unfold wholeB; rw [readC_five h5]; simp
    have hn : ∀ x, beginsB (B ++ [x]) loose lo hi = false := fun x => hb _ (by
      have := lowI_take (B ++ [x]) B.length
      rw [List.take_left] at this
      omega)
    rw [hb B h5, hw]
    refine ⟨⟨(fun h => by cases h), ?_⟩, by simp⟩
    rintro (h | ⟨x, _, h⟩)
    · cases h
    · rw [hn x] at h; cases h
  · by_cases hlow : lowI B < B.length
    · -- a whole form
      have hn : ∀ x, beginsB (B ++ [x]) loose lo hi = false := fun x => by
        rw [beginsB_hit (i := lowI B) (by omega) (by simp; omega) (lowI_snoc_low hlow x), decide_eq_false (by simp; omega)]
        rfl
      have hbw : beginsB B loose lo hi = wholeB B loose lo hi := by
        rw [beginsB_hit (i := lowI B) (by omega) hlow rfl]
        unfold wholeB
        rw [readC_hit (by omega) hlow rfl]
        by_cases hc : loose = true ∨ lowI B = 0 ∨ 0 < B[lowI B]
        · rw [if_pos hc]
          have : (loose || decide (lowI B = 0) || decide (0 < B[lowI B])) = true := by
            rcases hc with hc | hc | hc <;> simp [hc]
          rw [this]
          simp
        · rw [if_neg hc]
          have : (loose || decide (lowI B = 0) || decide (0 < B[lowI B])) = false := by
            rw [Bool.eq_false_iff]
            intro ht
            simp only [Bool.or_eq_true, decide_eq_true_eq] at ht
            exact hc (by rcases ht with (h | h) | h; exact .inl h; exact .inr (.inl h); exact .inr (.inr h))
          rw [this]
          simp
      rw [hbw]
      refine ⟨⟨.inl, ?_⟩, ?_⟩
      · rintro (h | ⟨x, _, h⟩)
        · exact h
        · rw [hn x] at h; cases h
      · rintro ⟨_, x, _, h⟩
        rw [hn x] at h; cases h
    · -- no end yet
      have hl : lowI B = B.length := by omega
      have hk5 : B.length < 5 := by omega
      have hw : wholeB B loose lo hi = false := by unfold wholeB; rw [readC_short hl hk5]; simp
      rw [hw]
      refine ⟨?_, by simp⟩
      rw [beginsB_end (by omega) hl, if_neg (by omega), decide_eq_true_eq, lead_iff _ _ _ _ _ _ (pow_pos' _)]
      have hS := sumV_lt B
      have hP := pow_pos' B.length
      have hPs : 128 ^ (B.length + 1) = 128 ^ B.length * 128 := Nat.pow_succ _ _
      constructor
      · rintro ⟨m, h0, h1, h2⟩
        right
        by_cases hm : m < 128
        · refine ⟨m, by omega, ?_⟩
          rw [snoc_small hl hk5 m hm]
          have hal : (loose || decide (B.length = 0) || decide (0 < m)) = true := by
            unfold leastM at h0
            cases loose with
            | true => rfl
            | false =>
              by_cases hb0 : B.length = 0
              · simp [hb0]
              · rw [if_pos ⟨rfl, by omega⟩] at h0
                have : 0 < m := by omega
                simp [this]
          rw [hal, decide_eq_true h1, decide_eq_true h2]
          rfl
        · have hk4 : B.length + 1 ≠ 5 := by
            intro e
            have e4 : B.length = 4 := by omega
            exact too_big (by rw [e4]) (show 128 ≤ m by omega) h2 r3
          refine ⟨m % 128 + 128, by omega, ?_⟩
          rw [snoc_big hl hk5 _ (by omega) (by omega), if_neg hk4, decide_eq_true_eq, lead_iff _ _ _ _ _ _ (pow_pos' _)]
          have hmm : sumV B + 128 ^ B.length * (m % 128 + 128 - 128) + 128 ^ (B.length + 1) * (m / 128) = sumV B + 128 ^ B.length * m := by
            rw [hPs, Nat.mul_assoc, Nat.add_assoc, ← Nat.mul_add, show m % 128 + 128 - 128 + 128 * (m / 128) = m by omega]
          refine ⟨m / 128, ?_, by rw [hmm]; exact h1, by rw [hmm]; exact h2⟩
          unfold leastM
          split <;> omega
      · rintro (h | ⟨x, hx, h⟩)
        · cases h
        · by_cases hx1 : x < 128
          · rw [snoc_small hl hk5 x hx1] at h
            simp only [Bool.and_eq_true, decide_eq_true_eq] at h
            obtain ⟨⟨h1, h2⟩, h3⟩ := h
            refine ⟨x, ?_, h2, h3⟩
            unfold leastM
            split
            · rename_i hc
              rcases hc with ⟨rfl, hc⟩
              have : 0 < x := by
                have hb0 : ¬ B.length = 0 := by omega
                simpa [hb0] using h1
              omega
            · omega
          · rw [snoc_big hl hk5 x (by omega) hx] at h
            split at h
            · cases h
            · rw [decide_eq_true_eq, lead_iff _ _ _ _ _ _ (pow_pos' _)] at h
              obtain ⟨m, h0, h1, h2⟩ := h
              have hmm : sumV B + 128 ^ B.length * (x - 128) + 128 ^ (B.length + 1) * m = sumV B + 128 ^ B.length * (x - 128 + 128 * m) := by
                rw [hPs, Nat.mul_assoc, Nat.add_assoc, ← Nat.mul_add]
              rw [hmm] at h1 h2
              refine ⟨_, ?_, h1, h2⟩
              unfold leastM at h0 ⊢
              split
              · rename_i hc
                rw [if_pos ⟨hc.1, by omega⟩] at h0
                omega
              · omega
end Go.Proofs.Ytfkaghfbngicmaa
