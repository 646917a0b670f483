/- What is read of a form of an integer that other bytes follow; no form begins another one. No conditions beyond the lengths. -/
import Derived.Test.YtfkaghfbngicmaaQz
namespace Go.Proofs.Ytfkaghfbngicmaa

theorem formV_snoc (v k : Nat) : formV v (k + 1) = (List.range k).map (fun i => v / 128 ^ i % 128 + 128) ++ [v / 128 ^ k % 128] := by
  unfold formV
  rw [List.range_succ, List.map_append]
  congr 1
  · apply List.map_congr_left
    intro i hi
    rw [List.mem_range] at hi
    rw [if_pos (by omega)]
  · simp

theorem beg_form (v k : Nat) (h1 : 1 ≤ k) (h5 : k ≤ 5) (F : List Nat) : begL (formV v k ++ F) = formV v k ∧ begW (formV v k ++ F) = true := by
  obtain ⟨j, rfl⟩ : ∃ j, k = j + 1 := ⟨k - 1, by omega⟩
  obtain ⟨P, hP⟩ : ∃ P, (List.range j).map (fun i => v / 128 ^ i % 128 + 128) = P := ⟨_, rfl⟩
  obtain ⟨c, hc⟩ : ∃ c, v / 128 ^ j % 128 = c := ⟨_, rfl⟩
  have hl : P.length = j := by rw [← hP]; simp
  have hc1 : c < 128 := by rw [← hc]; exact Nat.mod_lt _ (by omega)
  have hP1 : ∀ x ∈ P, 128 ≤ x := by
    rw [← hP]
    intro x hx
    obtain ⟨i, _, rfl⟩ := List.mem_map.1 hx
    omega
  rw [formV_snoc, hP, hc]
  have e : (P ++ [c] ++ F).take 5 = P ++ (c :: F.take (4 - j)) := by
    rw [List.append_assoc, List.take_append, List.take_of_length_le (by omega), hl, show 5 - j = (4 - j) + 1 by omega]
    rfl
  have e2 : lowI ((P ++ [c] ++ F).take 5) = j := by
    rw [e, lowI_append P _ hP1, hl]
    simp [lowI, hc1]
  have e3 : j < ((P ++ [c] ++ F).take 5).length := by
    rw [e]; simp [hl]
  unfold begL begW
  rw [e2]
  refine ⟨?_, decide_eq_true e3⟩
  rw [if_pos e3, List.append_assoc, List.take_append, List.take_of_length_le (by omega), hl, show j + 1 - j = 1 by omega]
  rfl

theorem sumV_form (v k : Nat) (g : Nat → Nat) (hg : ∀ i, i < k → g i % 128 = v / 128 ^ i % 128) : sumV ((List.range k).map g) = v % 128 ^ k := by
  induction k with
  | zero => simp [sumV, Nat.mod_one]
  | succ k ih =>
    rw [List.range_succ, List.map_append, sumV_append, ih (fun i hi => hg i (by omega)), List.length_map, List.length_range, Nat.mod_pow_succ]
    simp only [List.map_cons, List.map_nil, sumV]
    rw [hg k (by omega), Nat.mul_zero, Nat.add_zero]

theorem sum_formV {v k : Nat} (h : v < 128 ^ k) : sumV (formV v k) = v := by
  unfold formV
  rw [sumV_form v k _ (fun i hi => by split <;> omega), Nat.mod_eq_of_lt h]

theorem allow_loose (L : List Nat) : allowB true L = true := by simp [allowB]

theorem read_loose {v k : Nat} (h1 : 1 ≤ k) (h5 : k ≤ 5) (h : v < 128 ^ k) (F : List Nat) : readC (formV v k ++ F) true = (v, k, 0) := by
  obtain ⟨e1, e2⟩ := beg_form v k h1 h5 F
  unfold readC
  rw [e1, e2, allow_loose, sum_formV h, formV_len]
  simp

theorem allow_strict {v k : Nat} (hv : v < 34359738368) (h1 : 1 ≤ k) (h : v < 128 ^ k) : allowB false (formV v k) = decide (k = len1 v) := by
  have hs := len1_spec hv
  have hq := len1_le v
  have e : (formV v k).getLastD 0 = v / 128 ^ (k - 1) := by
    obtain ⟨j, rfl⟩ : ∃ j, k = j + 1 := ⟨k - 1, by omega⟩
    rw [formV_snoc]
    simp only [Nat.add_sub_cancel]
    have h2 : v / 128 ^ j < 128 := by
      rw [Nat.div_lt_iff_lt_mul (by exact pow_pos' j)]
      rw [Nat.pow_succ, Nat.mul_comm] at h
      exact h
    rw [Nat.mod_eq_of_lt h2]
    simp
  unfold allowB
  rw [e, formV_len]
  have hkq : len1 v ≤ k := by
    rcases Nat.lt_or_ge k (len1 v) with hc | hc
    · exact absurd h (hs.2 k hc h1)
    · exact hc
  by_cases hk : k = len1 v
  · rw [decide_eq_true hk]
    by_cases hk1 : k = 1
    · simp [hk1]
    · have := hs.2 (k - 1) (by omega) (by omega)
      have h3 : 0 < v / 128 ^ (k - 1) := Nat.div_pos (by omega) (pow_pos' _)
      simp [h3]
  · rw [decide_eq_false hk]
    have hlt : v < 128 ^ (k - 1) := Nat.lt_of_lt_of_le hs.1 (pow128_mono (by omega))
    have h4 : v / 128 ^ (k - 1) = 0 := Nat.div_eq_of_lt hlt
    rw [h4]
    simp
    omega

theorem read_strict {v k : Nat} (hv : v < 34359738368) (h1 : 1 ≤ k) (h5 : k ≤ 5) (h : v < 128 ^ k) (F : List Nat) : readC (formV v k ++ F) false = if k = len1 v then (v, k, 0) else (0, 0, 6) := by
  obtain ⟨e1, e2⟩ := beg_form v k h1 h5 F
  unfold readC
  rw [e1, e2, allow_strict hv h1 h, sum_formV h, formV_len]
  by_cases hk : k = len1 v
  · simp [hk]
  · simp [hk]

/-- The first bytes of a form are no shorter one. -/
theorem form_noprefix (v j k : Nat) (h1 : 1 ≤ j) (hjk : j < k) : (formV v k).take j ≠ formV v j := by
  intro e
  have h : ((formV v k).take j)[j - 1]? = (formV v j)[j - 1]? := by rw [e]
  rw [List.getElem?_take, if_pos (by omega), List.getElem?_eq_getElem (by rw [formV_len]; omega), List.getElem?_eq_getElem (by rw [formV_len]; omega), formV_get v k _ (by omega), formV_get v j _ (by omega)] at h
  rw [if_pos (by omega), if_neg (by omega)] at h
  simp at h

theorem strOf_size (B : List Nat) : (strOf B).size = B.length := by
  show ((B.map UInt8.ofNat).toArray).size = _
  simp

theorem strOf_inj {A B : List Nat} (hA : ∀ c ∈ A, c < 256) (hB : ∀ c ∈ B, c < 256) (h : strOf A = strOf B) : A = B := by
  unfold strOf at h
  have h2 : A.map UInt8.ofNat = B.map UInt8.ofNat := by
    have := congrArg (fun x : ByteArray => x.data.toList) h
    simpa using this
  have h3 : (A.map UInt8.ofNat).map UInt8.toNat = (B.map UInt8.ofNat).map UInt8.toNat := by rw [h2]
  rw [List.map_map, List.map_map] at h3
  have f : ∀ L : List Nat, (∀ c ∈ L, c < 256) → L.map (UInt8.toNat ∘ UInt8.ofNat) = L := fun L hL => by
    conv => rhs; rw [← List.map_id L]
    apply List.map_congr_left
    intro c hc
    have := hL c hc
    simp [Nat.mod_eq_of_lt this]
  rw [f A hA, f B hB] at h3
  exact h3
theorem str_noprefix (v j k : Nat) (h1 : 1 ≤ j) (hjk : j < k) : strOf ((formV v k).take j) ≠ strOf (formV v j) := fun e =>
  form_noprefix v j k h1 hjk (strOf_inj (fun c hc => formV_lt v k c (List.mem_of_mem_take hc)) (formV_lt v j) e)
end Go.Proofs.Ytfkaghfbngicmaa
