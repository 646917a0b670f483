/- Bit strings as lists: numbers, bytes, and how they are joined. No conditions: plain facts on lists and numbers. -/
namespace Go.Proofs.Ytboiiohpkoodpaa

/-- The lowest m bits of a number, the most significant one first. -/
def digs (v m : Nat) : List Bool := (List.range m).map fun k => v.testBit (m - 1 - k)
/-- The number of bits. -/
def val (l : List Bool) : Nat := l.foldl (fun a b => 2 * a + b.toNat) 0
def byteOf (l : List Bool) (i : Nat) : Nat := val ((List.range 8).map fun j => l.getD (8 * i + j) false)
/-- The bytes of a bit string, the last one filled up with bits 0. -/
def packs (l : List Bool) : List Nat := (List.range ((l.length + 7) / 8)).map (byteOf l)
/-- The bits of bytes. -/
def unpack (B : List Nat) : List Bool := B.flatMap fun c => digs c 8

theorem digs_length (v m : Nat) : (digs v m).length = m := by simp [digs]
theorem packs_length (l : List Bool) : (packs l).length = (l.length + 7) / 8 := by simp [packs]
theorem digs_get (v m k : Nat) (h : k < m) : (digs v m)[k]'(by simp [digs, h]) = v.testBit (m - 1 - k) := by simp [digs]
theorem digs_getD (v m k : Nat) (h : k < m) : (digs v m).getD k false = v.testBit (m - 1 - k) := by simp [digs, h]

theorem val_snoc (l : List Bool) (b : Bool) : val (l ++ [b]) = 2 * val l + b.toNat := by simp [val]

theorem snoc_ind {P : List Bool → Prop} (h0 : P []) (h1 : ∀ l b, P l → P (l ++ [b])) (l : List Bool) : P l := by
  have : ∀ r : List Bool, P r.reverse := by
    intro r
    induction r with
    | nil => exact h0
    | cons b r ih => rw [List.reverse_cons]; exact h1 _ _ ih
  simpa using this l.reverse

theorem val_testBit (l : List Bool) : ∀ k, (val l).testBit k = (decide (k < l.length) && l.getD (l.length - 1 - k) false) := by
  induction l using snoc_ind with
  | h0 => simp [val]
  | h1 l b ih =>
    intro k
    rw [val_snoc]
    cases k with
    | zero =>
      rw [Nat.testBit_zero]
      have : (2 * val l + b.toNat) % 2 = b.toNat := by cases b <;> simp <;> omega
      rw [this]
      cases b <;> simp
    | succ k =>
      rw [Nat.testBit_succ]
      have : (2 * val l + b.toNat) / 2 = val l := by cases b <;> simp <;> omega
      rw [this, ih]
      by_cases hk : k < l.length
      · simp only [hk, List.length_append, List.length_cons, List.length_nil, decide_true, Bool.true_and]
        rw [decide_eq_true (by omega), Bool.true_and]
        rw [show l.length + (0 + 1) - 1 - (k + 1) = l.length - 1 - k by omega]
        simp [List.getElem?_append, show l.length - 1 - k < l.length by omega]
      · simp [hk]

theorem val_lt (l : List Bool) : val l < 2 ^ l.length := by
  induction l using snoc_ind with
  | h0 => simp [val]
  | h1 l b ih =>
    rw [val_snoc]
    simp [Nat.pow_succ]
    have : b.toNat ≤ 1 := by cases b <;> simp
    omega

theorem val_digs (v m : Nat) (h : v < 2 ^ m) : val (digs v m) = v := by
  refine Nat.eq_of_testBit_eq fun k => ?_
  rw [val_testBit, digs_length]
  by_cases hk : k < m
  · rw [digs_getD _ _ _ (by omega)]
    simp [hk, show m - 1 - (m - 1 - k) = k by omega]
  · simp [hk]
    exact (Nat.testBit_lt_two_pow (Nat.lt_of_lt_of_le h (Nat.pow_le_pow_right (n := 2) (by omega) (show m ≤ k by omega))))

theorem digs_val (l : List Bool) : digs (val l) l.length = l := by
  refine List.ext_getElem (by simp [digs_length]) fun k h1 h2 => ?_
  rw [digs_get _ _ _ h2, val_testBit]
  simp [show l.length - 1 - k < l.length by omega, show l.length - 1 - (l.length - 1 - k) = k by omega, h2]

theorem digs_append (a b m n : Nat) (hb : b < 2 ^ n) : digs (a * 2 ^ n + b) (m + n) = digs a m ++ digs b n := by
  refine List.ext_getElem (by simp [digs_length]) fun k h1 h2 => ?_
  have hk : k < m + n := by simpa [digs_length] using h1
  rw [digs_get _ _ _ hk, Nat.mul_comm, Nat.testBit_two_pow_mul_add _ hb, List.getElem_append]
  by_cases hkm : k < m
  · rw [if_neg (by omega), dif_pos (by simpa [digs_length] using hkm), digs_get _ _ _ hkm]
    congr 1; omega
  · rw [if_pos (by omega), dif_neg (by simpa [digs_length] using hkm), digs_get _ _ _ (by simp [digs_length]; omega)]
    simp [digs_length]; congr 1; omega

theorem byteOf_testBit (l : List Bool) (i k : Nat) : (byteOf l i).testBit k = (decide (k < 8) && l.getD (8 * i + (7 - k)) false) := by
  unfold byteOf
  rw [val_testBit]
  simp only [List.length_map, List.length_range]
  by_cases hk : k < 8
  · simp [hk, show 8 - 1 - k < 8 by omega]
  · simp [hk]

theorem byteOf_lt (l : List Bool) (i : Nat) : byteOf l i < 256 := by
  have := val_lt ((List.range 8).map fun j => l.getD (8 * i + j) false)
  simpa [byteOf] using this

/-- A bit 0 more opens a byte, or changes none. -/
theorem packs_false (l : List Bool) : packs (l ++ [false]) = if l.length % 8 = 0 then packs l ++ [0] else packs l := by
  have hb : ∀ i, byteOf (l ++ [false]) i = byteOf l i := fun i => by
    refine Nat.eq_of_testBit_eq fun k => ?_
    rw [byteOf_testBit, byteOf_testBit]
    congr 1
    simp only [List.getD_eq_getElem?_getD, List.getElem?_append]
    split
    · rfl
    · rename_i h
      rw [List.getElem?_eq_none (l := l) (by omega)]
      cases 8 * i + (7 - k) - l.length <;> simp
  by_cases h : l.length % 8 = 0
  · rw [if_pos h]
    have : (l.length + 1 + 7) / 8 = (l.length + 7) / 8 + 1 := by omega
    simp only [packs, List.length_append, List.length_cons, List.length_nil, Nat.zero_add, this, List.range_succ, List.map_append, List.map_cons, List.map_nil]
    congr 1
    · exact List.map_congr_left fun i _ => hb i
    · rw [hb]
      congr 1
      refine Nat.eq_of_testBit_eq fun k => ?_
      rw [byteOf_testBit]
      rw [List.getD_eq_getElem?_getD, List.getElem?_eq_none (by omega)]
      simp
  · rw [if_neg h]
    have : (l.length + 1 + 7) / 8 = (l.length + 7) / 8 := by omega
    simp only [packs, List.length_append, List.length_cons, List.length_nil, Nat.zero_add, this]
    exact List.map_congr_left fun i _ => hb i

theorem byteOf_false (l : List Bool) (i : Nat) : byteOf (l ++ [false]) i = byteOf l i := by
  refine Nat.eq_of_testBit_eq fun k => ?_
  rw [byteOf_testBit, byteOf_testBit]
  congr 1
  simp only [List.getD_eq_getElem?_getD, List.getElem?_append]
  split
  · rfl
  · rename_i h
    rw [List.getElem?_eq_none (l := l) (by omega)]
    cases 8 * i + (7 - k) - l.length <;> simp

/-- A bit 1 in the place of a bit 0. -/
theorem packs_true (l : List Bool) : packs (l ++ [true]) = (packs (l ++ [false])).set (l.length / 8) (byteOf (l ++ [false]) (l.length / 8) ||| 2 ^ (7 - l.length % 8)) := by
  refine List.ext_getElem (by simp [packs_length]) fun i h1 h2 => ?_
  have hi : i < (l.length + 1 + 7) / 8 := by simpa [packs_length] using h1
  rw [List.getElem_set]
  have key : ∀ k, (byteOf (l ++ [true]) i).testBit k = ((byteOf (l ++ [false]) i).testBit k || (decide (k < 8) && decide (8 * i + (7 - k) = l.length))) := fun k => by
    rw [byteOf_testBit, byteOf_testBit]
    simp only [List.getD_eq_getElem?_getD, List.getElem?_append]
    by_cases hk : k < 8
    · simp only [hk, decide_true, Bool.true_and]
      by_cases h : 8 * i + (7 - k) < l.length
      · simp [h, show ¬ (8 * i + (7 - k) = l.length) by omega]
      · by_cases h' : 8 * i + (7 - k) = l.length
        · simp [h']
        · simp [h, h', show 8 * i + (7 - k) - l.length ≠ 0 by omega]
    · simp [hk]
  by_cases h : l.length / 8 = i
  · rw [if_pos h, h]
    simp only [packs, List.getElem_map, List.getElem_range]
    refine Nat.eq_of_testBit_eq fun k => ?_
    rw [key, Nat.testBit_or, Nat.testBit_two_pow]
    congr 1
    rw [Bool.eq_iff_iff]; simp; omega
  · rw [if_neg h]
    simp only [packs, List.getElem_map, List.getElem_range]
    refine Nat.eq_of_testBit_eq fun k => ?_
    rw [key]
    have : (decide (k < 8) && decide (8 * i + (7 - k) = l.length)) = false := by
      rw [Bool.eq_false_iff]; simp; omega
    rw [this, Bool.or_false]

theorem packs_un1 (l : List Bool) (h : l.length % 8 ≠ 0) : packs (l ++ [true]) = (packs l).set (l.length / 8) (byteOf l (l.length / 8) ||| 2 ^ (7 - l.length % 8)) := by
  rw [packs_true, packs_false, if_neg h, byteOf_false]

theorem byteOf_behind (l : List Bool) (h : l.length % 8 = 0) : byteOf l (l.length / 8) = 0 := by
  refine Nat.eq_of_testBit_eq fun k => ?_
  rw [byteOf_testBit, List.getD_eq_getElem?_getD, List.getElem?_eq_none (by omega)]
  simp

theorem packs_al1 (l : List Bool) (h : l.length % 8 = 0) : packs (l ++ [true]) = (packs l ++ [0]).set (l.length / 8) 128 := by
  rw [packs_true, packs_false, if_pos h, byteOf_false, byteOf_behind l h, h]
  rfl

theorem packs_get (l : List Bool) (i : Nat) (h : i < (l.length + 7) / 8) : (packs l)[i]'(by rw [packs_length]; exact h) = byteOf l i := by simp [packs]

theorem unpack_length (B : List Nat) : (unpack B).length = 8 * B.length := by
  induction B with
  | nil => rfl
  | cons c B ih => simp [unpack, digs_length] at *; omega

theorem unpack_append (A B : List Nat) : unpack (A ++ B) = unpack A ++ unpack B := by simp [unpack]

theorem unpack_getD (B : List Nat) (i : Nat) (h : i < 8 * B.length) : (unpack B).getD i false = (B.getD (i / 8) 0).testBit (7 - i % 8) := by
  induction B generalizing i with
  | nil => simp at h
  | cons c B ih =>
    simp only [unpack, List.flatMap_cons, List.getD_eq_getElem?_getD, List.getElem?_append, digs_length]
    by_cases h8 : i < 8
    · rw [if_pos h8]
      have := digs_getD c 8 i h8
      rw [List.getD_eq_getElem?_getD] at this
      rw [this, show i / 8 = 0 by omega, show i % 8 = i by omega]
      simp
    · rw [if_neg h8]
      have := ih (i - 8) (by simp at h; omega)
      simp only [unpack, List.getD_eq_getElem?_getD] at this
      rw [this, show i / 8 = (i - 8) / 8 + 1 by omega, show i % 8 = (i - 8) % 8 by omega]
      simp

theorem unpack_getElem (B : List Nat) (i : Nat) (h : i < (unpack B).length) : (unpack B)[i] = (B.getD (i / 8) 0).testBit (7 - i % 8) := by
  have := unpack_getD B i (by rw [unpack_length] at h; exact h)
  rw [← this]; simp [h]

/-- The bits of the bytes of a bit string: the bit string, and bits 0. -/
theorem unpack_packs (l : List Bool) : unpack (packs l) = l ++ List.replicate (8 * ((l.length + 7) / 8) - l.length) false := by
  refine List.ext_getElem (by simp [unpack_length, packs_length]; omega) fun i h1 h2 => ?_
  rw [unpack_getElem _ _ h1]
  have hi : i < 8 * ((l.length + 7) / 8) := by simpa [unpack_length, packs_length] using h1
  rw [List.getD_eq_getElem?_getD, List.getElem?_eq_getElem (by rw [packs_length]; omega), Option.getD_some, packs_get _ _ (by omega), byteOf_testBit]
  simp only [show 7 - i % 8 < 8 by omega, decide_true, Bool.true_and]
  rw [show 8 * (i / 8) + (7 - (7 - i % 8)) = i by omega, List.getElem_append]
  by_cases hl : i < l.length
  · simp [hl]
  · simp [hl]

theorem packs_unpack (B : List Nat) (hB : ∀ c ∈ B, c < 256) : packs (unpack B) = B := by
  refine List.ext_getElem (by simp [packs_length, unpack_length]; omega) fun i h1 h2 => ?_
  rw [packs_get _ _ (by simpa [packs_length] using h1)]
  refine Nat.eq_of_testBit_eq fun k => ?_
  rw [byteOf_testBit]
  by_cases hk : k < 8
  · rw [unpack_getD _ _ (by omega)]
    simp [hk, show (8 * i + (7 - k)) / 8 = i by omega, show 7 - (7 - k) % 8 = k by omega, h2]
  · simp [hk]
    exact (Nat.testBit_lt_two_pow (Nat.lt_of_lt_of_le (hB _ (List.getElem_mem h2)) (Nat.pow_le_pow_right (n := 2) (by omega) (show 8 ≤ k by omega))))

/-- Whole bytes behind a bit string that ends at a border. -/
theorem packs_bytes (l : List Bool) (B : List Nat) (h : l.length % 8 = 0) (hB : ∀ c ∈ B, c < 256) : packs (l ++ unpack B) = packs l ++ B := by
  have h2 : unpack (packs l) = l := by rw [unpack_packs, show 8 * ((l.length + 7) / 8) - l.length = 0 by omega]; simp
  have h3 : l ++ unpack B = unpack (packs l ++ B) := by rw [unpack_append, h2]
  rw [h3, packs_unpack]
  intro c hc
  rcases List.mem_append.1 hc with hc | hc
  · simp only [packs, List.mem_map] at hc
    obtain ⟨i, _, rfl⟩ := hc
    exact byteOf_lt l i
  · exact hB c hc
end Go.Proofs.Ytboiiohpkoodpaa
