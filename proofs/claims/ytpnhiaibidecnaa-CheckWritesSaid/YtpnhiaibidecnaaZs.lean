/- Plain facts: a checksum's own bytes behind it, one bit changed, joining. No conditions beyond bytes below 256. -/
import Derived.Test.YtpnhiaibidecnaaZo
import Derived.Test.YtpnhiaibidecnaaZj
namespace Go.Proofs.Ytpnhiaibidecnaa

theorem val_one (B : List Nat) : valS 1 B = 65535 - nrm (tot 0 B) := by unfold valS fin stS addS beg; simp
theorem val_two (B : List Nat) : valS 2 B = crcL 65535 B := rfl
theorem val_three (B : List Nat) : valS 3 B = (adl (1, 0) B).2 * 65536 + (adl (1, 0) B).1 := rfl

/-- The sum's own two bytes behind an even number of bytes. -/
theorem zero_one (B : List Nat) (h : B.length % 2 = 0) : valS 1 (B ++ bytesL 1 (valS 1 B)) = 0 := by
  have hV := val_one B
  have hn := nrm_le (tot 0 B)
  rw [val_one, tot_append]
  obtain ⟨V, hVV⟩ : ∃ V, valS 1 B = V := ⟨_, rfl⟩
  rw [hVV] at hV ⊢
  have hb : tot (0 + B.length) (bytesL 1 V) = V := by
    rw [show bytesL 1 V = [V / 256 % 256, V % 256] from rfl]
    simp only [tot, Nat.zero_add]
    rw [if_pos h, if_neg (by omega)]
    omega
  rw [hb, ← nrm_add, hV]
  rw [show nrm (tot 0 B) + (65535 - nrm (tot 0 B)) = 65535 by omega]
  decide
theorem zero_two (B : List Nat) (h : ∀ x ∈ B, x < 256) : valS 2 (B ++ bytesL 2 (valS 2 B)) = 0 := by
  have hl : crcL 65535 B < 65536 := crcL_lt B (by decide) h
  rw [val_two, val_two, crcL_append]
  obtain ⟨V, hV⟩ : ∃ V, crcL 65535 B = V := ⟨_, rfl⟩
  rw [hV] at hl ⊢
  rw [show bytesL 2 V = [V / 256 % 256, V % 256] from rfl, Nat.mod_eq_of_lt (show V / 256 < 256 by omega)]
  exact crc_zero hl

theorem fit_val (k : Nat) (B : List Nat) (h : ∀ x ∈ B, x < 256) (hk : 1 ≤ k ∧ k ≤ 3) : fitB k ((valS k B : Nat) : Int) = true := by
  have := valS_lt k B h hk
  unfold fitB
  refine decide_eq_true ⟨by omega, ?_⟩
  have e : ((2 ^ bitsS k : Nat) : Int) = (2 : Int) ^ bitsS k := by simp
  rw [← e]
  omega

/-- One bit of a byte changed. -/
theorem flip_byte : ∀ x, x < 256 → ∀ q, q < 8 → x ^^^ 2 ^ q < 256 ∧ (x ^^^ 2 ^ q = x + 2 ^ q ∨ (x ^^^ 2 ^ q) + 2 ^ q = x) := by decide +kernel
theorem set_split (B : List Nat) (p : Nat) (hp : p < B.length) (y : Nat) : B = B.take p ++ B[p] :: B.drop (p + 1) ∧ B.set p y = B.take p ++ y :: B.drop (p + 1) := by
  refine ⟨?_, List.set_eq_take_append_cons_drop.trans (if_pos hp)⟩
  conv => lhs; rw [← List.take_append_drop p B]
  rw [List.drop_eq_getElem_cons hp]
theorem sm_append : ∀ (A B : List Nat), sm (A ++ B) = sm A + sm B
  | [], B => by simp [sm]
  | c :: A, B => by rw [List.cons_append, sm, sm, sm_append A B]; omega

theorem flip_ones (P Q : List Nat) (x y d : Nat) (hd : 1 ≤ d ∧ d ≤ 128) (h : y = x + d ∨ y + d = x) : valS 1 (P ++ x :: Q) ≠ valS 1 (P ++ y :: Q) := by
  rw [val_one, val_one, tot_append, tot_append]
  simp only [tot]
  have h1 := nrm_le (tot 0 P + ((if (0 + P.length) % 2 = 0 then 256 * x else x) + tot (0 + P.length + 1) Q))
  have h2 := nrm_le (tot 0 P + ((if (0 + P.length) % 2 = 0 then 256 * y else y) + tot (0 + P.length + 1) Q))
  intro e
  have e : nrm (tot 0 P + ((if (0 + P.length) % 2 = 0 then 256 * x else x) + tot (0 + P.length + 1) Q)) = nrm (tot 0 P + ((if (0 + P.length) % 2 = 0 then 256 * y else y) + tot (0 + P.length + 1) Q)) := by omega
  generalize tot 0 P = T at e
  generalize tot (0 + P.length + 1) Q = U at e
  clear h1 h2
  unfold nrm at e
  by_cases hpar : (0 + P.length) % 2 = 0
  · simp only [hpar, if_true] at e
    split at e <;> split at e <;> omega
  · simp only [hpar, if_false] at e
    split at e <;> split at e <;> omega
theorem flip_crc (P Q : List Nat) (x y : Nat) (hP : ∀ c ∈ P, c < 256) (hQ : ∀ c ∈ Q, c < 256) (hx : x < 256) (hy : y < 256) (h : x ≠ y) : valS 2 (P ++ x :: Q) ≠ valS 2 (P ++ y :: Q) := by
  rw [val_two, val_two, crcL_append, crcL_append, crcL_cons, crcL_cons]
  have hl : crcL 65535 P < 65536 := crcL_lt P (by decide) hP
  generalize crcL 65535 P = r at hl
  intro e
  have h1 := crcL_inj Q (crcB_lt hl hx) (crcB_lt hl hy) hQ e
  unfold crcB at h1
  have h2 := dbls_inj 8 (Nat.xor_lt_two_pow (n := 16) hl (by omega)) (Nat.xor_lt_two_pow (n := 16) hl (by omega)) h1
  have h3 := congrArg (r ^^^ ·) h2
  simp only [← Nat.xor_assoc, Nat.xor_self, Nat.zero_xor] at h3
  omega
theorem flip_adler (P Q : List Nat) (x y d : Nat) (hd : 1 ≤ d ∧ d ≤ 128) (h : y = x + d ∨ y + d = x) : valS 3 (P ++ x :: Q) ≠ valS 3 (P ++ y :: Q) := by
  rw [val_three, val_three]
  have h1 := adl_low (P ++ x :: Q) (s := (1, 0)) (by decide)
  have h2 := adl_low (P ++ y :: Q) (s := (1, 0)) (by decide)
  rw [sm_append, sm] at h1 h2
  dsimp only at h1 h2
  intro e
  generalize adl (1, 0) (P ++ x :: Q) = a at *
  generalize adl (1, 0) (P ++ y :: Q) = b at *
  omega
theorem flip_any (k : Nat) (hk : 1 ≤ k ∧ k ≤ 3) (B : List Nat) (hB : ∀ c ∈ B, c < 256) (p q : Nat) (hp : p < B.length) (hq : q < 8) : valS k B ≠ valS k (B.set p (B[p] ^^^ 2 ^ q)) := by
  have hx := hB B[p] (List.getElem_mem hp)
  obtain ⟨hy, hc⟩ := flip_byte B[p] hx q hq
  obtain ⟨e1, e2⟩ := set_split B p hp (B[p] ^^^ 2 ^ q)
  have hd : 1 ≤ 2 ^ q ∧ 2 ^ q ≤ 128 := by
    have : q = 0 ∨ q = 1 ∨ q = 2 ∨ q = 3 ∨ q = 4 ∨ q = 5 ∨ q = 6 ∨ q = 7 := by omega
    rcases this with rfl | rfl | rfl | rfl | rfl | rfl | rfl | rfl <;> decide
  rw [e2]
  generalize hyy : B[p] ^^^ 2 ^ q = y at *
  generalize hxx : B[p] = x at *
  generalize 2 ^ q = d at *
  conv => lhs; rw [e1]
  obtain rfl | rfl | rfl : k = 1 ∨ k = 2 ∨ k = 3 := by omega
  · exact flip_ones _ _ x y d hd hc
  · exact flip_crc _ _ x y (fun c hc => hB c (List.mem_of_mem_take hc)) (fun c hc => hB c (List.mem_of_mem_drop hc)) hx hy (by omega)
  · exact flip_adler _ _ x y d hd hc

theorem val_hi (h l : Nat) (hl : l < 65536) : ((h * 65536 + l : Nat) : Int) / 65536 = ((h : Nat) : Int) := by omega
theorem val_lo (h l : Nat) (hl : l < 65536) : ((h * 65536 + l : Nat) : Int) % 65536 = ((l : Nat) : Int) := by omega
/-- Joining gives the checksum of both. -/
theorem join_val (A B : List Nat) (hA : ∀ c ∈ A, c < 256) (hB : ∀ c ∈ B, c < 256) : joinC ((valS 3 A : Nat) : Int) ((valS 3 B : Nat) : Int) ((B.length : Nat) : Int) = (((valS 3 (A ++ B) : Nat) : Int), 0) := by
  have hj : joinB ((valS 3 A : Nat) : Int) ((valS 3 B : Nat) : Int) ((B.length : Nat) : Int) = true := by
    have h1 : valS 3 A < 4294967296 := valS_lt 3 A hA (by omega)
    have h2 : valS 3 B < 4294967296 := valS_lt 3 B hB (by omega)
    exact decide_eq_true (by omega)
  rw [joinC_ok hj, val_three, val_three, val_three]
  have lA := adl_lt A (s := (1, 0)) (by decide) (by decide)
  have lB := adl_lt B (s := (1, 0)) (by decide) (by decide)
  have aA := adl_low A (s := (1, 0)) (by decide)
  have aB := adl_low B (s := (1, 0)) (by decide)
  have aAB := adl_low (A ++ B) (s := (1, 0)) (by decide)
  have bB := adl_high B (s := (1, 0)) (by decide)
  have bAB := adl_high B (s := adl (1, 0) A) lA.2
  rw [← adl_append] at bAB
  rw [sm_append] at aAB
  dsimp only at aA aB aAB bB
  generalize adl (1, 0) (A ++ B) = ab at *
  generalize adl (1, 0) A = a at *
  generalize adl (1, 0) B = b at *
  obtain ⟨a1, a2⟩ := a
  obtain ⟨b1, b2⟩ := b
  obtain ⟨c1, c2⟩ := ab
  dsimp only at *
  generalize sm A = sA at *
  generalize sm B = sB at *
  generalize wt B = wB at *
  generalize B.length = n at *
  have f1 : ((a2 * 65536 + a1 : Nat) : Int) / 65536 = ((a2 : Nat) : Int) := val_hi a2 a1 (Nat.lt_trans lA.1 (by decide))
  have f2 : ((a2 * 65536 + a1 : Nat) : Int) % 65536 = ((a1 : Nat) : Int) := val_lo a2 a1 (Nat.lt_trans lA.1 (by decide))
  have f3 : ((b2 * 65536 + b1 : Nat) : Int) / 65536 = ((b2 : Nat) : Int) := val_hi b2 b1 (Nat.lt_trans lB.1 (by decide))
  have f4 : ((b2 * 65536 + b1 : Nat) : Int) % 65536 = ((b1 : Nat) : Int) := val_lo b2 b1 (Nat.lt_trans lB.1 (by decide))
  rw [f1, f2, f3, f4]
  have hm : (((a2 : Nat) : Int) + ((b2 : Nat) : Int) + ((n : Nat) : Int) % 65521 * (((a1 : Nat) : Int) - 1)) % 65521 = (((a2 : Nat) : Int) + ((b2 : Nat) : Int) + (((n * a1 : Nat) : Int) - ((n : Nat) : Int))) % 65521 := by
    rw [Int.mul_comm (((n : Nat) : Int) % 65521), mod_prod, Int.mul_comm, Int.mul_sub, Int.mul_one, Int.natCast_mul]
  rw [hm]
  generalize n * a1 = m at *
  refine Prod.ext ?_ rfl
  show _ = _
  dsimp only
  omega
end Go.Proofs.Ytpnhiaibidecnaa
