/- The tokens of a text, as lists: what scan answers; a token is not empty. No conditions: plain facts. -/
import Derived.Test.YtgdjfifnnhfonaaJ
namespace Go.Proofs.Ytgdjfifnnhfonaa
open Go.RowKit Go.Shelf

/-- A token with its place. -/
structure TokD where
  k : Nat
  t : List UInt8
  v : Nat
  ln : Nat
  cn : Nat

def TokD.cells (d : TokD) : List Value := [.int .i64 d.k, .string (strL d.t), .int .i64 d.v, .int .i64 d.ln, .int .i64 d.cn]
def tokCells (L : List TokD) : List Value := L.flatMap TokD.cells
theorem tokCells_length (L : List TokD) : (tokCells L).length = L.length * 5 := by
  induction L with
  | nil => rfl
  | cons d L ih => simp [tokCells, TokD.cells] at ih ⊢; omega
theorem tokCells_snoc (L : List TokD) (d : TokD) : tokCells (L ++ [d]) = tokCells L ++ d.cells := by simp [tokCells]

/-- What a scan ends with: tokens and the place behind the text, or a place and an error. -/
inductive SRes where
  | ok (ts : List TokD) (q : Nat × Nat)
  | bad (q : Nat × Nat) (c : Nat)

def pre (ts : List TokD) : SRes → SRes
  | .ok us q => .ok (ts ++ us) q
  | .bad q c => .bad q c
theorem pre_nil (r : SRes) : pre [] r = r := by cases r <;> rfl
theorem pre_pre (a b : List TokD) (r : SRes) : pre a (pre b r) = pre (a ++ b) r := by cases r <;> simp [pre]

/-- What a place of the text begins with, behind blanks. -/
def scanG : Nat → List UInt8 → Nat × Nat → SRes
  | 0, _, q => .ok [] q
  | f + 1, l, q =>
    let s := spanP isBlank l
    let l1 := l.drop s
    let q1 := adv (l.take s) q
    if l1.isEmpty then .ok [] q1
    else if firstOf l1 = 35 then scanG f (l1.drop (spanP isCom l1)) (adv (l1.take (spanP isCom l1)) q1)
    else match tokR l1 with
      | .no => .ok [] q1
      | .ok k t v n => pre [⟨k, t, v, q1.1, q1.2⟩] (scanG f (l1.drop n) (adv (l1.take n) q1))
      | .bad m => .bad (adv (l1.take m) q1) (codeOf (l1.drop m))

def scanS (l : List UInt8) : SRes := scanG (l.length + 1) l (1, 1)

theorem spanP_drop (P : Nat → Bool) : ∀ l : List UInt8, spanP P (l.drop (spanP P l)) = 0
  | [] => rfl
  | b :: l => by
    by_cases hp : P b.toNat = true
    · rw [show spanP P (b :: l) = spanP P l + 1 by rw [spanP, if_pos hp]]
      exact spanP_drop P l
    · rw [show spanP P (b :: l) = 0 by rw [spanP, if_neg hp]]
      rw [List.drop_zero, spanP, if_neg hp]
theorem scanG_step (f : Nat) (l : List UInt8) (q : Nat × Nat) (h : spanP isBlank l = 0) : scanG (f + 1) l q =
    if l.isEmpty then .ok [] q
    else if firstOf l = 35 then scanG f (l.drop (spanP isCom l)) (adv (l.take (spanP isCom l)) q)
    else match tokR l with
      | .no => .ok [] q
      | .ok k t v n => pre [⟨k, t, v, q.1, q.2⟩] (scanG f (l.drop n) (adv (l.take n) q))
      | .bad m => .bad (adv (l.take m) q) (codeOf (l.drop m)) := by
  rw [scanG, h, List.drop_zero, List.take_zero]
  rfl
theorem scanG_blank (f : Nat) (l : List UInt8) (q : Nat × Nat) : scanG (f + 1) l q = scanG (f + 1) (l.drop (spanP isBlank l)) (adv (l.take (spanP isBlank l)) q) := by
  rw [scanG_step f _ _ (spanP_drop isBlank l), scanG]

theorem adv_two (l : List UInt8) : ∀ q : Nat × Nat, 1 ≤ q.2 → 1 ≤ (adv l q).2 ∧ (adv l q).2 ≤ q.2 + l.length := by
  induction l with
  | nil => intro q h; simp [adv]; exact h
  | cons b l ih =>
    intro q h
    have e : adv (b :: l) q = adv l (if b = 10 then (q.1 + 1, 1) else (q.1, q.2 + 1)) := rfl
    rw [e]
    by_cases hb : b = 10
    · rw [if_pos hb]
      have := ih (q.1 + 1, 1) (Nat.le_refl _)
      simp only [List.length_cons] at this ⊢
      omega
    · rw [if_neg hb]
      have := ih (q.1, q.2 + 1) (by simp)
      simp only [List.length_cons] at this ⊢
      omega
theorem adv_one (l : List UInt8) (q : Nat × Nat) : (adv l q).1 ≤ q.1 + l.length := (adv_bound l q).1

theorem digs_le (bv : Nat) : ∀ (l : List UInt8) (v : Nat), (digs bv l v).1 ≤ l.length
  | [], v => by simp [digs]
  | b :: l, v => by
    unfold digs
    split
    · have := digs_le bv l (v * bv + digOf b.toNat); simp; omega
    · simp

theorem firstOf_ne {l : List UInt8} {x : Nat} (h : firstOf l = x) (hx : x ≠ 0) : 1 ≤ l.length := by
  cases l with
  | nil => exact absurd h.symm hx
  | cons b l => simp

theorem numTail_n {l t : List UInt8} {n v k v' m : Nat} {t' : List UInt8} (h : numTail l n t v = .ok k t' v' m) : m = n := by
  unfold numTail at h
  split at h
  · cases h
  · cases h; rfl

theorem word_n {l t : List UInt8} {k v n : Nat} (h : wordR l = .ok k t v n) : 1 ≤ n ∧ n ≤ l.length := by
  unfold wordR at h
  split at h
  · rename_i hl
    split at h
    · cases h
    · cases h
      refine ⟨?_, Nat.le_trans (Nat.min_le_right _ _) (spanP_le _ _)⟩
      cases l with
      | nil => exact absurd hl (by decide)
      | cons b l =>
        have hw : isWrd b.toNat = true := by
          have : isLet b.toNat = true := hl
          unfold isWrd
          rw [this]
          rfl
        have : spanP isWrd (b :: l) = spanP isWrd l + 1 := by rw [spanP, if_pos hw]
        omega
  · cases h

theorem number_n {l t : List UInt8} {k v n : Nat} (h : numberR l = .ok k t v n) : 1 ≤ n ∧ n ≤ l.length := by
  unfold numberR at h
  split at h
  · rename_i hd
    split at h
    · rename_i hp
      split at h
      · cases h
      · have := numTail_n h
        have h2 := preB_two hp
        have h3 := digs_le 16 (l.drop 2) 0
        rw [List.length_drop] at h3
        omega
    · split at h
      · rename_i h48
        have := numTail_n h
        have := firstOf_ne h48 (by omega)
        omega
      · have e := numTail_n h
        have h3 := digs_le 10 l 0
        refine ⟨?_, by omega⟩
        cases l with
        | nil => exact absurd hd (by decide)
        | cons b l =>
          have hb : isDig b.toNat = true := hd
          have hb2 : 48 ≤ b.toNat ∧ b.toNat ≤ 57 := by unfold isDig at hb; simpa using hb
          have hf : fitsD 10 0 (digOf b.toNat) = true := by
            unfold fitsD digOf
            rw [if_pos hb]
            simp
            omega
          have : (digs 10 (b :: l) 0).1 = (digs 10 l (0 * 10 + digOf b.toNat)).1 + 1 := by rw [digs, if_pos hf]
          omega
  · cases h

theorem quoted_n {l t : List UInt8} {k v n : Nat} (h : quotedR l = .ok k t v n) : 1 ≤ n ∧ n ≤ l.length := by
  unfold quotedR at h
  split at h
  · split at h
    · rename_i h34
      cases h
      have := firstOf_ne h34 (by omega)
      rw [List.length_drop] at this
      omega
    · cases h
  · cases h

theorem sym_n {l t : List UInt8} {k v n : Nat} (h : symR l = .ok k t v n) : 1 ≤ n ∧ n ≤ l.length := by
  unfold symR at h
  split at h
  · rename_i hp
    cases h
    rw [Bool.or_eq_true] at hp
    rcases hp with hp | hp <;> (have := preB_two hp; omega)
  · split at h
    · cases h
    · rename_i hs
      cases h
      refine ⟨Nat.le_refl _, ?_⟩
      cases l with
      | nil => exact absurd (by decide) hs
      | cons b l => simp

theorem tok_n {l t : List UInt8} {k v n : Nat} (h : tokR l = .ok k t v n) : 1 ≤ n ∧ n ≤ l.length := by
  unfold tokR at h
  cases h1 : wordR l with
  | ok a b c d => rw [h1] at h; rw [firstR] at h; · rw [h] at h1; exact word_n h1
                  · simp
  | bad m => rw [h1] at h; rw [firstR] at h; · cases h
             · simp
  | no =>
    rw [h1] at h
    rw [firstR] at h
    cases h2 : numberR l with
    | ok a b c d => rw [h2] at h; rw [firstR] at h; · rw [h] at h2; exact number_n h2
                    · simp
    | bad m => rw [h2] at h; rw [firstR] at h; · cases h
               · simp
    | no =>
      rw [h2] at h
      rw [firstR] at h
      cases h3 : quotedR l with
      | ok a b c d => rw [h3] at h; rw [firstR] at h; · rw [h] at h3; exact quoted_n h3
                      · simp
      | bad m => rw [h3] at h; rw [firstR] at h; · cases h
                 · simp
      | no =>
        rw [h3] at h
        rw [firstR] at h
        cases h4 : symR l with
        | ok a b c d => rw [h4] at h; rw [firstR] at h; · rw [h] at h4; exact sym_n h4
                        · simp
        | bad m => rw [h4] at h; rw [firstR] at h; · cases h
                   · simp
        | no =>
          rw [h4] at h
          rw [firstR] at h
          cases h
theorem firstR_no : ∀ rs : List TRes, firstR rs ≠ .no
  | [] => by simp [firstR]
  | r :: rs => by
    cases r with
    | no => exact firstR_no rs
    | ok k t v n => simp [firstR]
    | bad m => simp [firstR]
theorem tok_no (l : List UInt8) : tokR l ≠ .no := firstR_no _

/-- A comment is not empty. -/
theorem com_n {l : List UInt8} (h : firstOf l = 35) : 1 ≤ spanP isCom l := by
  cases l with
  | nil => exact absurd h (by decide)
  | cons b l =>
    have hb : b.toNat = 35 := h
    rw [spanP, if_pos (by rw [hb]; decide)]
    omega
end Go.Proofs.Ytgdjfifnnhfonaa
