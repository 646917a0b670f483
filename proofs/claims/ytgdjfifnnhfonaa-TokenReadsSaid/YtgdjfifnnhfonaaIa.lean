/- Plain facts on the first token of a text: it is the same with other bytes behind it, where these can't be part of it; what stands ahead of a wrong byte. -/
import Derived.Test.YtgdjfifnnhfonaaRg
namespace Go.Proofs.Ytgdjfifnnhfonaa
open Go.RowKit Go.Shelf

theorem spanP_mem (P : Nat → Bool) : ∀ (l : List UInt8) (b : UInt8), b ∈ l.take (spanP P l) → P b.toNat = true
  | [], b, h => by simp at h
  | c :: l, b, h => by
    by_cases hc : P c.toNat = true
    · rw [spanP_cons_yes hc, List.take_succ_cons] at h
      rcases List.mem_cons.1 h with rfl | h
      · exact hc
      · exact spanP_mem P l b h
    · rw [spanP_cons_no (by simpa using hc)] at h
      simp at h
theorem spanP_end (P : Nat → Bool) : ∀ l : List UInt8, spanP P l < l.length → P (firstOf (l.drop (spanP P l))) = false
  | [], h => by simp at h
  | c :: l, h => by
    by_cases hc : P c.toNat = true
    · rw [spanP_cons_yes hc] at h ⊢
      exact spanP_end P l (by simpa using h)
    · rw [spanP_cons_no (by simpa using hc)]
      simpa [firstOf] using hc
theorem spanP_app (P : Nat → Bool) (r : List UInt8) (hr : r = [] ∨ P (firstOf r) = false) : ∀ x : List UInt8, (∀ b ∈ x, P b.toNat = true) → spanP P (x ++ r) = x.length
  | [], _ => by
    rcases hr with rfl | h
    · rfl
    · cases r with
      | nil => rfl
      | cons b r => exact spanP_cons_no h
  | b :: x, h => by
    rw [List.cons_append, spanP_cons_yes (h b List.mem_cons_self), spanP_app P r hr x (fun c hc => h c (List.mem_cons_of_mem _ hc))]
    rfl

theorem mem_take_le {l : List UInt8} {n m : Nat} (h : n ≤ m) {b : UInt8} (hb : b ∈ l.take n) : b ∈ l.take m := by
  have e : l.take n = (l.take m).take n := by rw [List.take_take, Nat.min_eq_left h]
  rw [e] at hb
  exact List.mem_of_mem_take hb
theorem firstOf_app (x r : List UInt8) (h : 1 ≤ x.length) : firstOf (x ++ r) = firstOf x := by
  cases x with
  | nil => simp at h
  | cons b x => rfl
theorem firstOf_take (l : List UInt8) (n : Nat) (h : 1 ≤ n) : firstOf (l.take n) = firstOf l := by
  cases l with
  | nil => simp
  | cons b l =>
    obtain ⟨m, rfl⟩ : ∃ m, n = m + 1 := ⟨n - 1, by omega⟩
    rfl

theorem wordR_no (l : List UInt8) (h : isLet (firstOf l) = false) : wordR l = .no := by unfold wordR; rw [if_neg (by rw [h]; decide)]
theorem wordR_yes (l : List UInt8) (h : isLet (firstOf l) = true) : wordR l ≠ .no := by
  unfold wordR
  rw [if_pos h]
  split <;> simp
theorem numTail_yes (l : List UInt8) (n : Nat) (t : List UInt8) (v : Nat) : numTail l n t v ≠ .no := by unfold numTail; split <;> simp
theorem numberR_no (l : List UInt8) (h : isDig (firstOf l) = false) : numberR l = .no := by unfold numberR; rw [if_neg (by rw [h]; decide)]
theorem numberR_yes (l : List UInt8) (h : isDig (firstOf l) = true) : numberR l ≠ .no := by
  unfold numberR
  rw [if_pos h]
  split
  · split
    · simp
    · exact numTail_yes _ _ _ _
  · split <;> exact numTail_yes _ _ _ _
theorem quotedR_no (l : List UInt8) (h : firstOf l ≠ 34) : quotedR l = .no := by unfold quotedR; rw [if_neg h]
theorem quotedR_yes (l : List UInt8) (h : firstOf l = 34) : quotedR l ≠ .no := by
  unfold quotedR
  rw [if_pos h]
  split <;> simp

/-- Which kind the first byte tells. -/
theorem tokR_let (l : List UInt8) (h : isLet (firstOf l) = true) : tokR l = wordR l := firstR_cons _ _ (wordR_yes l h)
theorem tokR_dig (l : List UInt8) (h : isLet (firstOf l) = false) (h2 : isDig (firstOf l) = true) : tokR l = numberR l := by
  unfold tokR
  rw [wordR_no l h]
  exact firstR_cons _ _ (numberR_yes l h2)
theorem tokR_quo (l : List UInt8) (h : firstOf l = 34) : tokR l = quotedR l := by
  unfold tokR
  rw [wordR_no l (by rw [h]; rfl), numberR_no l (by rw [h]; rfl)]
  exact firstR_cons _ _ (quotedR_yes l h)
theorem tokR_sym (l : List UInt8) (h : isLet (firstOf l) = false) (h2 : isDig (firstOf l) = false) (h3 : firstOf l ≠ 34) : tokR l = firstR [symR l] := by
  unfold tokR
  rw [wordR_no l h, numberR_no l h2, quotedR_no l h3]
  rfl

theorem digOf_no {n : Nat} (h : isWrd n = false) : digOf n = 16 := by
  have h1 := digOf_le n
  by_cases h2 : digOf n < 16
  · rw [wrd_of_hex n h2] at h; cases h
  · omega
theorem digs_stop (bv : Nat) (hb : bv ≤ 16) (r : List UInt8) (v : Nat) (h : isWrd (firstOf r) = false) : digs bv r v = (0, v) := by
  cases r with
  | nil => rfl
  | cons b r =>
    have h2 : digOf b.toNat = 16 := digOf_no h
    unfold digs
    rw [if_neg]
    rw [h2]
    unfold fitsD
    simp only [Bool.and_eq_true, decide_eq_true_eq]
    omega
theorem digs_app (bv : Nat) (hb : bv ≤ 16) (r : List UInt8) (h : isWrd (firstOf r) = false) : ∀ (l : List UInt8) (v : Nat), digs bv (l.take (digs bv l v).1 ++ r) v = digs bv l v
  | [], v => by simp only [List.take_nil, List.nil_append]; exact digs_stop bv hb r v h
  | b :: l, v => by
    by_cases hf : fitsD bv v (digOf b.toNat) = true
    · have e : digs bv (b :: l) v = ((digs bv l (v * bv + digOf b.toNat)).1 + 1, (digs bv l (v * bv + digOf b.toNat)).2) := by rw [digs, if_pos hf]
      rw [e]
      simp only [List.take_succ_cons, List.cons_append]
      rw [digs, if_pos hf, digs_app bv hb r h l]
    · have e : digs bv (b :: l) v = (0, v) := by rw [digs, if_neg hf]
      rw [e]
      simp only [List.take_zero, List.nil_append]
      exact digs_stop bv hb r v h

theorem preB_app2 (a b : UInt8) (l x r : List UInt8) (hx : 2 ≤ x.length) (h : l.take x.length = x) : preB [a, b] (x ++ r) = preB [a, b] l := by
  match x, hx with
  | c :: d :: x, _ =>
    have hl : ∃ y, l = c :: d :: y := by
      match l, h with
      | [], h => simp at h
      | [e], h => simp at h
      | e :: f :: y, h =>
        simp only [List.length_cons, List.take_succ_cons, List.cons.injEq] at h
        exact ⟨y, by rw [h.1, h.2.1]⟩
    obtain ⟨y, rfl⟩ := hl
    rw [Bool.eq_iff_iff, preB_iff, preB_iff]
    constructor
    · rintro ⟨z, hz⟩
      simp only [List.cons_append, List.cons.injEq] at hz
      exact ⟨y, by rw [hz.1, hz.2.1]⟩
    · rintro ⟨z, hz⟩
      simp only [List.cons.injEq] at hz
      exact ⟨x ++ r, by rw [hz.1, hz.2.1]; rfl⟩
theorem preB_one (a b c : UInt8) (r : List UInt8) : preB [a, b] (c :: r) = true ↔ c = a ∧ ∃ y, r = b :: y := by
  rw [preB_iff]
  constructor
  · rintro ⟨y, h⟩
    simp only [List.cons.injEq] at h
    exact ⟨h.1, y, h.2⟩
  · rintro ⟨rfl, y, rfl⟩
    exact ⟨y, rfl⟩
theorem firstOf_cons (b : UInt8) (l : List UInt8) : firstOf (b :: l) = b.toNat := rfl
theorem isWrd_of_let {n : Nat} (h : isLet n = true) : isWrd n = true := by unfold isWrd; rw [h]; rfl
theorem isWrd_of_dig {n : Nat} (h : isDig n = true) : isWrd n = true := by unfold isWrd; rw [h]; simp
theorem isWrd_space : isWrd 32 = false := by decide
theorem isWrd_zero : isWrd 0 = false := by decide

/-- What may stand behind a token of l of n bytes. -/
def Behind (l : List UInt8) (n : Nat) (r : List UInt8) : Prop := firstOf r = 0 ∨ firstOf r = 32 ∨ firstOf r = firstOf (l.drop n)
theorem Behind.wrd {l r : List UInt8} {n : Nat} (h : Behind l n r) (hw : isWrd (firstOf (l.drop n)) = false) : isWrd (firstOf r) = false := by
  rcases h with h | h | h <;> rw [h]
  · exact isWrd_zero
  · exact isWrd_space
  · exact hw
theorem Behind.ne {l r : List UInt8} {n c : Nat} (h : Behind l n r) (h0 : c ≠ 0) (h32 : c ≠ 32) (hn : firstOf (l.drop n) ≠ c) : firstOf r ≠ c := by
  rcases h with h | h | h <;> rw [h]
  · exact fun e => h0 e.symm
  · exact fun e => h32 e.symm
  · exact hn

theorem drop_take_app (l r : List UInt8) (n : Nat) (h : n ≤ l.length) : (l.take n ++ r).drop n = r ∧ (l.take n ++ r).take n = l.take n := by
  have hl : (l.take n).length = n := by rw [List.length_take]; omega
  constructor
  · rw [List.drop_append_of_le_length (by omega), List.drop_of_length_le (by omega), List.nil_append]
  · rw [List.take_append_of_le_length (by omega), List.take_of_length_le (by omega)]

theorem word_ext {l : List UInt8} {k v n : Nat} {t r : List UInt8} (h : wordR l = .ok k t v n) (hr : Behind l n r) : wordR (l.take n ++ r) = .ok k t v n ∧ l.take n = wholeOf k t := by
  have hn := word_n h
  unfold wordR at h
  split at h
  · rename_i hl
    split at h
    · cases h
    · rename_i hw
      obtain ⟨m, hm⟩ : ∃ m, min 32 (spanP isWrd l) = m := ⟨_, rfl⟩
      rw [hm] at h hw
      cases h
      have hw' : isWrd (firstOf (l.drop n)) = false := by simpa using hw
      have hr' := hr.wrd hw'
      obtain ⟨hd, ht⟩ := drop_take_app l r n hn.2
      have hsp : spanP isWrd (l.take n ++ r) = n := by
        rw [spanP_app isWrd r (.inr hr') (l.take n) (fun b hb => spanP_mem isWrd l b (mem_take_le (by omega) hb))]
        rw [List.length_take]; omega
      refine ⟨?_, ?_⟩
      · unfold wordR
        rw [firstOf_app _ _ (by rw [List.length_take]; omega), firstOf_take _ _ hn.1, if_pos hl, hsp, show min 32 n = n by omega, hd, ht, if_neg (by rw [hr']; decide)]
      · unfold wholeOf; rw [if_neg (by decide)]
  · cases h

theorem numTail_ok {l : List UInt8} {n : Nat} {t : List UInt8} {v k' v' n' : Nat} {t' : List UInt8} (h : numTail l n t v = .ok k' t' v' n') : isWrd (firstOf (l.drop n)) = false ∧ k' = 2 ∧ t' = t ∧ v' = v ∧ n' = n := by
  unfold numTail at h
  split at h
  · cases h
  · rename_i hw
    cases h
    exact ⟨by simpa using hw, rfl, rfl, rfl, rfl⟩

theorem digs_pos (l : List UInt8) (h : isDig (firstOf l) = true) : 1 ≤ (digs 10 l 0).1 := by
  cases l with
  | nil => exact absurd h (by decide)
  | cons b l =>
    have hb : isDig b.toNat = true := h
    have hb2 : 48 ≤ b.toNat ∧ b.toNat ≤ 57 := by unfold isDig at hb; simpa using hb
    have hf : fitsD 10 0 (digOf b.toNat) = true := by
      unfold fitsD digOf
      rw [if_pos hb]
      simp
      omega
    have : (digs 10 (b :: l) 0).1 = (digs 10 l (0 * 10 + digOf b.toNat)).1 + 1 := by rw [digs, if_pos hf]
    omega

theorem number_core (l : List UInt8) (hdg : isDig (firstOf l) = true) :
    (numberR l = .bad 2 ∧ 2 ≤ l.length ∧ l.take 2 = [48, 120]) ∨
    ∃ n v, 1 ≤ n ∧ n ≤ l.length ∧ numberR l = numTail l n (l.take n) v ∧ ∀ r, isWrd (firstOf r) = false → numberR (l.take n ++ r) = .ok 2 (l.take n) v n := by
  cases hp : preB [48, 120] l with
  | true =>
    have hp2 := preB_two hp
    by_cases hne : (digs 16 (l.drop 2) 0).1 = 0
    · refine .inl ⟨?_, hp2, ?_⟩
      · unfold numberR
        rw [if_pos hdg, if_pos hp, if_pos hne]
      · obtain ⟨y, rfl⟩ := (preB_iff _ _ _).1 hp
        rfl
    · obtain ⟨m, hm⟩ : ∃ m, (digs 16 (l.drop 2) 0).1 = m := ⟨_, rfl⟩
      have h3 := digs_le 16 (l.drop 2) 0
      rw [List.length_drop, hm] at h3
      rw [hm] at hne
      refine .inr ⟨2 + m, (digs 16 (l.drop 2) 0).2, by omega, by omega, ?_, ?_⟩
      · unfold numberR
        rw [if_pos hdg, if_pos hp, hm, if_neg hne]
      · intro r hr'
        obtain ⟨hd, ht⟩ := drop_take_app l r (2 + m) (by omega)
        have hf : firstOf (l.take (2 + m) ++ r) = firstOf l := by rw [firstOf_app _ _ (by rw [List.length_take]; omega), firstOf_take _ _ (by omega)]
        have hd2 : (l.take (2 + m) ++ r).drop 2 = (l.drop 2).take m ++ r := by
          rw [List.drop_append_of_le_length (by rw [List.length_take]; omega), List.drop_take]
          congr 2; omega
        have hdig : digs 16 ((l.drop 2).take m ++ r) 0 = digs 16 (l.drop 2) 0 := by
          have := digs_app 16 (Nat.le_refl _) r hr' (l.drop 2) 0
          rw [hm] at this
          exact this
        unfold numberR
        rw [hf, if_pos hdg, preB_app2 48 120 l (l.take (2 + m)) r (by rw [List.length_take]; omega) (by rw [List.length_take, show min (2 + m) l.length = 2 + m by omega]), if_pos hp, hd2, hdig, hm, if_neg hne, ht]
        unfold numTail
        rw [hd, if_neg (by rw [hr']; decide)]
  | false =>
    have hl1 : 1 ≤ l.length := by
      cases l with
      | nil => exact absurd hdg (by decide)
      | cons b l => simp
    by_cases h48 : firstOf l = 48
    · refine .inr ⟨1, 0, by omega, hl1, ?_, ?_⟩
      · unfold numberR
        rw [if_pos hdg, hp, if_neg (by decide), if_pos h48]
      · intro r hr'
        obtain ⟨hd, ht⟩ := drop_take_app l r 1 hl1
        have hf : firstOf (l.take 1 ++ r) = firstOf l := by rw [firstOf_app _ _ (by rw [List.length_take]; omega), firstOf_take _ _ (by omega)]
        have hp' : preB [48, 120] (l.take 1 ++ r) = false := by
          rw [Bool.eq_false_iff]
          intro hx
          match l, hl1 with
          | b :: l, _ =>
            have := (preB_one 48 120 b r).1 hx
            obtain ⟨_, y, rfl⟩ := this
            exact absurd hr' (show ¬ isWrd 120 = false by decide)
        unfold numberR
        rw [hf, if_pos hdg, hp', if_neg (by decide), if_pos h48, ht]
        unfold numTail
        rw [hd, if_neg (by rw [hr']; decide)]
    · obtain ⟨m, hm⟩ : ∃ m, (digs 10 l 0).1 = m := ⟨_, rfl⟩
      have h1 := digs_pos l hdg
      have h2 := digs_le 10 l 0
      rw [hm] at h1 h2
      refine .inr ⟨m, (digs 10 l 0).2, h1, h2, ?_, ?_⟩
      · unfold numberR
        rw [if_pos hdg, hp, if_neg (by decide), if_neg h48, hm]
      · intro r hr'
        obtain ⟨hd, ht⟩ := drop_take_app l r m h2
        have hf : firstOf (l.take m ++ r) = firstOf l := by rw [firstOf_app _ _ (by rw [List.length_take]; omega), firstOf_take _ _ (by omega)]
        have hdig : digs 10 (l.take m ++ r) 0 = digs 10 l 0 := by
          have := digs_app 10 (by omega) r hr' l 0
          rw [hm] at this
          exact this
        have hp' : preB [48, 120] (l.take m ++ r) = false := by
          rw [Bool.eq_false_iff]
          intro hx
          obtain ⟨y, hy⟩ := (preB_iff 48 120 _).1 hx
          rw [hy] at hf
          exact h48 hf.symm
        unfold numberR
        rw [hf, if_pos hdg, hp', if_neg (by decide), if_neg h48, hdig, hm, ht]
        unfold numTail
        rw [hd, if_neg (by rw [hr']; decide)]

theorem number_ext {l : List UInt8} {k v n : Nat} {t r : List UInt8} (h : numberR l = .ok k t v n) (hr : Behind l n r) : numberR (l.take n ++ r) = .ok k t v n ∧ l.take n = wholeOf k t := by
  cases hdg : isDig (firstOf l) with
  | false => rw [numberR_no l hdg] at h; cases h
  | true =>
    rcases number_core l hdg with ⟨hb, _⟩ | ⟨m, u, _, _, hn, hc⟩
    · rw [hb] at h; cases h
    · rw [hn] at h
      obtain ⟨hw, rfl, rfl, rfl, rfl⟩ := numTail_ok h
      exact ⟨hc r (hr.wrd hw), by unfold wholeOf; rw [if_neg (by decide)]⟩

theorem isQ_34 : isQ 34 = false := by decide
theorem quoted_ext {l : List UInt8} {k v n : Nat} {t r : List UInt8} (h : quotedR l = .ok k t v n) : quotedR (l.take n ++ r) = .ok k t v n ∧ l.take n = wholeOf k t := by
  have hn := quoted_n h
  unfold quotedR at h
  split at h
  · rename_i h34
    split at h
    · rename_i he
      obtain ⟨m, hm⟩ : ∃ m, spanP isQ (l.drop 1) = m := ⟨_, rfl⟩
      rw [hm] at h he
      cases h
      have hlen := hn.2
      have hall : ∀ b ∈ (l.drop 1).take m, isQ b.toNat = true := fun b hb => spanP_mem isQ (l.drop 1) b (by rw [hm]; exact hb)
      have hl : l.take (m + 2) = 34 :: (l.drop 1).take m ++ [34] := by
        match l, hn with
        | b :: l, _ =>
          have hb : b = 34 := u8_eq h34 34 rfl
          have hlm : m < l.length := by simp at hlen; omega
          have hc : l[m] = 34 := by
            have : firstOf ((b :: l).drop (1 + m)) = 34 := he
            rw [Nat.add_comm, List.drop_succ_cons, firstOf_at l m hlm] at this
            exact u8_eq this 34 rfl
          rw [List.take_succ_cons, List.drop_succ_cons, List.drop_zero, List.take_succ_eq_append_getElem hlm, hc, hb]
          rfl
      refine ⟨?_, by unfold wholeOf; rw [if_pos (by decide), hl]⟩
      have hcat : l.take (m + 2) ++ r = 34 :: ((l.drop 1).take m ++ (34 :: r)) := by rw [hl]; simp
      have hlm : ((l.drop 1).take m).length = m := by rw [List.length_take, List.length_drop]; omega
      rw [hcat]
      generalize (l.drop 1).take m = x at hall hlm
      have hsp : spanP isQ (x ++ 34 :: r) = m := by rw [spanP_app isQ (34 :: r) (.inr isQ_34) x hall, hlm]
      unfold quotedR
      rw [if_pos (show firstOf (34 :: _) = 34 from rfl), List.drop_succ_cons, List.drop_zero, hsp, Nat.add_comm 1 m, List.drop_succ_cons, List.drop_append_of_le_length (by omega), List.drop_of_length_le (by omega), List.nil_append, if_pos (show firstOf (34 :: r) = 34 from rfl), List.take_append_of_le_length (by omega), List.take_of_length_le (by omega)]
    · cases h
  · cases h

theorem sym_ext {l : List UInt8} {k v n : Nat} {t r : List UInt8} (h : symR l = .ok k t v n) (hr : Behind l n r) : symR (l.take n ++ r) = .ok k t v n ∧ l.take n = wholeOf k t := by
  have hn := sym_n h
  have hf : firstOf (l.take n ++ r) = firstOf l := by rw [firstOf_app _ _ (by rw [List.length_take]; omega), firstOf_take _ _ hn.1]
  obtain ⟨hd, ht⟩ := drop_take_app l r n hn.2
  unfold symR at h
  split at h
  · rename_i hp
    cases h
    refine ⟨?_, by unfold wholeOf; rw [if_neg (by decide)]⟩
    unfold symR
    have h2 : 2 ≤ l.length := hn.2
    rw [preB_app2 46 46 l (l.take 2) r (by rw [List.length_take]; omega) (by rw [List.length_take, show min 2 l.length = 2 by omega]), preB_app2 45 62 l (l.take 2) r (by rw [List.length_take]; omega) (by rw [List.length_take, show min 2 l.length = 2 by omega]), if_pos hp, ht]
  · rename_i hp
    split at h
    · cases h
    · rename_i hs
      cases h
      refine ⟨?_, by unfold wholeOf; rw [if_neg (by decide)]⟩
      match l, hn with
      | b :: l, _ =>
        have hn1 : preB [46, 46] (b :: r) = false := by
          rw [Bool.eq_false_iff]
          intro hx
          obtain ⟨rfl, y, rfl⟩ := (preB_one _ _ _ _).1 hx
          refine hr.ne (c := 46) (by decide) (by decide) ?_ rfl
          intro he
          apply hp
          match l, he with
          | c :: l, he =>
            have : c = 46 := u8_eq he 46 rfl
            subst this
            rw [Bool.or_eq_true]
            exact .inl ((preB_iff _ _ _).2 ⟨l, rfl⟩)
        have hn2 : preB [45, 62] (b :: r) = false := by
          rw [Bool.eq_false_iff]
          intro hx
          obtain ⟨rfl, y, rfl⟩ := (preB_one _ _ _ _).1 hx
          refine hr.ne (c := 62) (by decide) (by decide) ?_ rfl
          intro he
          apply hp
          match l, he with
          | c :: l, he =>
            have : c = 62 := u8_eq he 62 rfl
            subst this
            rw [Bool.or_eq_true]
            exact .inr ((preB_iff _ _ _).2 ⟨l, rfl⟩)
        change symR (b :: r) = _
        unfold symR
        rw [hn1, hn2, if_neg (by decide)]
        have : firstOf (b :: r) = firstOf (b :: l) := rfl
        rw [this, if_neg hs]
        rfl

/-- A token is the same with other bytes behind it. -/
theorem tok_ext {l : List UInt8} {k v n : Nat} {t r : List UInt8} (h : tokR l = .ok k t v n) (hr : Behind l n r) : tokR (l.take n ++ r) = .ok k t v n ∧ l.take n = wholeOf k t := by
  have hn := tok_n h
  have hf : firstOf (l.take n ++ r) = firstOf l := by rw [firstOf_app _ _ (by rw [List.length_take]; omega), firstOf_take _ _ hn.1]
  cases h1 : isLet (firstOf l) with
  | true =>
    rw [tokR_let l h1] at h
    obtain ⟨a, b⟩ := word_ext h hr
    exact ⟨by rw [tokR_let _ (by rw [hf]; exact h1)]; exact a, b⟩
  | false =>
    cases h2 : isDig (firstOf l) with
    | true =>
      rw [tokR_dig l h1 h2] at h
      obtain ⟨a, b⟩ := number_ext h hr
      exact ⟨by rw [tokR_dig _ (by rw [hf]; exact h1) (by rw [hf]; exact h2)]; exact a, b⟩
    | false =>
      by_cases h3 : firstOf l = 34
      · rw [tokR_quo l h3] at h
        obtain ⟨a, b⟩ := quoted_ext (r := r) h
        exact ⟨by rw [tokR_quo _ (by rw [hf]; exact h3)]; exact a, b⟩
      · rw [tokR_sym l h1 h2 h3] at h
        have hs : symR l = .ok k t v n := by
          cases hs : symR l with
          | no => rw [hs] at h; cases h
          | bad m => rw [hs] at h; cases h
          | ok a b c d => rw [hs] at h; exact h
        obtain ⟨a, b⟩ := sym_ext hs hr
        refine ⟨?_, b⟩
        rw [tokR_sym _ (by rw [hf]; exact h1) (by rw [hf]; exact h2) (by rw [hf]; exact h3), a]
        rfl
end Go.Proofs.Ytgdjfifnnhfonaa
