/- Plain facts: what stands ahead of the first wrong byte; the tokens of a text, joined with blanks and comments between them. -/
import Derived.Test.YtgdjfifnnhfonaaIa
namespace Go.Proofs.Ytgdjfifnnhfonaa
open Go.RowKit Go.Shelf

theorem word_bad {l : List UInt8} {m : Nat} (h : wordR l = .bad m) : 1 ≤ m ∧ m ≤ l.length ∧ wordR (l.take m) = .ok 1 (l.take m) 0 m := by
  unfold wordR at h
  split at h
  · rename_i hl
    split at h
    · rename_i hw
      obtain ⟨n, hn⟩ : ∃ n, min 32 (spanP isWrd l) = n := ⟨_, rfl⟩
      rw [hn] at h hw
      obtain rfl : n = m := by injection h
      have h1 : 1 ≤ n := by
        cases l with
        | nil => exact absurd hl (by decide)
        | cons b l =>
          have : spanP isWrd (b :: l) = spanP isWrd l + 1 := spanP_cons_yes (isWrd_of_let hl)
          omega
      have h2 := spanP_le isWrd l
      have hsp : spanP isWrd (l.take n) = n := by
        have := spanP_app isWrd [] (.inl rfl) (l.take n) (fun b hb => spanP_mem isWrd l b (mem_take_le (by omega) hb))
        rw [List.append_nil, List.length_take] at this
        omega
      refine ⟨h1, by omega, ?_⟩
      unfold wordR
      rw [firstOf_take _ _ h1, if_pos hl, hsp, show min 32 n = n by omega, List.drop_of_length_le (by rw [List.length_take]; omega), if_neg (by decide), List.take_take, Nat.min_self]
    · cases h
  · cases h

theorem number_bad {l : List UInt8} {m : Nat} (h : numberR l = .bad m) : 1 ≤ m ∧ m ≤ l.length ∧ (numberR (l.take m) = .bad m ∨ ∃ v, numberR (l.take m) = .ok 2 (l.take m) v m) := by
  cases hdg : isDig (firstOf l) with
  | false => rw [numberR_no l hdg] at h; cases h
  | true =>
    rcases number_core l hdg with ⟨hb, h2, ht⟩ | ⟨n, u, h1, h2, hn, hc⟩
    · rw [hb] at h
      cases h
      refine ⟨by omega, h2, .inl ?_⟩
      rw [ht]; rfl
    · rw [hn] at h
      unfold numTail at h
      split at h
      · cases h
        have := hc [] isWrd_zero
        rw [List.append_nil] at this
        exact ⟨h1, h2, .inr ⟨u, this⟩⟩
      · cases h

theorem quoted_bad {l : List UInt8} {m : Nat} (h : quotedR l = .bad m) : 1 ≤ m ∧ m ≤ l.length ∧ quotedR (l.take m) = .bad m := by
  unfold quotedR at h
  split at h
  · rename_i h34
    split at h
    · cases h
    · rename_i he
      obtain ⟨n, hn⟩ : ∃ n, spanP isQ (l.drop 1) = n := ⟨_, rfl⟩
      rw [hn] at h he
      cases h
      have h1 := firstOf_ne h34 (by omega)
      have h2 := spanP_le isQ (l.drop 1)
      rw [List.length_drop, hn] at h2
      have hall : ∀ b ∈ (l.drop 1).take n, isQ b.toNat = true := fun b hb => spanP_mem isQ (l.drop 1) b (by rw [hn]; exact hb)
      refine ⟨by omega, by omega, ?_⟩
      match l, h1 with
      | b :: l, _ =>
        have hb : b = 34 := u8_eq h34 34 rfl
        subst hb
        rw [Nat.add_comm 1 n, List.take_succ_cons]
        simp only [List.drop_succ_cons, List.drop_zero, List.length_cons] at hall h2
        have hl : (l.take n).length = n := by rw [List.length_take]; omega
        generalize l.take n = x at hall hl
        have hsp : spanP isQ x = n := by
          have := spanP_app isQ [] (.inl rfl) x hall
          rw [List.append_nil] at this
          omega
        unfold quotedR
        rw [if_pos (show firstOf (34 :: _) = 34 from rfl), List.drop_succ_cons, List.drop_zero, hsp, Nat.add_comm 1 n, List.drop_succ_cons, List.drop_of_length_le (by omega), if_neg (by decide)]
  · cases h

/-- What stands ahead of a wrong byte is a token, or the beginning of one. -/
theorem tok_bad {l : List UInt8} {m : Nat} (h : tokR l = .bad m) : m ≤ l.length ∧ (m = 0 ∨ tokR (l.take m) = .bad m ∨ ∃ k t v, tokR (l.take m) = .ok k t v m) := by
  cases h1 : isLet (firstOf l) with
  | true =>
    rw [tokR_let l h1] at h
    obtain ⟨a, b, c⟩ := word_bad h
    exact ⟨b, .inr (.inr ⟨_, _, _, by rw [tokR_let _ (by rw [firstOf_take _ _ a]; exact h1)]; exact c⟩)⟩
  | false =>
    cases h2 : isDig (firstOf l) with
    | true =>
      rw [tokR_dig l h1 h2] at h
      obtain ⟨a, b, c⟩ := number_bad h
      have e : tokR (l.take m) = numberR (l.take m) := tokR_dig _ (by rw [firstOf_take _ _ a]; exact h1) (by rw [firstOf_take _ _ a]; exact h2)
      rw [e]
      refine ⟨b, .inr ?_⟩
      rcases c with c | ⟨v, c⟩
      · exact .inl c
      · exact .inr ⟨_, _, _, c⟩
    | false =>
      by_cases h3 : firstOf l = 34
      · rw [tokR_quo l h3] at h
        obtain ⟨a, b, c⟩ := quoted_bad h
        exact ⟨b, .inr (.inl (by rw [tokR_quo _ (by rw [firstOf_take _ _ a]; exact h3)]; exact c))⟩
      · rw [tokR_sym l h1 h2 h3] at h
        have hs : m = 0 := by
          cases hs : symR l with
          | no => rw [hs] at h; simp [firstR] at h; exact h.symm
          | bad n =>
            unfold symR at hs
            split at hs
            · cases hs
            · split at hs <;> cases hs
          | ok a b c d => rw [hs] at h; cases h
        exact ⟨by omega, .inl hs⟩

theorem spanP_take (P : Nat → Bool) (l : List UInt8) (j : Nat) : spanP P (l.take (spanP P l + j)) = spanP P l := by
  have h : l.take (spanP P l + j) = l.take (spanP P l) ++ (l.drop (spanP P l)).take j := by rw [List.take_add]
  have hl := spanP_le P l
  rw [h, spanP_app P _ ?_ _ (fun b hb => spanP_mem P l b hb), List.length_take]
  · omega
  · by_cases hj : j = 0
    · subst hj; exact .inl rfl
    · by_cases hlt : spanP P l < l.length
      · refine .inr ?_
        rw [firstOf_take _ _ (by omega)]
        exact spanP_end P l hlt
      · refine .inl ?_
        rw [List.drop_of_length_le (by omega)]; simp

theorem codeOf_nil : codeOf [] = 4 := rfl
theorem codeOf_cons {l : List UInt8} (h : 1 ≤ l.length) : codeOf l = 6 := by
  cases l with
  | nil => simp at h
  | cons b l => rfl

/-- Where the first wrong byte stands, and what a scan of what stands ahead of it says. -/
structure Cut (l : List UInt8) (q q' : Nat × Nat) (c m : Nat) : Prop where
  le : m ≤ l.length
  at' : q' = adv (l.take m) q
  code : c = codeOf (l.drop m)
  ahead : (∃ ts q2, scanT (l.take m) q = .ok ts q2) ∨ scanT (l.take m) q = .bad q' 4

theorem pre_ok (ts : List TokD) {r : SRes} {us : List TokD} {q : Nat × Nat} (h : r = .ok us q) : pre ts r = .ok (ts ++ us) q := by rw [h]; rfl

theorem adv_cons (b : UInt8) (l : List UInt8) (q : Nat × Nat) : adv (b :: l) q = adv l (adv [b] q) := rfl

theorem cut_of : ∀ (N : Nat) (l : List UInt8) (q q' : Nat × Nat) (c : Nat), l.length ≤ N → scanT l q = .bad q' c → ∃ m, Cut l q q' c m := by
  intro N
  induction N with
  | zero =>
    intro l q q' c hl h
    have : l = [] := List.length_eq_zero_iff.1 (by omega)
    subst this
    cases h
  | succ N ih =>
    intro l q q' c hl h
    match l, hl, h with
    | [], _, h => cases h
    | b :: l, hl, h =>
      simp only [List.length_cons] at hl
      cases hb : isBlank b.toNat with
      | true =>
        rw [scanT_blank b l q hb] at h
        obtain ⟨m, hm⟩ := ih l _ _ _ (by omega) h
        refine ⟨m + 1, by simp; exact hm.le, ?_, ?_, ?_⟩
        · rw [List.take_succ_cons, adv_cons]; exact hm.at'
        · rw [List.drop_succ_cons]; exact hm.code
        · rw [List.take_succ_cons, scanT_blank b _ q hb]; exact hm.ahead
      | false =>
        by_cases h35 : b.toNat = 35
        · have hf : firstOf (b :: l) = 35 := h35
          have hc := com_n hf
          rw [scanT_com _ _ hf] at h
          obtain ⟨n, hn⟩ : ∃ n, spanP isCom (b :: l) = n := ⟨_, rfl⟩
          have hle := spanP_le isCom (b :: l)
          rw [hn] at h hc hle
          simp only [List.length_cons] at hle
          obtain ⟨m, hm⟩ := ih _ _ _ _ (by rw [List.length_drop]; simp; omega) h
          have hml := hm.le
          rw [List.length_drop, List.length_cons] at hml
          have ht : (b :: l).take (n + m) = (b :: l).take n ++ ((b :: l).drop n).take m := List.take_add
          have hft : firstOf ((b :: l).take (n + m)) = 35 := by rw [firstOf_take _ _ (by omega)]; exact hf
          have hst : spanP isCom ((b :: l).take (n + m)) = n := by rw [← hn]; exact spanP_take isCom _ _
          have hd1 : ((b :: l).take (n + m)).drop n = ((b :: l).drop n).take m := by rw [List.drop_take]; congr 1; omega
          have hd2 : ((b :: l).take (n + m)).take n = (b :: l).take n := by rw [List.take_take, Nat.min_eq_left (by omega)]
          refine ⟨n + m, by simp; omega, ?_, ?_, ?_⟩
          · rw [ht, adv_append]; exact hm.at'
          · rw [← List.drop_drop]; exact hm.code
          · rw [scanT_com _ _ hft, hst, hd1, hd2]; exact hm.ahead
        · rw [scanT_tok b l q hb h35] at h
          have hft : ∀ m, 1 ≤ m → ∃ y, (b :: l).take m = b :: y := fun m hm => by
            obtain ⟨p, rfl⟩ : ∃ p, m = p + 1 := ⟨m - 1, by omega⟩
            exact ⟨_, List.take_succ_cons⟩
          cases ht : tokR (b :: l) with
          | no => exact absurd ht (tok_no _)
          | bad m =>
            rw [ht] at h
            cases h
            obtain ⟨hml, hx⟩ := tok_bad ht
            refine ⟨m, hml, rfl, rfl, ?_⟩
            by_cases h0 : m = 0
            · subst h0
              exact .inl ⟨[], q, rfl⟩
            · obtain ⟨y, hy⟩ := hft m (by omega)
              have hself : (b :: y).take m = b :: y := by rw [← hy, List.take_take, Nat.min_self]
              have hnil : (b :: y).drop m = [] := by rw [← hy]; exact List.drop_of_length_le (by rw [List.length_take]; omega)
              rw [hy] at hx ⊢
              rw [scanT_tok b y q hb h35]
              rcases hx with hx | hx | ⟨k, t, v, hx⟩
              · exact absurd hx h0
              · rw [hx]
                simp only [hself, hnil]
                exact .inr rfl
              · rw [hx]
                simp only [hnil]
                exact .inl ⟨_, _, rfl⟩
          | ok k t v n =>
            rw [ht] at h
            simp only at h
            have hr := pre_bad h
            have hn := tok_n ht
            simp only [List.length_cons] at hn
            obtain ⟨m, hm⟩ := ih _ _ _ _ (by rw [List.length_drop]; simp; omega) hr
            have hml := hm.le
            rw [List.length_drop, List.length_cons] at hml
            have hta : (b :: l).take (n + m) = (b :: l).take n ++ ((b :: l).drop n).take m := List.take_add
            have hd1 : ((b :: l).take (n + m)).drop n = ((b :: l).drop n).take m := by rw [List.drop_take]; congr 1; omega
            have hd2 : ((b :: l).take (n + m)).take n = (b :: l).take n := by rw [List.take_take, Nat.min_eq_left (by omega)]
            have hbe : Behind (b :: l) n (((b :: l).drop n).take m) := by
              by_cases h0 : m = 0
              · subst h0; exact .inl rfl
              · exact .inr (.inr (firstOf_take _ _ (by omega)))
            have htk := (tok_ext ht hbe).1
            rw [← hta] at htk
            refine ⟨n + m, by simp; omega, ?_, ?_, ?_⟩
            · rw [hta, adv_append]; exact hm.at'
            · rw [← List.drop_drop]; exact hm.code
            · obtain ⟨y, hy⟩ := hft (n + m) (by omega)
              rw [hy] at htk hd1 hd2 ⊢
              rw [scanT_tok b y q hb h35, htk]
              simp only [hd1, hd2]
              rcases hm.ahead with ⟨ts, q2, ha⟩ | ha
              · exact .inl ⟨_, _, pre_ok _ ha⟩
              · exact .inr (by rw [ha]; rfl)

/-- Different bytes stand at different places. -/
theorem adv_gt (x : List UInt8) (h : 1 ≤ x.length) (q : Nat × Nat) : adv x q ≠ q := by
  intro e
  have h1 := adv_fst x q
  rw [e] at h1
  have h2 := adv_none x (fun hm => by have := List.count_pos_iff.2 hm; omega) q
  rw [e] at h2
  have := congrArg Prod.snd h2
  simp only at this
  omega
theorem adv_ne (l : List UInt8) (i j : Nat) (h : i < j) (hj : j ≤ l.length) (q : Nat × Nat) : adv (l.take i) q ≠ adv (l.take j) q := by
  obtain ⟨k, rfl⟩ : ∃ k, j = i + k := ⟨j - i, by omega⟩
  rw [List.take_add, adv_append]
  exact fun e => adv_gt _ (by rw [List.length_take, List.length_drop]; omega) _ e.symm

/-- A token that could have come from a text. -/
structure GoodT (d : TokD) : Prop where
  tok : tokR (wholeOf d.k d.t) = .ok d.k d.t d.v (wholeOf d.k d.t).length
  blank : isBlank (firstOf (wholeOf d.k d.t)) = false
  com : firstOf (wholeOf d.k d.t) ≠ 35
  one : 1 ≤ (wholeOf d.k d.t).length

theorem good_of : ∀ (N : Nat) (l : List UInt8) (q q' : Nat × Nat) (ts : List TokD), l.length ≤ N → scanT l q = .ok ts q' → ∀ d ∈ ts, GoodT d ∧ (wholeOf d.k d.t).length ≤ l.length := by
  intro N
  induction N with
  | zero =>
    intro l q q' ts hl h
    have : l = [] := List.length_eq_zero_iff.1 (by omega)
    subst this
    cases h
    intro d hd; cases hd
  | succ N ih =>
    intro l q q' ts hl h
    match l, hl, h with
    | [], _, h => cases h; intro d hd; cases hd
    | b :: l, hl, h =>
      simp only [List.length_cons] at hl
      cases hb : isBlank b.toNat with
      | true =>
        rw [scanT_blank b l q hb] at h
        intro d hd
        obtain ⟨h1, h2⟩ := ih l _ _ _ (by omega) h d hd
        exact ⟨h1, by simp; omega⟩
      | false =>
        by_cases h35 : b.toNat = 35
        · have hf : firstOf (b :: l) = 35 := h35
          have hc := com_n hf
          rw [scanT_com _ _ hf] at h
          intro d hd
          obtain ⟨h1, h2⟩ := ih _ _ _ _ (by rw [List.length_drop]; simp; omega) h d hd
          rw [List.length_drop] at h2
          exact ⟨h1, by omega⟩
        · rw [scanT_tok b l q hb h35] at h
          cases ht : tokR (b :: l) with
          | no => exact absurd ht (tok_no _)
          | bad m => rw [ht] at h; cases h
          | ok k t v n =>
            rw [ht] at h
            simp only at h
            have hn := tok_n ht
            cases hr : scanT ((b :: l).drop n) (adv ((b :: l).take n) q) with
            | bad q2 c => rw [hr] at h; cases h
            | ok us q2 =>
              rw [hr] at h
              cases h
              intro d hd
              rcases List.mem_append.1 hd with hd | hd
              · rw [List.mem_singleton] at hd
                subst hd
                obtain ⟨h1, h2⟩ := tok_ext (r := []) ht (.inl rfl)
                rw [List.append_nil] at h1
                rw [h2] at h1
                have hw : (wholeOf (k : Int) t).length = n := by rw [← h2, List.length_take]; omega
                have hf : firstOf (wholeOf (k : Int) t) = b.toNat := by rw [← h2, firstOf_take _ _ hn.1]; rfl
                exact ⟨⟨by rw [hw]; exact h1, by rw [hf]; exact hb, by rw [hf]; exact h35, by rw [hw]; exact hn.1⟩, by rw [hw]; exact hn.2⟩
              · obtain ⟨h1, h2⟩ := ih _ _ _ _ (by rw [List.length_drop]; simp; omega) hr d hd
                rw [List.length_drop] at h2
                exact ⟨h1, by omega⟩

/-- A token ahead of others. -/
theorem scanT_good {d : TokD} (h : GoodT d) (r : List UInt8) (hr : firstOf r = 0 ∨ firstOf r = 32) (q : Nat × Nat) :
    scanT (wholeOf d.k d.t ++ r) q = pre [⟨d.k, d.t, d.v, q.1, q.2⟩] (scanT r (adv (wholeOf d.k d.t) q)) := by
  have he := (tok_ext (r := r) h.tok (hr.elim .inl (fun h => .inr (.inl h)))).1
  rw [List.take_length] at he
  have hb := h.blank
  have hc := h.com
  have h1 := h.one
  generalize wholeOf d.k d.t = x at he hb hc h1
  match x, h1 with
  | b :: x, _ =>
    rw [List.cons_append] at he ⊢
    rw [scanT_tok b (x ++ r) q hb hc, he]
    simp only
    rw [← List.cons_append, List.drop_append_of_le_length (Nat.le_refl _), List.drop_length, List.take_append_of_le_length (Nat.le_refl _), List.take_length, List.nil_append]

/-- A token without its place. -/
def TokD.key (d : TokD) : Nat × List UInt8 × Nat := (d.k, d.t, d.v)
/-- A scan gives these tokens. -/
def Gives (r : SRes) (ts : List TokD) : Prop := ∃ us q, r = .ok us q ∧ us.map TokD.key = ts.map TokD.key
theorem Gives.pre {r : SRes} {ts : List TokD} (h : Gives r ts) (d e : TokD) (hk : e.key = d.key) : Gives (pre [e] r) (d :: ts) := by
  obtain ⟨us, q, rfl, hm⟩ := h
  exact ⟨e :: us, q, rfl, by simp [hk, hm]⟩

/-- What may stand between tokens behind a space. -/
def sepOf (n : Nat) : List UInt8 := match n with | 0 => [] | 1 => [10] | 2 => [9] | _ => [35, 32, 97, 32, 34, 32, 98, 10]
theorem scanT_sep (n : Nat) (r : List UInt8) (q : Nat × Nat) : ∃ q', scanT (32 :: sepOf n ++ r) q = scanT r q' := by
  have h0 : ∀ x, scanT (32 :: x) q = scanT x (adv [32] q) := fun x => scanT_blank 32 x q rfl
  rw [List.cons_append, h0]
  match n with
  | 0 => exact ⟨_, rfl⟩
  | 1 => exact ⟨_, scanT_blank 10 r _ rfl⟩
  | 2 => exact ⟨_, scanT_blank 9 r _ rfl⟩
  | n + 3 =>
    have hs : spanP isCom ([35, 32, 97, 32, 34, 32, 98, 10] ++ r) = 7 := by
      have := spanP_app isCom (10 :: r) (.inr (show isCom 10 = false by decide)) [35, 32, 97, 32, 34, 32, 98] (by decide)
      exact this
    have hc := scanT_com ([35, 32, 97, 32, 34, 32, 98, 10] ++ r) (adv [32] q) rfl
    rw [hs] at hc
    refine ⟨adv [10] (adv [35, 32, 97, 32, 34, 32, 98] (adv [32] q)), ?_⟩
    exact hc.trans (scanT_blank 10 r _ rfl)

/-- Tokens with blanks and comments ahead of them. -/
def wideT (L : List (Nat × TokD)) : List UInt8 := L.flatMap fun p => 32 :: sepOf p.1 ++ wholeOf p.2.k p.2.t
theorem wide_gives (tail : List UInt8) (ht : tail = [] ∨ tail = [32, 35]) : ∀ (L : List (Nat × TokD)) (q : Nat × Nat), (∀ p ∈ L, GoodT p.2) → Gives (scanT (wideT L ++ tail) q) (L.map Prod.snd)
  | [], q, _ => by
    rcases ht with rfl | rfl
    · exact ⟨[], q, rfl, rfl⟩
    · refine ⟨[], adv [35] (adv [32] q), ?_, rfl⟩
      show scanT [32, 35] q = _
      rw [scanT_blank 32 [35] q rfl, scanT_com [35] _ rfl]
      rfl
  | p :: L, q, h => by
    have hg := h p List.mem_cons_self
    have e : wideT (p :: L) ++ tail = 32 :: sepOf p.1 ++ (wholeOf p.2.k p.2.t ++ (wideT L ++ tail)) := by simp [wideT]
    obtain ⟨q1, h1⟩ := scanT_sep p.1 (wholeOf p.2.k p.2.t ++ (wideT L ++ tail)) q
    rw [e, h1]
    have hr : firstOf (wideT L ++ tail) = 0 ∨ firstOf (wideT L ++ tail) = 32 := by
      cases L with
      | nil => rcases ht with rfl | rfl <;> simp [wideT, firstOf]
      | cons p L => exact .inr rfl
    rw [scanT_good hg _ hr]
    exact (wide_gives tail ht L _ (fun x hx => h x (List.mem_cons_of_mem _ hx))).pre p.2 _ rfl

/-- The joined text. -/
def joinD (L : List TokD) : List UInt8 := match L with | [] => [] | d :: L => wholeOf d.k d.t ++ wideT (L.map fun d => (0, d))
theorem join_gives (L : List TokD) (h : ∀ d ∈ L, GoodT d) (q : Nat × Nat) : Gives (scanT (joinD L) q) L := by
  cases L with
  | nil => exact ⟨[], q, rfl, rfl⟩
  | cons d L =>
    have hr : firstOf (wideT (L.map fun d => (0, d))) = 0 ∨ firstOf (wideT (L.map fun d => (0, d))) = 32 := by
      cases L with
      | nil => exact .inl rfl
      | cons p L => exact .inr rfl
    show Gives (scanT (wholeOf d.k d.t ++ wideT (L.map fun d => (0, d))) q) (d :: L)
    rw [scanT_good (h d List.mem_cons_self) _ hr]
    have := wide_gives [] (.inl rfl) (L.map fun d => ((0 : Nat), d)) (adv (wholeOf d.k d.t) q) (by
      intro p hp
      obtain ⟨e, he, rfl⟩ := List.mem_map.1 hp
      exact h e (List.mem_cons_of_mem _ he))
    rw [List.append_nil, List.map_map] at this
    have hid : (Prod.snd ∘ fun d : TokD => ((0 : Nat), d)) = id := rfl
    rw [hid, List.map_id] at this
    exact this.pre d _ rfl

/-- A good token is valid. -/
theorem valid_good {d : TokD} (h : GoodT d) : validB d.k d.t d.v = true := by
  have := scanT_good h [] (.inl rfl) (1, 1)
  rw [List.append_nil] at this
  unfold validB
  rw [scanS_eq, this]
  simp [scanT_nil, pre]
end Go.Proofs.Ytgdjfifnnhfonaa
