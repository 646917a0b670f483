/- The document's answers: any number; symbols; and how a scan goes on, step by step. Conditions: an index lies in the text. -/
import Derived.Test.YtgdjfifnnhfonaaRe
import Derived.Test.YtgdjfifnnhfonaaRf
import Derived.Lib.IndexLaws
namespace Go.Proofs.Ytgdjfifnnhfonaa
open Go.RowKit Go.Shelf

theorem preB_iff (a b : UInt8) (l : List UInt8) : preB [a, b] l = true ↔ ∃ r, l = a :: b :: r := by
  unfold preB Lib.hasPrefix
  match l with
  | [] => simp
  | [x] => simp
  | x :: y :: r =>
    simp only [List.isPrefixOf, Bool.and_true, Bool.and_eq_true, beq_iff_eq, List.cons.injEq]
    constructor
    · rintro ⟨rfl, rfl⟩; exact ⟨r, rfl, rfl, rfl⟩
    · rintro ⟨r', rfl, rfl, _⟩; exact ⟨rfl, rfl⟩

theorem u8_eq {a : UInt8} {n : Nat} (h : a.toNat = n) (b : UInt8) (hb : b.toNat = n) : a = b := UInt8.toNat_inj.1 (h.trans hb.symm)

theorem preB_at (a b : UInt8) (l : List UInt8) (i : Nat) (h : i + 1 < l.length) (ha : l[i] = a) (hb : l[i + 1] = b) : preB [a, b] (l.drop i) = true := by
  rw [preB_iff]
  refine ⟨l.drop (i + 2), ?_⟩
  rw [List.drop_eq_getElem_cons (show i < l.length by omega), List.drop_eq_getElem_cons h, ha, hb]
theorem preB_not (a b : UInt8) (l : List UInt8) (i : Nat) (hn : ∀ (h : i + 1 < l.length), ¬ ((l[i]'(by omega)) = a ∧ l[i + 1] = b)) : preB [a, b] (l.drop i) = false := by
  rw [Bool.eq_false_iff]
  intro h
  obtain ⟨r, hr⟩ := (preB_iff a b _).1 h
  have hl : (l.drop i).length = r.length + 2 := by rw [hr]; rfl
  rw [List.length_drop] at hl
  have h1 : i + 1 < l.length := by omega
  refine hn h1 ?_
  rw [List.drop_eq_getElem_cons (show i < l.length by omega), List.drop_eq_getElem_cons h1] at hr
  simp only [List.cons.injEq] at hr
  exact ⟨hr.1, hr.2.1⟩

theorem refNumber_any (l : List UInt8) (a : Nat) (w : World) (h1 : a < l.length) (hy : isDig l[a].toNat = true) (hl : l.length ≤ 1099511627776) :
    Calls Try.prog 31 #[.string (strL l), .int .i64 a] w (NumP l a w) := by
  by_cases h48 : l[a].toNat = 48
  · by_cases h2 : ∃ h : a + 1 < l.length, l[a + 1].toNat = 120
    · obtain ⟨h2, h3⟩ := h2
      exact refNumber_hex l a w h2 h48 h3 hl (preB_at 48 120 l a h2 (u8_eq h48 48 rfl) (u8_eq h3 120 rfl))
    · refine refNumber_zero l a w h1 h48 (fun h e => h2 ⟨h, e⟩) hl (preB_not 48 120 l a fun h hx => h2 ⟨h, ?_⟩)
      rw [hx.2]; rfl
  · refine refNumber_dec l a w h1 _ rfl hy h48 hl (preB_not 48 120 l a fun h hx => h48 ?_)
    rw [hx.1]; rfl

/-- The symbols. -/
def symsL : List UInt8 := [40, 41, 123, 125, 91, 93, 60, 62, 44, 59, 58, 46, 61, 43, 45, 42, 47, 124, 33, 63, 64]
theorem sym_among (b : UInt8) : (symI b.toNat < 0) ↔ amongB b.toNat symsL = false := by
  have e : b.toNat.toUInt8 = b := by simp
  unfold symI
  rw [e]
  constructor
  · intro h
    have h1 : Lib.indexByte symsL b = -1 := by have := Lib.indexByte_ge symsL b; change Lib.indexByte symsL b < 0 at h; omega
    refine among_no _ _ fun j hj hx => ?_
    refine Lib.indexByte_none h1 j ?_
    rw [List.getElem?_eq_getElem hj, u8_eq hx b rfl]
  · intro h
    rcases Int.lt_or_le (Lib.indexByte symsL b) 0 with h1 | h1
    · exact h1
    · exfalso
      obtain ⟨o, ho⟩ := Int.eq_ofNat_of_zero_le h1
      obtain ⟨hs, _⟩ := Lib.indexByte_some ho
      obtain ⟨hl, hv⟩ := List.getElem?_eq_some_iff.1 hs
      rw [among_yes b.toNat symsL o hl (by rw [hv])] at h
      cases h

/-- More fuel changes nothing. -/
theorem scanG_fuel : ∀ (f : Nat) (g : Nat) (l : List UInt8) (q : Nat × Nat), l.length < f → l.length < g → scanG f l q = scanG g l q
  | 0, _, _, _, h, _ => by omega
  | _ + 1, 0, _, _, _, h => by omega
  | f + 1, g + 1, l, q, h1, h2 => by
    rw [scanG_blank f, scanG_blank g, scanG_step f _ _ (spanP_drop isBlank l), scanG_step g _ _ (spanP_drop isBlank l)]
    have hd : (l.drop (spanP isBlank l)).length ≤ l.length := by rw [List.length_drop]; omega
    generalize l.drop (spanP isBlank l) = l1 at hd
    generalize adv (l.take (spanP isBlank l)) q = q1
    by_cases he : l1.isEmpty = true
    · rw [if_pos he, if_pos he]
    · rw [if_neg he, if_neg he]
      by_cases h35 : firstOf l1 = 35
      · rw [if_pos h35, if_pos h35]
        have hc := com_n h35
        have hc2 := firstOf_ne h35 (by omega)
        exact scanG_fuel f g _ _ (by rw [List.length_drop]; omega) (by rw [List.length_drop]; omega)
      · rw [if_neg h35, if_neg h35]
        cases ht : tokR l1 with
        | no => rfl
        | bad m => rfl
        | ok k t v n =>
          have hn := tok_n ht
          simp only
          rw [scanG_fuel f g (l1.drop n) _ (by rw [List.length_drop]; omega) (by rw [List.length_drop]; omega)]

/-- What a place of the text begins with. -/
def scanT (l : List UInt8) (q : Nat × Nat) : SRes := scanG (l.length + 1) l q
theorem scanS_eq (l : List UInt8) : scanS l = scanT l (1, 1) := rfl
theorem scanT_of (f : Nat) (l : List UInt8) (q : Nat × Nat) (h : l.length < f) : scanG f l q = scanT l q := scanG_fuel f (l.length + 1) l q h (by omega)
theorem scanT_nil (q : Nat × Nat) : scanT [] q = .ok [] q := rfl
theorem spanP_cons_no {P : Nat → Bool} {b : UInt8} {l : List UInt8} (h : P b.toNat = false) : spanP P (b :: l) = 0 := by rw [spanP, if_neg (by rw [h]; decide)]
theorem spanP_cons_yes {P : Nat → Bool} {b : UInt8} {l : List UInt8} (h : P b.toNat = true) : spanP P (b :: l) = spanP P l + 1 := by rw [spanP, if_pos h]
theorem scanT_blank (b : UInt8) (l : List UInt8) (q : Nat × Nat) (h : isBlank b.toNat = true) : scanT (b :: l) q = scanT l (adv [b] q) := by
  rw [← scanT_of ((b :: l).length + 1) l (adv [b] q) (by simp; omega)]
  unfold scanT
  rw [scanG_blank (b :: l).length, scanG_blank (b :: l).length l, spanP_cons_yes h]
  simp only [List.drop_succ_cons, List.take_succ_cons]
  rfl
theorem scanT_com (l : List UInt8) (q : Nat × Nat) (h : firstOf l = 35) : scanT l q = scanT (l.drop (spanP isCom l)) (adv (l.take (spanP isCom l)) q) := by
  have hc := com_n h
  have hc2 := firstOf_ne h (by omega)
  have hb : spanP isBlank l = 0 := by
    cases l with
    | nil => rfl
    | cons b l => exact spanP_cons_no (by have : b.toNat = 35 := h; rw [this]; rfl)
  rw [← scanT_of l.length (l.drop (spanP isCom l)) _ (by rw [List.length_drop]; omega)]
  unfold scanT
  rw [scanG_step _ _ _ hb, if_neg (by cases l with | nil => simp at hc2 | cons b l => simp), if_pos h]
theorem scanT_tok (b : UInt8) (l : List UInt8) (q : Nat × Nat) (h : isBlank b.toNat = false) (h35 : b.toNat ≠ 35) : scanT (b :: l) q = match tokR (b :: l) with
      | .no => .ok [] q
      | .ok k t v n => pre [⟨k, t, v, q.1, q.2⟩] (scanT ((b :: l).drop n) (adv ((b :: l).take n) q))
      | .bad m => .bad (adv ((b :: l).take m) q) (codeOf ((b :: l).drop m)) := by
  conv => lhs; unfold scanT
  rw [scanG_step _ _ _ (spanP_cons_no h), if_neg (by simp), if_neg (show ¬ firstOf (b :: l) = 35 from h35)]
  cases ht : tokR (b :: l) with
  | no => rfl
  | bad m => rfl
  | ok k t v n =>
    have hn := tok_n ht
    simp only
    rw [scanT_of _ _ _ (by rw [List.length_drop]; omega)]
/-- A comment is passed byte by byte. -/
theorem scanT_com' (l : List UInt8) (a n : Nat) (q : Nat × Nat) (h : firstOf (l.drop a) = 35) (hn : n = spanP isCom (l.drop a)) :
    scanT (l.drop a) (adv (l.take a) q) = scanT (l.drop (a + n)) (adv (l.take (a + n)) q) := by
  subst hn
  rw [scanT_com _ _ h, List.drop_drop, adv_take]

/-- The place behind the whole text. -/
theorem scanG_end : ∀ (f : Nat) (l : List UInt8) (q q' : Nat × Nat) (ts : List TokD), l.length < f → scanG f l q = .ok ts q' → q' = adv l q
  | 0, _, _, _, _, h, _ => by omega
  | f + 1, l, q, q', ts, hf, h => by
    rw [scanG_blank, scanG_step f _ _ (spanP_drop isBlank l)] at h
    have hd : (l.drop (spanP isBlank l)).length ≤ l.length := by rw [List.length_drop]; omega
    have ha : adv l q = adv (l.drop (spanP isBlank l)) (adv (l.take (spanP isBlank l)) q) := by rw [← adv_append, List.take_append_drop]
    rw [ha]
    generalize l.drop (spanP isBlank l) = l1 at hd h
    generalize adv (l.take (spanP isBlank l)) q = q1 at h
    have hs : ∀ n, adv l1 q1 = adv (l1.drop n) (adv (l1.take n) q1) := fun n => by rw [← adv_append, List.take_append_drop]
    split at h
    · rename_i he
      cases h
      rw [List.isEmpty_iff.1 he]; rfl
    · split at h
      · rename_i h35
        have hc := com_n h35
        have hc2 := firstOf_ne h35 (by omega)
        rw [hs (spanP isCom l1)]
        exact scanG_end f _ _ _ _ (by rw [List.length_drop]; omega) h
      · split at h
        · rename_i hno
          exact absurd hno (tok_no _)
        · rename_i k t v n ht
          have hn := tok_n ht
          rw [hs n]
          cases hr : scanG f (l1.drop n) (adv (l1.take n) q1) with
          | bad q c => rw [hr] at h; cases h
          | ok us q2 =>
            rw [hr] at h
            cases h
            exact scanG_end f _ _ _ _ (by rw [List.length_drop]; omega) hr
        · cases h
theorem scanS_end {l : List UInt8} {q : Nat × Nat} {ts : List TokD} (h : scanS l = .ok ts q) : q = adv l (1, 1) := scanG_end _ _ _ _ _ (by omega) h
end Go.Proofs.Ytgdjfifnnhfonaa
