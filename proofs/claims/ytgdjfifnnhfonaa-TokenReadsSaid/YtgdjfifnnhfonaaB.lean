/- run: a scanner passes the bytes that a function takes. Conditions: the scanner lies in memory; the function answers for each byte, and leaves the scanner as it was. -/
import Derived.Test.YtgdjfifnnhfonaaA
namespace Go.Proofs.Ytgdjfifnnhfonaa
open Go.RowKit Go.Shelf

set_option maxRecDepth 100000 in
set_option maxHeartbeats 1600000 in
theorem run_any (p ln cn : Nat) (l : List UInt8) (f : FuncId) (cap : Array Value) (eg : ∀ args w, (callFunc f args).run Try.prog w = .ok (.enter f args) w) (I X : Nat → World → Prop) (w : World)
    (hk : ∀ k W, I k W → KAt W p l ln cn) (hx : ∀ k W, X k W → KAt W p l ln cn)
    (hI : ∀ (k : Nat) (hk : k < l.length) (y : Nat), l[k].toNat = y → ∀ W, I k W → Calls Try.prog f (#[.int .u8 ((y : Nat) : Int)] ++ cap) W fun e W' => (e = .returned (.bool true) ∧ I (k + 1) W') ∨ (e = .returned (.bool false) ∧ X k W'))
    (h0 : I 0 w) (h1 : ln ≤ 1099511627776) (h2 : cn ≤ 1099511627776) (h3 : l.length ≤ 1099511627776) :
    Calls Try.prog 59 #[.pointer (some ⟨p, 0, none⟩), .func (.func f) #[] cap] w fun e w' => ∃ n W, n ≤ l.length ∧ ((n = l.length ∧ I n W) ∨ (n < l.length ∧ X n W)) ∧ e = .returned (.string (strL (l.take n))) ∧ KAt w' p (l.drop n) (adv (l.take n) (ln, cn)).1 (adv (l.take n) (ln, cn)).2 ∧ Rest (fun k => k = p) W w' := by
  have HK := Lib.hid hk
  have HX := Lib.hid hx
  have HI := Lib.hid hI
  have H0 := Lib.hid h0
  clear hk hx hI h0
  go_enter Try.func59, Try.ntmps59
  go_wp2_with fail
  go_loopw [5] (fun x wr => ∃ k : Nat, k ≤ l.length ∧ x = .int .i64 k ∧ I k wr) (fun x _ => l.length - (intOf x).toNat)
  case atStart => exact ⟨0, Nat.zero_le _, rfl, H0.out⟩
  case round =>
    obtain ⟨k, hkl, rfl, hik⟩ := hrel
    have hK := HK.out k wr hik
    have c2 := hK.c2
    have hs : (strL l).size = l.length := strL_size l
    have IK := Lib.hid hik
    clear hik
    by_cases hlt : k < l.length
    · have hsk : k < (strL l).size := by rw [strL_size]; exact hlt
      have hg : (strL l)[k].toNat = l[k].toNat := congrArg UInt8.toNat (strL_get l k hsk)
      obtain ⟨y, hy⟩ : ∃ y, l[k].toNat = y := ⟨_, rfl⟩
      have hc := HI.out k hlt y hy wr IK.out
      rw [hy] at hg
      have HC := Lib.hid hc
      clear hK hy hc
      go_wp2_with fail
      refine HC.out.mono ?_
      rintro e W2 (⟨rfl, hi⟩ | ⟨rfl, hxx⟩)
      · have I2 := Lib.hid hi
        clear hi c2 hs HC
        go_wp2_with fail
        go_roundw
        case rel => exact ⟨k + 1, hlt, by go_num, I2.out⟩
        case measure => simp [intOf]; omega
      · have X2 := Lib.hid hxx
        have HP := Lib.hid (pass_any p ln cn k l W2 (HX.out k W2 hxx) hkl h1 h2 h3)
        have HLT := Lib.hid hlt
        clear hxx c2 hs HC
        go_wp2_with fail
        refine HP.out.mono ?_
        rintro e w3 ⟨rfl, hk3, hr3⟩
        have K3 := Lib.hid hk3
        have R3 := Lib.hid hr3
        clear hk3 hr3 HP
        go_wp2_with fail
        go_ret
        exact ⟨k, W2, hkl, .inr ⟨HLT.out, X2.out⟩, rfl, K3.out, R3.out⟩
    · obtain rfl : k = l.length := by omega
      have HP := Lib.hid (pass_any p ln cn l.length l wr hK (Nat.le_refl _) h1 h2 h3)
      clear hK hlt hkl
      go_wp2_with fail
      refine HP.out.mono ?_
      rintro e w3 ⟨rfl, hk3, hr3⟩
      have K3 := Lib.hid hk3
      have R3 := Lib.hid hr3
      clear hk3 hr3 HP c2 hs
      go_wp2_with fail
      go_ret
      refine ⟨l.length, wr, Nat.le_refl _, .inl ⟨rfl, IK.out⟩, ?_, K3.out, R3.out⟩
      rw [List.take_length]
      rfl

/-- How far a class of bytes reaches. -/
def spanP (P : Nat → Bool) : List UInt8 → Nat
  | [] => 0
  | b :: l => if P b.toNat then spanP P l + 1 else 0
theorem spanP_le (P : Nat → Bool) : ∀ l, spanP P l ≤ l.length
  | [] => Nat.le_refl _
  | b :: l => by
    unfold spanP
    split
    · have := spanP_le P l; simp; omega
    · simp
theorem spanP_all (P : Nat → Bool) : ∀ (l : List UInt8) (k : Nat) (h : k < l.length), k < spanP P l → P (l[k].toNat) = true
  | b :: l, 0, h, hk => by
    unfold spanP at hk
    split at hk
    · assumption
    · omega
  | b :: l, k + 1, h, hk => by
    unfold spanP at hk
    split at hk
    · exact spanP_all P l k (by simpa using h) (by omega)
    · omega
theorem spanP_stop (P : Nat → Bool) : ∀ (l : List UInt8) (h : spanP P l < l.length), P (l[spanP P l].toNat) = false
  | [], h => by simp at h
  | b :: l, h => by
    by_cases hp : P b.toNat = true
    · have e : spanP P (b :: l) = spanP P l + 1 := by rw [spanP, if_pos hp]
      have hl : spanP P l < l.length := by rw [e] at h; simpa using h
      have ih := spanP_stop P l hl
      have : (b :: l)[spanP P (b :: l)] = l[spanP P l] := by simp [e]
      rw [this]
      exact ih
    · have e : spanP P (b :: l) = 0 := by rw [spanP, if_neg hp]
      have : (b :: l)[spanP P (b :: l)] = b := by simp [e]
      rw [this]
      simpa using hp
/-- The place where it ends. -/
theorem spanP_eq (P : Nat → Bool) : ∀ (l : List UInt8) (n : Nat), (∀ k (h : k < l.length), k < n → P (l[k].toNat) = true) → n ≤ l.length → (∀ h : n < l.length, P (l[n].toNat) = false) → spanP P l = n
  | [], n, _, hn, _ => by simp at hn; simp [spanP, hn]
  | b :: l, 0, _, _, hx => by
    have := hx (by simp)
    unfold spanP
    rw [if_neg (by rw [show (b :: l)[0] = b from rfl] at this; rw [this]; simp)]
  | b :: l, n + 1, ha, hn, hx => by
    have h0 := ha 0 (by simp) (by omega)
    rw [show (b :: l)[0] = b from rfl] at h0
    unfold spanP
    rw [if_pos h0]
    have := spanP_eq P l n (fun k h hk => ha (k + 1) (by simpa using h) (by omega)) (by simpa using hn) (fun h => hx (by simpa using h))
    omega

/-- run with a class of bytes that leaves all as it was. -/
theorem run_class (p ln cn : Nat) (l : List UInt8) (f : FuncId) (P : Nat → Bool) (eg : ∀ args w, (callFunc f args).run Try.prog w = .ok (.enter f args) w) (hf : ∀ n w, Calls Try.prog f #[.int .u8 ((n : Nat) : Int)] w fun e w' => e = .returned (.bool (P n)) ∧ w' = w) (w : World) (h : KAt w p l ln cn)
    (h1 : ln ≤ 1099511627776) (h2 : cn ≤ 1099511627776) (h3 : l.length ≤ 1099511627776) :
    Calls Try.prog 59 #[.pointer (some ⟨p, 0, none⟩), .func (.func f) #[] #[]] w fun e w' => e = .returned (.string (strL (l.take (spanP P l)))) ∧ KAt w' p (l.drop (spanP P l)) (adv (l.take (spanP P l)) (ln, cn)).1 (adv (l.take (spanP P l)) (ln, cn)).2 ∧ Rest (fun k => k = p) w w' := by
  refine (run_any p ln cn l f #[] eg (fun k W => W = w ∧ ∀ j (hj : j < l.length), j < k → P (l[j].toNat) = true) (fun k W => W = w ∧ (∀ j (hj : j < l.length), j < k → P (l[j].toNat) = true) ∧ ∀ hk : k < l.length, P (l[k].toNat) = false) w ?_ ?_ ?_ ⟨rfl, fun j _ hj => absurd hj (Nat.not_lt_zero _)⟩ h1 h2 h3).mono ?_
  · rintro k W ⟨rfl, _⟩; exact h
  · rintro k W ⟨rfl, _⟩; exact h
  · rintro k hk _ rfl W ⟨rfl, ha⟩
    refine (hf (l[k].toNat) W).mono ?_
    rintro e W' ⟨rfl, rfl⟩
    cases hp : P (l[k].toNat) with
    | true =>
      refine .inl ⟨rfl, rfl, fun j hj hjk => ?_⟩
      by_cases e : j = k
      · subst e; exact hp
      · exact ha j hj (by omega)
    | false => exact .inr ⟨rfl, rfl, ha, fun _ => hp⟩
  · rintro e w' ⟨n, W, hn, hc, rfl, hK, hR⟩
    have hs : spanP P l = n := by
      rcases hc with ⟨rfl, rfl, ha⟩ | ⟨hlt, rfl, ha, hx⟩
      · exact spanP_eq P l _ (fun k h hk => ha k h hk) (Nat.le_refl _) (fun h => absurd h (Nat.lt_irrefl _))
      · exact spanP_eq P l n (fun k h hk => ha k h hk) hn hx
    obtain rfl : W = w := by
      rcases hc with ⟨_, h, _⟩ | ⟨_, h, _⟩ <;> exact h
    rw [hs]
    exact ⟨rfl, hK, hR⟩

theorem Try.ent60 : ∀ args w, (callFunc 60 args).run Try.prog w = .ok (.enter 60 args) w := enters_of Try.func60 (by kernel_rfl) rfl
theorem Try.ent63 : ∀ args w, (callFunc 63 args).run Try.prog w = .ok (.enter 63 args) w := enters_of Try.func63 (by kernel_rfl) rfl
theorem Try.ent75 : ∀ args w, (callFunc 75 args).run Try.prog w = .ok (.enter 75 args) w := enters_of Try.func75 (by kernel_rfl) rfl
theorem Try.ent67 : ∀ args w, (callFunc 67 args).run Try.prog w = .ok (.enter 67 args) w := enters_of Try.func67 (by kernel_rfl) rfl
theorem Try.ent79 : ∀ args w, (callFunc 79 args).run Try.prog w = .ok (.enter 79 args) w := enters_of Try.func79 (by kernel_rfl) rfl
end Go.Proofs.Ytgdjfifnnhfonaa
