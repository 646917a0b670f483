/- The document's answers: the classes of bytes, places, words. Conditions: an index lies in the text. -/
import Derived.Test.YtgdjfifnnhfonaaV
namespace Go.Proofs.Ytgdjfifnnhfonaa
open Go.RowKit Go.Shelf

set_option maxRecDepth 100000 in
set_option maxHeartbeats 800000 in
theorem refLetter_any (n : Nat) (w : World) : Calls Try.prog 28 #[.int .u8 n] w fun e w' => e = .returned (.bool (isLet n)) ∧ w' = w := by
  go_enter Try.func28, Try.ntmps28
  go_wp2
  all_goals (go_ret; refine ⟨ret_bool ?_, rfl⟩; rw [Bool.eq_iff_iff]; simp [isLet, *]; try omega)

set_option maxRecDepth 100000 in
set_option maxHeartbeats 800000 in
theorem refDigit_any (n : Nat) (w : World) : Calls Try.prog 30 #[.int .u8 n] w fun e w' => e = .returned (.bool (isDig n)) ∧ w' = w := by
  go_enter Try.func30, Try.ntmps30
  go_wp2
  all_goals (go_ret; refine ⟨ret_bool ?_, rfl⟩; rw [Bool.eq_iff_iff]; simp [isDig, *]; try omega)

set_option maxRecDepth 100000 in
set_option maxHeartbeats 800000 in
theorem refWordly_any (n : Nat) (w : World) : Calls Try.prog 51 #[.int .u8 n] w fun e w' => e = .returned (.bool (isWrd n)) ∧ w' = w := by
  have HL := fun w => Lib.hid (refLetter_any n w)
  have HD := fun w => Lib.hid (refDigit_any n w)
  cases h1 : isLet n <;> cases h2 : isDig n <;> rw [h1] at HL <;> rw [h2] at HD <;>
  · have H1 := Lib.hid h1
    have H2 := Lib.hid h2
    clear h1 h2
    go_enter Try.func51, Try.ntmps51
    go_wp2_with (first | (go_at_call 28; refine ((HL _).out).mono ?_; rintro e w' ⟨rfl, rfl⟩) | (go_at_call 30; refine ((HD _).out).mono ?_; rintro e w' ⟨rfl, rfl⟩))
    all_goals (go_ret; refine ⟨ret_bool ?_, rfl⟩; rw [Bool.eq_iff_iff]; simp [isWrd, H1.out, H2.out]; try omega)

/-- The value of a hexadecimal digit, or -1. -/
def hexI (n : Nat) : Int := if digOf n < 16 then (digOf n : Int) else -1

set_option maxRecDepth 100000 in
set_option maxHeartbeats 800000 in
theorem refHex_any (n : Nat) (hn : n ≤ 255) (w : World) : Calls Try.prog 52 #[.int .u8 ((n : Nat) : Int)] w fun e w' => e = .returned (.int .i64 (hexI n)) ∧ w' = w := by
  have HD := fun w => Lib.hid (refDigit_any n w)
  cases hd : isDig n with
  | true =>
    have hb : 48 ≤ n ∧ n ≤ 57 := by unfold isDig at hd; simpa using hd
    have hR : hexI n = ((n - 48 : Nat) : Int) := by unfold hexI digOf; rw [hd]; simp only [if_true]; rw [if_pos (by omega)]
    obtain ⟨m, rfl⟩ : ∃ m, n = m + 48 := ⟨n - 48, by omega⟩
    rw [hR, show m + 48 - 48 = m by omega]
    rw [hd] at HD
    have hm : m ≤ 9 := by omega
    have e1 : (((m + 48 : Nat) : Int)) - 48 = m := by omega
    clear hd hR hb hn
    go_enter Try.func52, Try.ntmps52
    go_wp2_with (go_at_call 30; refine ((HD _).out).mono ?_; rintro e w' ⟨rfl, rfl⟩)
    go_ret
    exact ⟨ret_int (by omega), rfl⟩
  | false =>
    rw [hd] at HD
    have H := Lib.hid hd
    clear hd
    by_cases h1 : 97 ≤ n ∧ n ≤ 102
    · have hR : hexI n = ((n - 87 : Nat) : Int) := by
          have hD : digOf n = n - 87 := by { unfold digOf; rw [H.out, if_neg (by simp), if_pos h1] }
          unfold hexI; rw [hD, if_pos (by omega)]
      obtain ⟨h1a, h1b⟩ := h1
      rw [hR]
      clear hR H
      go_enter Try.func52, Try.ntmps52
      go_wp2_with (go_at_call 30; refine ((HD _).out).mono ?_; rintro e w' ⟨rfl, rfl⟩)
      all_goals (go_ret; exact ⟨ret_int (by omega), rfl⟩)
    · by_cases h2 : 65 ≤ n ∧ n ≤ 70
      · have hR : hexI n = ((n - 55 : Nat) : Int) := by
          have hD : digOf n = n - 55 := by { unfold digOf; rw [H.out, if_neg (by simp), if_neg h1, if_pos h2] }
          unfold hexI; rw [hD, if_pos (by omega)]
        obtain ⟨h2a, h2b⟩ := h2
        rw [hR]
        clear hR H h1
        go_enter Try.func52, Try.ntmps52
        go_wp2_with (go_at_call 30; refine ((HD _).out).mono ?_; rintro e w' ⟨rfl, rfl⟩)
        all_goals (go_ret; exact ⟨ret_int (by omega), rfl⟩)
      · have hR : hexI n = -1 := by
          have hD : digOf n = 16 := by { unfold digOf; rw [H.out, if_neg (by simp), if_neg h1, if_neg h2] }
          unfold hexI; rw [hD]; rfl
        rw [hR]
        have G := Lib.hid (And.intro h1 h2)
        clear hR H h1 h2
        go_enter Try.func52, Try.ntmps52
        go_wp2_with (go_at_call 30; refine ((HD _).out).mono ?_; rintro e w' ⟨rfl, rfl⟩)
        all_goals first
          | (go_ret; exact ⟨rfl, rfl⟩)
          | (exfalso; have := G.out; omega)

theorem adv_snoc (l : List UInt8) (k : Nat) (h : k < l.length) (q : Nat × Nat) : adv (l.take (k + 1)) q = if l[k] = 10 then ((adv (l.take k) q).1 + 1, 1) else ((adv (l.take k) q).1, (adv (l.take k) q).2 + 1) := by
  rw [List.take_succ_eq_append_getElem h, adv_append]
  simp [adv]

set_option maxRecDepth 100000 in
set_option maxHeartbeats 1600000 in
theorem refLines_any (l : List UInt8) (n : Nat) (w : World) (hn : n ≤ l.length) (hl : l.length ≤ 1099511627776) :
    Calls Try.prog 34 #[.string (strL l), .int .i64 n] w fun e w' => e = .returned (.tuple #[.int .i64 (adv (l.take n) (1, 1)).1, .int .i64 (adv (l.take n) (1, 1)).2]) ∧ w' = w := by
  obtain ⟨A, hA⟩ : ∃ A : Nat → Nat × Nat, ∀ k, adv (l.take k) (1, 1) = A k := ⟨_, fun _ => rfl⟩
  have hA0 : A 0 = (1, 1) := by rw [← hA]; rfl
  have hAb : ∀ k, (A k).1 ≤ 1 + l.length ∧ (A k).2 ≤ 2 + l.length := fun k => by
    have := adv_bound (l.take k) (1, 1)
    rw [hA, List.length_take] at this
    simp at this
    omega
  have hAs : ∀ k (h : k < l.length), A (k + 1) = if l[k] = 10 then ((A k).1 + 1, 1) else ((A k).1, (A k).2 + 1) := fun k h => by rw [← hA, ← hA]; exact adv_snoc l k h _
  rw [hA]
  have HA0 := Lib.hid hA0
  have HAB := Lib.hid hAb
  have HAS := Lib.hid hAs
  have HN := Lib.hid hn
  have HL := Lib.hid hl
  clear hA hA0 hAb hAs hn hl
  go_enter Try.func34, Try.ntmps34
  go_wp2_with fail
  go_loopw [6, 7, 8] (fun x y z wr => ∃ k : Nat, k ≤ n ∧ x = .int .i64 ((A k).1 : Nat) ∧ y = .int .i64 ((A k).2 : Nat) ∧ z = .int .i64 k ∧ wr = w) (fun _ _ z _ => n - (intOf z).toNat)
  case atStart => exact ⟨0, Nat.zero_le _, by rw [HA0.out]; rfl, by rw [HA0.out]; rfl, rfl, rfl⟩
  case round =>
    obtain ⟨k, hk, rfl, rfl, rfl, rfl⟩ := hrel
    have hb := HAB.out k
    have hl := HL.out
    have hn := HN.out
    by_cases hlt : k < n
    · have hkl : k < l.length := by omega
      have hsk : k < (strL l).size := by rw [strL_size]; exact hkl
      have hg : (strL l)[k].toNat = l[k].toNat := congrArg UInt8.toNat (strL_get l k hsk)
      have hs := HAS.out k hkl
      obtain ⟨y, hy⟩ : ∃ y, l[k].toNat = y := ⟨_, rfl⟩
      have hy10 : l[k] = 10 ↔ y = 10 := by rw [← hy]; exact ⟨fun e => by rw [e]; rfl, fun e => UInt8.toNat_inj.1 e⟩
      rw [hy] at hg
      by_cases h10 : y = 10
      · replace hs : A (k + 1) = ((A k).1 + 1, 1) := hs.trans (if_pos (hy10.2 h10))
        subst h10
        have HS := Lib.hid hs
        obtain ⟨a, ha⟩ : ∃ a, (A k).1 = a := ⟨_, rfl⟩
        obtain ⟨b, hb'⟩ : ∃ b, (A k).2 = b := ⟨_, rfl⟩
        rw [ha, hb'] at hb ⊢
        have E1 := Lib.hid ha
        have E2 := Lib.hid hb'
        clear hs hy hy10 ha hb'
        go_wp2_with fail
        go_roundw
        case rel => exact ⟨k + 1, hlt, by rw [HS.out, E1.out]; go_num, by rw [HS.out]; rfl, by go_num, trivial⟩
        case measure => simp [intOf]; omega
      · replace hs : A (k + 1) = ((A k).1, (A k).2 + 1) := hs.trans (if_neg (fun e => h10 (hy10.1 e)))
        have HS := Lib.hid hs
        obtain ⟨a, ha⟩ : ∃ a, (A k).1 = a := ⟨_, rfl⟩
        obtain ⟨b, hb'⟩ : ∃ b, (A k).2 = b := ⟨_, rfl⟩
        rw [ha, hb'] at hb ⊢
        have E1 := Lib.hid ha
        have E2 := Lib.hid hb'
        clear hs hy hy10 ha hb'
        go_wp2_with fail
        go_roundw
        case rel => exact ⟨k + 1, hlt, by rw [HS.out, E1.out], by rw [HS.out, E2.out]; go_num, by go_num, trivial⟩
        case measure => simp [intOf]; omega
    · obtain rfl : k = n := by omega
      go_wp2_with fail
      go_ret2
      exact ⟨rfl, rfl⟩

theorem firstOf_at (l : List UInt8) (i : Nat) (h : i < l.length) : firstOf (l.drop i) = l[i].toNat := by
  rw [List.drop_eq_getElem_cons h]; rfl
theorem firstOf_end (l : List UInt8) : firstOf (l.drop l.length) = 0 := by simp [firstOf]
/-- What stands in a text behind an index. -/
theorem get_drop (l : List UInt8) (a k : Nat) (h : a + k < l.length) : (l.drop a)[k]'(by rw [List.length_drop]; omega) = l[a + k] := by simp

/-- What the document's word answers at an index: the index behind it, or that of a wrong byte. -/
def WordP (l : List UInt8) (a : Nat) (w : World) (e : Ending) (w' : World) : Prop := ∃ n, n = min 32 (spanP isWrd (l.drop a)) ∧ w' = w ∧
  e = .returned (if isWrd (firstOf (l.drop (a + n))) then .tuple #[.int .i64 0, .int .i64 ((a + n : Nat) : Int)] else .tuple #[.int .i64 ((a + n : Nat) : Int), .int .i64 (-1)])

set_option maxRecDepth 100000 in
set_option maxHeartbeats 1600000 in
theorem refWord_any (l : List UInt8) (a : Nat) (w : World) (ha : a ≤ l.length) (hl : l.length ≤ 1099511627776) :
    Calls Try.prog 29 #[.string (strL l), .int .i64 a] w (WordP l a w) := by
  have hs : (strL l).size = l.length := strL_size l
  go_enter Try.func29, Try.ntmps29
  go_wp2_with fail
  go_loopw [6] (fun x wr => ∃ k : Nat, k ≤ 32 ∧ a + k ≤ l.length ∧ (∀ j (h : j < (l.drop a).length), j < k → isWrd ((l.drop a)[j].toNat) = true) ∧ x = .int .i64 ((a + k : Nat) : Int) ∧ wr = w) (fun x _ => l.length - (intOf x).toNat)
  case atStart => exact ⟨0, by omega, ha, fun j h hj => by omega, rfl, rfl⟩
  case round =>
    obtain ⟨k, hk, hak, hall, rfl, rfl⟩ := hrel
    have hsub : ((a + k : Nat) : Int) - (a : Int) = ((k : Nat) : Int) := by omega
    by_cases hlt : a + k < l.length
    · have hsk : a + k < (strL l).size := by rw [strL_size]; exact hlt
      have hg : (strL l)[a + k].toNat = l[a + k].toNat := congrArg UInt8.toNat (strL_get l (a + k) hsk)
      obtain ⟨y, hy⟩ : ∃ y, l[a + k].toNat = y := ⟨_, rfl⟩
      rw [hy] at hg
      have HC := fun w => Lib.hid (refWordly_any y w)
      have hyk : (l.drop a)[k]'(by rw [List.length_drop]; omega) = l[a + k]'hlt := get_drop l a k hlt
      have hf : firstOf (l.drop (a + k)) = y := (firstOf_at l (a + k) hlt).trans hy
      have HALL := Lib.hid hall
      have HF := Lib.hid hf
      have HYK := Lib.hid hyk
      have HY := Lib.hid hy
      have HAK := Lib.hid (And.intro hk hlt)
      clear hall hf hyk hy
      cases hc : isWrd y <;> rw [hc] at HC
      · have HCY := Lib.hid hc
        clear hc
        go_wp2_with (go_at_call 51; refine ((HC _).out).mono ?_; rintro e w' ⟨rfl, rfl⟩)
        go_ret2
        refine ⟨k, (min32 _ k HAK.out.1 (by rw [List.length_drop]; have := HAK.out.2; omega) HALL.out (.inr fun h => (congrArg (fun b => isWrd (UInt8.toNat b)) HYK.out).trans ((congrArg isWrd HY.out).trans HCY.out))).symm, rfl, ?_⟩
        rw [HF.out, HCY.out]; rfl
      · have HCY := Lib.hid hc
        clear hc
        by_cases h32 : k < 32
        · go_wp2_with (go_at_call 51; refine ((HC _).out).mono ?_; rintro e w' ⟨rfl, rfl⟩)
          go_roundw
          case rel =>
            refine ⟨k + 1, h32, HAK.out.2, fun j h hj => ?_, by go_num, trivial⟩
            by_cases hjk : j < k
            · exact HALL.out j h hjk
            · obtain rfl : j = k := by omega
              exact (congrArg (fun b => isWrd (UInt8.toNat b)) HYK.out).trans ((congrArg isWrd HY.out).trans HCY.out)
          case measure => simp [intOf]; omega
        · obtain rfl : k = 32 := by omega
          go_wp2_with (go_at_call 51; refine ((HC _).out).mono ?_; rintro e w' ⟨rfl, rfl⟩)
          go_ret2
          refine ⟨32, (min32 _ 32 (Nat.le_refl _) (by rw [List.length_drop]; have := HAK.out.2; omega) HALL.out (.inl rfl)).symm, rfl, ?_⟩
          rw [HF.out, HCY.out]; rfl
    · have hak' : a + k = l.length := by omega
      have HALL := Lib.hid hall
      have HAK := Lib.hid (And.intro hk hak')
      have hn : ¬ a + k < l.length := hlt
      clear hall hak'
      go_wp2_with fail
      go_ret2
      refine ⟨k, (min32 _ k HAK.out.1 (by rw [List.length_drop]; have := HAK.out.2; omega) HALL.out (.inr fun h => by rw [List.length_drop] at h; have := HAK.out.2; omega)).symm, rfl, ?_⟩
      rw [show firstOf (l.drop (a + k)) = 0 by rw [HAK.out.2, firstOf_end]]; rfl
end Go.Proofs.Ytgdjfifnnhfonaa
