/- The document's answers: numbers that begin with 0. Conditions: an index lies in the text. -/
import Derived.Test.YtgdjfifnnhfonaaRd
namespace Go.Proofs.Ytgdjfifnnhfonaa
open Go.RowKit Go.Shelf

set_option maxRecDepth 100000 in
set_option maxHeartbeats 3200000 in
theorem refNumber_zero (l : List UInt8) (a : Nat) (w : World) (h1 : a < l.length) (hx0 : l[a].toNat = 48) (hx1 : ∀ h : a + 1 < l.length, l[a + 1].toNat ≠ 120) (hl : l.length ≤ 1099511627776) (hp : preB [48, 120] (l.drop a) = false) :
    Calls Try.prog 31 #[.string (strL l), .int .i64 a] w (NumP l a w) := by
  have hs : (strL l).size = l.length := strL_size l
  have hsa : a < (strL l).size := by rw [hs]; omega
  have hg0 : (strL l)[a].toNat = 48 := (congrArg UInt8.toNat (strL_get l a hsa)).trans hx0
  have hf0 : firstOf (l.drop a) = 48 := (firstOf_at l a h1).trans hx0
  have hR : numberR (l.drop a) = numTail (l.drop a) 1 ((l.drop a).take 1) 0 := by
    unfold numberR
    rw [hf0, if_pos (by rfl), hp, if_neg (by simp), if_pos rfl]
  have tail : ∀ (e : Ending) (w' : World), w' = w → e = (if isWrd (firstOf (l.drop (a + 1))) then .returned (.tuple #[.int .i64 0, .int .i64 0, .int .i64 ((a + 1 : Nat) : Int)]) else .returned (.tuple #[.int .i64 0, .int .i64 ((a + 1 : Nat) : Int), .int .i64 (-1)])) → NumP l a w e w' := by
    rintro e w' rfl rfl
    refine ⟨rfl, ?_⟩
    rw [hR]
    simp only [numTail, List.drop_drop]
    cases isWrd (firstOf (l.drop (a + 1))) <;> simp
  have TAIL := Lib.hid tail
  have HL := Lib.hid hl
  have hx48 : hexI 48 = 0 := by rfl
  have HX0 := fun w => Lib.hid ((refHex_any 48 (by omega) w).mono (fun e w' h => (⟨h.1, h.2.symm⟩ : _ ∧ w = w')))
  rw [hx48] at HX0
  have tq : Int.tdiv (4611686018427387904 : Int) 10 = 461168601842738790 := by rfl
  have hk2 : (((a : Nat) : Int) == ((a : Nat) : Int) + 1) = false := by simp; omega
  clear tail hR hf0 hp hx0 hx48
  by_cases h2 : a + 1 < l.length
  · have hsb : a + 1 < (strL l).size := by rw [hs]; omega
    obtain ⟨z, hz⟩ : ∃ z, l[a + 1].toNat = z := ⟨_, rfl⟩
    have hg1 : (strL l)[a + 1].toNat = z := (congrArg UInt8.toNat (strL_get l (a + 1) hsb)).trans hz
    have hz5 : z ≤ 255 := by have := l[a + 1].toNat_lt; omega
    have hzx : (((z : Nat) : Int) == 120) = false := by
      have := hx1 h2
      have h3 : z ≠ 120 := fun e => this (hz.trans e)
      simp; omega
    have hfz : firstOf (l.drop (a + 1)) = z := (firstOf_at l (a + 1) h2).trans hz
    have HX := fun w => Lib.hid ((refHex_any z hz5 w).mono (fun e w' h => (⟨h.1, h.2.symm⟩ : _ ∧ w = w')))
    have HW := fun w => Lib.hid ((refWordly_any z w).mono (fun e w' h => (⟨h.1, h.2.symm⟩ : _ ∧ w = w')))
    rw [hfz] at TAIL
    clear hz hfz hx1
    go_enter Try.func31, Try.ntmps31
    go_wp2_with fail
    go_loopw [8, 9, 10] (fun x v' d' wr => ∃ k : Nat, k ≤ 1 ∧ x = .int .i64 ((a + k : Nat) : Int) ∧ v' = .int .i64 0 ∧ wr = w) (fun x _ _ _ => l.length - (intOf x).toNat)
    case atStart => exact ⟨0, by omega, by go_num, rfl, rfl⟩
    case round =>
      obtain ⟨k, hk, rfl, rfl, rfl⟩ := hrel
      by_cases hk0 : k = 0
      · subst hk0
        clear HX HW TAIL hk
        go_wp2_with (go_at_call 52; refine ((HX0 _).out).mono ?_; rintro e w' ⟨rfl, rfl⟩)
        go_roundw
        case rel => exact ⟨1, by omega, by go_num, rfl, trivial⟩
        case measure => simp [intOf]; omega
      · obtain rfl : k = 1 := by omega
        clear HX0 hk hk0
        by_cases hd : digOf z < 16
        · have hwz : isWrd z = true := wrd_of_hex z hd
          rw [hexI_lt hd] at HX
          obtain ⟨d, hdd⟩ : ∃ d, digOf z = d := ⟨_, rfl⟩
          rw [hdd] at HX hd
          rw [hwz] at HW TAIL
          have dd0 : decide (((d : Nat) : Int) < 0) = false := decide_eq_false (by omega)
          clear hwz hdd
          by_cases h10 : d < 10
          · have dd1 : decide (((d : Nat) : Int) < 10) = true := decide_eq_true (by omega)
            go_wp2_with (first | (go_at_call 52; refine ((HX _).out).mono ?_; rintro e w' ⟨rfl, rfl⟩) | (go_at_call 51; refine ((HW _).out).mono ?_; rintro e w' ⟨rfl, rfl⟩))
            refine bodyPost_ret (by simp [results, Try.results31, go_sem]; try rfl) rfl ?_
            exact TAIL.out _ _ rfl rfl
          · have dd1 : decide (((d : Nat) : Int) < 10) = false := decide_eq_false (by omega)
            go_wp2_with (first | (go_at_call 52; refine ((HX _).out).mono ?_; rintro e w' ⟨rfl, rfl⟩) | (go_at_call 51; refine ((HW _).out).mono ?_; rintro e w' ⟨rfl, rfl⟩))
            refine bodyPost_ret (by simp [results, Try.results31, go_sem]; try rfl) rfl ?_
            exact TAIL.out _ _ rfl rfl
        · rw [hexI_no hd] at HX
          clear hd
          cases hw : isWrd z <;> rw [hw] at HW TAIL <;> clear hw <;>
          · go_wp2_with (first | (go_at_call 52; refine ((HX _).out).mono ?_; rintro e w' ⟨rfl, rfl⟩) | (go_at_call 51; refine ((HW _).out).mono ?_; rintro e w' ⟨rfl, rfl⟩))
            refine bodyPost_ret (by simp [results, Try.results31, go_sem]; try rfl) rfl ?_
            exact TAIL.out _ _ rfl rfl
  · have he : a + 1 = l.length := by omega
    have he2 : ((a : Nat) : Int) + 1 = ((l.length : Nat) : Int) := by omega
    have HE := Lib.hid he
    clear hx1
    go_enter Try.func31, Try.ntmps31
    go_wp2_with fail
    go_loopw [8, 9, 10] (fun x v' d' wr => ∃ k : Nat, k ≤ 1 ∧ x = .int .i64 ((a + k : Nat) : Int) ∧ v' = .int .i64 0 ∧ wr = w) (fun x _ _ _ => l.length - (intOf x).toNat)
    case atStart => exact ⟨0, by omega, by go_num, rfl, rfl⟩
    case round =>
      obtain ⟨k, hk, rfl, rfl, rfl⟩ := hrel
      by_cases hk0 : k = 0
      · subst hk0
        clear TAIL hk
        go_wp2_with (go_at_call 52; refine ((HX0 _).out).mono ?_; rintro e w' ⟨rfl, rfl⟩)
        go_roundw
        case rel => exact ⟨1, by omega, by go_num, rfl, trivial⟩
        case measure => simp [intOf]; omega
      · obtain rfl : k = 1 := by omega
        clear HX0 hk hk0
        go_wp2_with fail
        refine bodyPost_ret (by simp [results, Try.results31, go_sem]; try rfl) rfl ?_
        refine TAIL.out _ _ rfl ?_
        rw [show firstOf (l.drop (a + 1)) = 0 by rw [HE.out, firstOf_end]]
        rfl
end Go.Proofs.Ytgdjfifnnhfonaa
