/- Names and bounds: the small functions of package size. No conditions. -/
import Derived.Test.YteibnmnpebfefaaM
import Derived.BigQuiet
import Derived.BigRegion
import Derived.Deep.QuietTactic
import Derived.Deep.RegionHeld3
import Derived.Shelf.Abstract
import Derived.OwnWalkIn
namespace Go.Proofs.Yteibnmnpebfefaa
open Go.RowKit Go.Shelf

theorem ret_bool {a b : Bool} (h : a = b) : Ending.returned (.bool a) = .returned (.bool b) := by rw [h]
theorem ret_int {k : IntKind} {a b : Int} (h : a = b) : Ending.returned (.int k a) = .returned (.int k b) := by rw [h]
theorem strL_toList (l : List UInt8) : (strL l).toList = l := by simp [strL]
theorem strL_get (l : List UInt8) (i : Nat) (h : i < (strL l).size) : (strL l)[i] = l[i]'(by rwa [strL_size] at h) := by
  simp [strL, ByteArray.getElem_eq_getElem_data]

def isLet (n : Nat) : Bool := decide (97 ≤ n) && decide (n ≤ 122) || decide (65 ≤ n) && decide (n ≤ 90)
def isDig (n : Nat) : Bool := decide (48 ≤ n) && decide (n ≤ 57)
def isWrd (n : Nat) : Bool := isLet n || isDig n || n == 95
def inB (n a b : Int) : Bool := decide (a ≤ n) && decide (n ≤ b)

set_option maxRecDepth 100000 in
set_option maxHeartbeats 800000 in
theorem sizeWithin (n a b : Int) (w : World) : Calls Try.prog 111 #[.int .i64 n, .int .i64 a, .int .i64 b] w fun e w' => e = .returned (.bool (inB n a b)) ∧ w' = w := by
  go_enter Try.func111, Try.ntmps111
  go_wp2
  all_goals (go_ret; refine ⟨ret_bool ?_, rfl⟩; rw [Bool.eq_iff_iff]; simp [inB, *]; try omega)

set_option maxRecDepth 100000 in
set_option maxHeartbeats 800000 in
theorem sizeLetter (n : Nat) (w : World) : Calls Try.prog 112 #[.int .u8 n] w fun e w' => e = .returned (.bool (isLet n)) ∧ w' = w := by
  go_enter Try.func112, Try.ntmps112
  go_wp2
  all_goals (go_ret; refine ⟨ret_bool ?_, rfl⟩; rw [Bool.eq_iff_iff]; simp [isLet, *]; try omega)

set_option maxRecDepth 100000 in
set_option maxHeartbeats 800000 in
theorem sizeOfName (n : Nat) (w : World) : Calls Try.prog 113 #[.int .u8 n] w fun e w' => e = .returned (.bool (isWrd n)) ∧ w' = w := by
  have HL := fun w => Lib.hid (sizeLetter n w)
  cases h1 : isLet n <;> rw [h1] at HL <;>
  · have H1 := Lib.hid h1
    clear h1
    go_enter Try.func113, Try.ntmps113
    go_wp2_with (go_at_call 112; refine ((HL _).out).mono ?_; rintro e w' ⟨rfl, rfl⟩)
    all_goals (go_ret; refine ⟨ret_bool ?_, rfl⟩; rw [Bool.eq_iff_iff]; simp [isWrd, isDig, H1.out, *]; try omega)

set_option maxRecDepth 100000 in
set_option maxHeartbeats 800000 in
theorem sizeSmall (n : Int) (w : World) : Calls Try.prog 119 #[.int .i64 n] w fun e w' => e = .returned (.bool (inB n (-1048576) 1048576)) ∧ w' = w := by
  have H := fun w => Lib.hid (sizeWithin n (-1048576) 1048576 w)
  obtain ⟨b, hb⟩ : ∃ b, inB n (-1048576) 1048576 = b := ⟨_, rfl⟩
  rw [hb] at H ⊢
  clear hb
  go_enter Try.func119, Try.ntmps119
  go_wp2_with (go_at_call 111; refine ((H _).out).mono ?_; rintro e w' ⟨rfl, rfl⟩)
  go_ret
  exact ⟨rfl, rfl⟩

/-- A name: letters, digits and underscores, a letter first. -/
def nameB (l : List UInt8) : Bool := inB l.length 1 32 && isLet ((l.headD 0).toNat) && l.all (fun b => isWrd b.toNat)

theorem all_get {l : List UInt8} {p : UInt8 → Bool} {i : Nat} (h : i < l.length) (hp : p l[i] = false) : l.all p = false := by
  rw [Bool.eq_false_iff]
  intro ha
  have := List.all_eq_true.1 ha l[i] (List.getElem_mem _)
  rw [hp] at this
  cases this
theorem all_take_succ {l : List UInt8} {p : UInt8 → Bool} {i : Nat} (h : i < l.length) (ht : (l.take i).all p = true) (hp : p l[i] = true) : (l.take (i + 1)).all p = true := by
  rw [List.take_succ_eq_append_getElem h, List.all_append, ht]
  simp [hp]

set_option maxRecDepth 100000 in
set_option maxHeartbeats 1600000 in
theorem sizeName (l : List UInt8) (w : World) : Calls Try.prog 94 #[.string (strL l)] w fun e w' => e = .returned (.bool (nameB l)) ∧ w' = w := by
  have hs : (strL l).size = l.length := strL_size l
  have HWI := fun w => Lib.hid (sizeWithin (l.length : Int) 1 32 w)
  obtain ⟨R, hR⟩ : ∃ R, nameB l = R := ⟨_, rfl⟩
  rw [hR]
  have HR := Lib.hid hR
  clear hR
  by_cases hw : inB (l.length : Int) 1 32 = true
  · rw [hw] at HWI
    have hb : 1 ≤ l.length ∧ l.length ≤ 32 := by
      simp [inB] at hw; omega
    have h0 : 0 < (strL l).size := by omega
    have hli : ((l.length : Nat) : Int) ≤ 32 := by omega
    obtain ⟨b0, hb0⟩ : ∃ b0 : Nat, (strL l)[0].toNat = b0 := ⟨_, rfl⟩
    have hb0' : (l.headD 0).toNat = b0 := by
      rw [← hb0, strL_get]
      cases l with
      | nil => simp at hb
      | cons b l => rfl
    have HL := fun w => Lib.hid (sizeLetter b0 w)
    have HB := Lib.hid hb
    have HW := Lib.hid hw
    have HB0 := Lib.hid hb0'
    clear hb hw hb0'
    cases h1 : isLet b0 with
    | false =>
      rw [h1] at HL
      have H1 := Lib.hid h1
      have hRf : R = false := by rw [← HR.out]; unfold nameB; rw [HB0.out, H1.out, Bool.and_false, Bool.false_and]
      subst hRf
      clear h1
      go_enter Try.func94, Try.ntmps94
      go_wp2_with (first | (go_at_call 111; refine ((HWI _).out).mono ?_; rintro e w' ⟨rfl, rfl⟩) | (go_at_call 112; refine ((HL _).out).mono ?_; rintro e w' ⟨rfl, rfl⟩))
      go_ret
      exact ⟨rfl, rfl⟩
    | true =>
      rw [h1] at HL
      have H1 := Lib.hid h1
      have hall : R = l.all (fun b => isWrd b.toNat) := by rw [← HR.out]; unfold nameB; rw [HB0.out, H1.out, HW.out]; rfl
      have HALL := Lib.hid hall
      clear h1 hall HR
      go_enter Try.func94, Try.ntmps94
      go_wp2_with (first | (go_at_call 111; refine ((HWI _).out).mono ?_; rintro e w' ⟨rfl, rfl⟩) | (go_at_call 112; refine ((HL _).out).mono ?_; rintro e w' ⟨rfl, rfl⟩))
      go_loop [16] (fun x16 => ∃ i : Nat, i ≤ l.length ∧ x16 = .int .i64 ((i : Nat) : Int) ∧ (l.take i).all (fun b => isWrd b.toNat) = true) (fun x16 => l.length - (intOf x16).toNat)
      case atStart => exact ⟨0, Nat.zero_le _, rfl, by simp⟩
      case round =>
        obtain ⟨i, hi, rfl, hall⟩ := hrel
        have HA := Lib.hid hall
        clear hall
        by_cases hlt : i < l.length
        · have h2 : i < (strL l).size := by omega
          have hgb : (strL l)[i].toNat = (l[i]'hlt).toNat := by rw [strL_get]
          have HO := fun w => Lib.hid (sizeOfName ((strL l)[i].toNat) w)
          cases h3 : isWrd ((strL l)[i].toNat) with
          | false =>
            rw [h3] at HO
            have hRf : R = false := by rw [HALL.out]; exact all_get hlt (by rw [← hgb]; exact h3)
            have HRF := Lib.hid hRf
            clear h3 hgb hRf
            go_wp2_with (go_at_call 113; refine ((HO _).out).mono ?_; rintro e w' ⟨rfl, rfl⟩)
            go_ret
            exact ⟨ret_bool HRF.out.symm, rfl⟩
          | true =>
            rw [h3] at HO
            have hn := all_take_succ hlt HA.out (by rw [← hgb]; exact h3)
            have HN := Lib.hid hn
            clear h3 hgb hn
            go_wp2_with (go_at_call 113; refine ((HO _).out).mono ?_; rintro e w' ⟨rfl, rfl⟩)
            go_round
            case rel => exact ⟨i + 1, by omega, by go_num, HN.out⟩
            case measure => simp [intOf]; omega
        · obtain rfl : i = l.length := by omega
          have hRt : R = true := by rw [HALL.out]; have := HA.out; rwa [List.take_length] at this
          have HRT := Lib.hid hRt
          clear hRt
          go_wp2
          go_ret
          exact ⟨ret_bool HRT.out.symm, rfl⟩
  · have hw' : inB (l.length : Int) 1 32 = false := by simpa using hw
    rw [hw'] at HWI
    have hRf : R = false := by rw [← HR.out]; simp [nameB, hw']
    subst hRf
    clear hw hw'
    go_enter Try.func94, Try.ntmps94
    go_wp2_with (go_at_call 111; refine ((HWI _).out).mono ?_; rintro e w' ⟨rfl, rfl⟩)
    go_ret
    exact ⟨rfl, rfl⟩
end Go.Proofs.Yteibnmnpebfefaa
