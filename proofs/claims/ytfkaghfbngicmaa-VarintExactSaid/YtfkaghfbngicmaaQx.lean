/- Form of the document's own answers. Conditions: at most five bytes. -/
import Derived.Test.YtfkaghfbngicmaaQm
namespace Go.Proofs.Ytfkaghfbngicmaa
open Go.RowKit Go.Shelf

/-- A byte behind bytes of the call's own. -/
theorem run_append_byte (ty : TypeId) {w : World} {base : Nat} {v : Value} {n : Nat} {xs : List Nat} (h : w.ownsRow base 5 1 v n (u8s xs)) (hb : base ≤ w.heap.size) (yi : Int) (y : Nat) (hy : yi = ((y : Nat) : Int)) (hl : n + 1 ≤ 140737488355328) :
    ∃ v' w', (Builtin.append_ #[22, 22] ty #[v, .slice (some ⟨w.heap.size, 0, none⟩) 1 1]).run Try.prog (w.alloc (.cells #[.int .u8 yi] 5)) = .ok v' w' ∧ w'.ownsRow base 5 1 v' (n + 1) (u8s (xs ++ [y])) ∧ Below base w w' := by
  subst hy
  obtain ⟨i, hi, hz, hsz, hby⟩ := info_parts Try.infB
  have hal := below_new w (.cells #[.int .u8 ((y : Nat) : Int)] 5)
  have h' : (w.alloc (.cells #[.int .u8 ((y : Nat) : Int)] 5)).ownsRow base 5 1 v n (u8s xs) := Rest.row (S := fun _ => False) (Rest.below hal) h (fun _ _ e => e)
  obtain ⟨v', w', hrun, r1, r2, _⟩ := run_append_own (P := Try.prog) (w.alloc (.cells #[.int .u8 ((y : Nat) : Int)] 5)) base 22 ty 5 i (.int .u8 0) 1 1 Try.undL hi hz hsz hby rfl (by decide) v n (u8s xs) h' ⟨w.heap.size, 0, none⟩ 1 1 (u8s [y]) rfl (fun j u hu => by
    have hj := (List.getElem?_eq_some_iff.1 hu).1
    simp [u8s] at hj
    subst hj
    simp [u8s] at hu
    subst hu
    simp [Addr.add]) (one_u8s _) (Nat.le_trans hl (by decide)) (by omega) (Nat.le_trans hb hal.size)
  refine ⟨v', w', hrun, by rw [u8s_append]; exact r1, (hal.mono hb).trans ⟨r2.os, r2.tape, r2.output, r2.size, fun k hk => r2.block k (by have := hal.size; omega) (fun e => ?_)⟩⟩
  have := (h.lt k e.symm).1
  omega

theorem formV_step (v n k : Nat) (h : k < n) (y : Nat) (hy : y = v / 128 ^ k % 128 + if k + 1 < n then 128 else 0) : (formV v n).take (k + 1) = (formV v n).take k ++ [y] := by
  rw [List.take_succ_eq_append_getElem (by rw [formV_len]; exact h), formV_get _ _ _ h, hy]
theorem div_step (v k : Nat) : v / 128 ^ k / 128 = v / 128 ^ (k + 1) := by
  rw [Nat.pow_succ, Nat.div_div_eq_div_mul]

set_option maxRecDepth 100000 in
set_option maxHeartbeats 3200000 in
theorem rform_any (v n : Nat) (hv : v < 34359738368) (hn : n ≤ 5) (w : World) :
    Calls Try.prog 35 #[.int .i64 v, .int .i64 n] w fun e w' => ∃ s, e = .returned (.tuple #[s, .bool (decide (v < 128 ^ n))]) ∧ w'.ownsRow w.heap.size 5 1 s n (u8s (formV v n)) ∧ Below w.heap.size w w' := by
  have hR : decide (v < 128 ^ n) = decide (v / 128 ^ n = 0) := by
    rw [Bool.eq_iff_iff, decide_eq_true_eq, decide_eq_true_eq, Nat.div_eq_zero_iff]
    have := pow_pos' n
    omega
  obtain ⟨R, hRR⟩ : ∃ R, decide (v < 128 ^ n) = R := ⟨_, rfl⟩
  rw [hRR] at hR ⊢
  have HR := Lib.hid hR
  have H0 := Lib.hid (World.ownsRow_nil w w.heap.size 5 1)
  clear hR hRR
  go_enter Try.func35, Try.ntmps35
  go_wp2
  go_loopw [0, 6, 7] (fun x0 x6 x7 wr => ∃ k : Nat, k ≤ n ∧ x7 = .int .i64 ((k : Nat) : Int) ∧ x0 = .int .i64 ((v / 128 ^ k : Nat) : Int) ∧ wr.ownsRow w.heap.size 5 1 x6 k (u8s ((formV v n).take k)) ∧ Below w.heap.size w wr) (fun _ _ x7 _ => n - (intOf x7).toNat)
  case atStart => exact ⟨0, Nat.zero_le _, rfl, by simp, by simpa [u8s] using H0.out, Below.refl _ _⟩
  case round =>
    obtain ⟨k, hk, rfl, rfl, hown, hbel⟩ := hrel
    by_cases hlt : k < n
    · have hq : v / 128 ^ k ≤ v := Nat.div_le_self _ _
      have hds := div_step v k
      obtain ⟨q, hqq⟩ : ∃ q, v / 128 ^ k = q := ⟨_, rfl⟩
      have hst := formV_step v n k hlt _ rfl
      rw [hqq] at hq hds hst ⊢
      have HDS := Lib.hid hds
      have hki : ((k : Nat) : Int) < ((n : Nat) : Int) := by omega
      by_cases hlast : k + 1 < n
      · rw [if_pos hlast] at hst
        obtain ⟨v', w', hrun, hown', hb'⟩ := run_append_byte 22 hown hbel.size (((q : Nat) : Int) % 128 + 128) (q % 128 + 128) (by omega) (by omega)
        rw [← hst] at hown'
        have hl1 : ((k : Nat) : Int) < ((n : Nat) : Int) - 1 := by omega
        have HRUN := Lib.hid hrun
        have HOW := Lib.hid hown'
        have HB := Lib.hid (hbel.trans hb')
        clear hrun hown' hb' hown hbel hst hqq hds
        go_wp2_with (at_builtin; refine wpList_append_eq rfl _ _ 22 rfl rfl rfl HRUN.out ?_)
        go_roundw
        case rel => exact ⟨k + 1, by omega, by go_num, by rw [← HDS.out]; go_num, HOW.out, HB.out⟩
        case measure => simp [intOf]; omega
      · rw [if_neg hlast] at hst
        obtain ⟨v', w', hrun, hown', hb'⟩ := run_append_byte 22 hown hbel.size (((q : Nat) : Int) % 128) (q % 128 + 0) (by omega) (by omega)
        rw [← hst] at hown'
        have hl1 : ((n : Nat) : Int) - 1 ≤ ((k : Nat) : Int) := by omega
        have HRUN := Lib.hid hrun
        have HOW := Lib.hid hown'
        have HB := Lib.hid (hbel.trans hb')
        clear hrun hown' hb' hown hbel hst hqq hds
        go_wp2_with (at_builtin; refine wpList_append_eq rfl _ _ 22 rfl rfl rfl HRUN.out ?_)
        go_roundw
        case rel => exact ⟨k + 1, by omega, by go_num, by rw [← HDS.out]; go_num, HOW.out, HB.out⟩
        case measure => simp [intOf]; omega
    · obtain rfl : k = n := by omega
      rw [List.take_of_length_le (by rw [formV_len]; omega)] at hown
      have HOW := Lib.hid hown
      have HB := Lib.hid hbel
      obtain ⟨q, hqq⟩ : ∃ q, v / 128 ^ k = q := ⟨_, rfl⟩
      rw [hqq] at HR ⊢
      have hz : (((q : Nat) : Int) == 0) = R := by
        rw [HR.out, Bool.eq_iff_iff]; simp
      clear hown hbel hqq
      go_wp2
      go_ret2
      exact ⟨_, rfl, HOW.out, HB.out⟩
end Go.Proofs.Ytfkaghfbngicmaa
