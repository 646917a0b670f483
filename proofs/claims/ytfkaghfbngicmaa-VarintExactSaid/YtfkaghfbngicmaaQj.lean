/- The iterator of the forms of an integer, for a body that knows which form it is given. Conditions: the body leaves the captured integer as it is. -/
import Derived.Test.YtfkaghfbngicmaaQi
import Derived.Test.YtfkaghfbngicmaaRf
import Derived.Stop.RegionWithIn
namespace Go.Proofs.Ytfkaghfbngicmaa
open Go.RowKit Go.Shelf
attribute [local go_sem] Oper.semAt_some

set_option maxRecDepth 100000 in
set_option maxHeartbeats 1600000 in
theorem forms_at (n : Nat) (hn : 1 ≤ n) (l vb v : Nat) (hv : v < 34359738368) (J Jx : Nat → World → Prop) (W0 : World) (lo : Nat)
    (hJ : ∀ k W W', J k W → Below W.heap.size W W' → J k W')
    (hJv : ∀ k W, J k W → W.cell? ⟨vb, 0, none⟩ = some (.int .i64 ((v : Nat) : Int)) ∧ lo ≤ W.heap.size)
    (hS : ∀ k W, J k W → 1 ≤ k → k ≤ 5 → ¬ v < 128 ^ k → J (k + 1) W)
    (hY : ∀ k g W, J k W → 1 ≤ k → k ≤ 5 → v < 128 ^ k → lo ≤ g → W.heap[g]? = some (.cells (u8s (formV v k)).toArray 5 (0, 0)) →
      YieldAt Fence.wide (n - 1) Try.prog l #[.slice (some ⟨g, 0, none⟩) k k] W fun e W' => ∃ b, e = .returned (.bool b) ∧ (b = true → J (k + 1) W') ∧ (b = false → Jx k W'))
    (h0 : J 1 W0) :
    CallsIn Fence.wide n Try.prog 31 #[.func (.yield l) #[] #[], .pointer (some ⟨vb, 0, none⟩)] W0 fun e W' => (∃ v, e = .returned v) ∧
      (J 6 W' ∨ ∃ k, 1 ≤ k ∧ k ≤ 5 ∧ v < 128 ^ k ∧ Jx k W') := by
  have HJ := Lib.hid hJ
  have HJV := Lib.hid hJv
  have HS := Lib.hid hS
  have HY := Lib.hid hY
  have H0 := Lib.hid h0
  have HI := fun w => Lib.hid (isInt_at (v : Nat) true ((okV_iff _).2 (by omega)) w)
  obtain ⟨hc0, _⟩ := hJv 1 W0 h0
  clear hJ hJv hS hY h0
  refine callsIn_of_wp Try.func31 rfl trivial ?_ rfl
  simp only [Try.ntmps31, List.size_toArray, List.length_cons, List.length_nil, Nat.reduceAdd, Nat.reduceSub, Array.replicate_succ, Array.replicate_zero, List.push_toArray, List.append_toArray, List.nil_append, List.cons_append]
  gi_wp2_with fail
  refine ⟨trivial, ?_⟩
  refine (callsIn_wide.2 (HI _).out).mono ?_
  rintro e w' ⟨rfl, rfl⟩
  gi_wp2_with fail
  clear hc0
  gi_loopw [3] (fun x3 wr => ∃ k : Nat, 1 ≤ k ∧ k ≤ 6 ∧ x3 = .int .i64 ((k : Nat) : Int) ∧ J k wr) (fun x3 _ => 6 - (intOf x3).toNat)
  case atStart => exact ⟨1, by omega, by omega, rfl, H0.out⟩
  case round =>
    obtain ⟨k, hk1, hk6, rfl, hJk⟩ := hrel
    by_cases hlt : k ≤ 5
    · have c0 := (HJV.out _ _ hJk).1
      have HW := fun w => Lib.hid (weight_any k hlt w)
      have HF := fun w => Lib.hid (form_any v k hv hk1 hlt w)
      obtain ⟨P, hP⟩ : ∃ P, 128 ^ k = P := ⟨_, rfl⟩
      rw [hP] at HW
      have HP := Lib.hid hP
      clear hP
      have hki : ((k : Nat) : Int) ≤ 5 := by omega
      by_cases hvP : v < P
      · have hd : decide (((v : Nat) : Int) < ((P : Nat) : Int)) = true := decide_eq_true (by omega)
        have hsz := (HJV.out _ _ hJk).2
        have hbl : Below wr.heap.size wr (wr.drew.alloc (.cells (u8s (formV v k)).toArray 5)) := (Below.refl _ wr).drew.alloc (Nat.le_refl _) _
        have hg : (wr.drew.alloc (.cells (u8s (formV v k)).toArray 5)).heap[wr.heap.size]? = some (.cells (u8s (formV v k)).toArray 5 (0, 0)) := heap_alloc_new wr.drew _
        have HFd : Calls Try.prog 34 #[.int .i64 v, .int .i64 k] wr.drew fun e w' => e = .returned (.slice (some ⟨wr.heap.size, 0, none⟩) k k) ∧ wr.drew.alloc (.cells (u8s (formV v k)).toArray 5) = w' :=
          (HF _).out.mono fun e w' ⟨h1, h2⟩ => ⟨h1, h2.symm⟩
        obtain ⟨w6, hw6⟩ : ∃ w6, wr.drew.alloc (.cells (u8s (formV v k)).toArray 5) = w6 := ⟨_, rfl⟩
        obtain ⟨g, eg⟩ : ∃ g, wr.heap.size = g := ⟨_, rfl⟩
        rw [hw6] at hbl hg HFd
        rw [eg] at hg HFd hsz
        have hJ6 := HJ.out _ _ _ hJk hbl
        obtain ⟨fn, tmps, assign, body, hy, hR⟩ := HY.out k g w6 hJ6 hk1 hlt (by rw [HP.out]; exact hvP) hsz hg
        have HR := Lib.hid hR
        have HFD := Lib.hid HFd
        have HWD := Lib.hid (HW wr.drew).out
        clear hJk hsz hbl hg HFd hw6 eg hJ6 hR
        gi_wp2_with fail
        gi_region_with (first | (refine ⟨trivial, ?_⟩; gi_at_call 33; refine (callsIn_wide.2 HWD.out).mono ?_; rintro e w' ⟨rfl, rfl⟩) | (refine ⟨trivial, ?_⟩; gi_at_call 34; refine (callsIn_wide.2 HFD.out).mono ?_; rintro e w' ⟨rfl, rfl⟩) | (refine HR.out.mono ?_; rintro e W3 ⟨b, rfl, h1, h2⟩))
        all_goals
          cases b with
          | true =>
            have H1 := Lib.hid (h1 rfl)
            clear h1 h2
            gi_wp2_with fail
            go_roundw
            case rel => exact ⟨k + 1, by omega, by omega, by go_num, H1.out⟩
            case measure => simp [intOf]; omega
          | false =>
            have H2 := Lib.hid (h2 rfl)
            clear h1 h2
            gi_wp2_with fail
            refine bodyPost_ret (results_none rfl _ _ _) rfl ?_
            exact ⟨⟨_, rfl⟩, .inr ⟨k, hk1, hlt, by rw [HP.out]; exact hvP, H2.out⟩⟩
      · have hd : decide (((v : Nat) : Int) < ((P : Nat) : Int)) = false := decide_eq_false (by omega)
        have hdn : decide (v < P) = false := decide_eq_false hvP
        have HN := Lib.hid (HS.out k wr hJk hk1 hlt (by rw [HP.out]; exact hvP))
        clear hJk
        gi_wp2_with fail
        refine wpIn_wide.2 ?_
        refine wp_region_quiet_lit (by kernel_rfl) (by kernel_rfl) ?_
        repeat (go_big_quiet_step ((go_at_call 33; exact quiet_same (HW _).out)))
        refine wpQuiet_nil ?_
        rintro _ ⟨nq, rfl⟩
        gi_wp2_with fail
        go_roundw
        case rel => exact ⟨k + 1, by omega, by omega, by go_num, HJ.out _ _ _ HN.out (below_drewN wr nq)⟩
        case measure => simp [intOf]; omega
    · obtain rfl : k = 6 := by omega
      have HJk := Lib.hid hJk
      clear hJk
      gi_wp2
      go_end0
      exact ⟨⟨_, rfl⟩, .inl HJk.out⟩
end Go.Proofs.Ytfkaghfbngicmaa
