/- digits: the digits of a number up to the first one with which it is too great. Conditions: the scanner lies in memory; its place and the text are far below the greatest number; the base is from 1 to 16. -/
import Derived.Test.YtgdjfifnnhfonaaC
import Derived.Deep.CutRange
namespace Go.Proofs.Ytgdjfifnnhfonaa
open Go.RowKit Go.Shelf

theorem digOf_le (n : Nat) : digOf n ≤ 16 := by
  unfold digOf isDig
  split
  · rename_i h; simp at h; omega
  · split
    · omega
    · split <;> omega

set_option maxRecDepth 100000 in
set_option maxHeartbeats 800000 in
theorem digit_any (n : Nat) (hn : n ≤ 255) (w : World) : Calls Try.prog 80 #[.int .u8 ((n : Nat) : Int)] w fun e w' => e = .returned (.int .i64 (digOf n)) ∧ w' = w := by
  have HD := fun w => Lib.hid (dig_any n w)
  cases hd : isDig n with
  | true =>
    have hR : digOf n = n - 48 := by unfold digOf; rw [hd]; rfl
    have hb : 48 ≤ n ∧ n ≤ 57 := by unfold isDig at hd; simpa using hd
    obtain ⟨m, rfl⟩ : ∃ m, n = m + 48 := ⟨n - 48, by omega⟩
    rw [hR, show m + 48 - 48 = m by omega]
    rw [hd] at HD
    have hm : m ≤ 9 := by omega
    have e1 : (((m + 48 : Nat) : Int)) - 48 = m := by omega
    clear hd hR hb hn
    go_enter Try.func80, Try.ntmps80
    go_wp2_with (go_at_call 70; refine ((HD _).out).mono ?_; rintro e w' ⟨rfl, rfl⟩)
    go_ret
    exact ⟨ret_int (by omega), rfl⟩
  | false =>
    rw [hd] at HD
    have H := Lib.hid hd
    clear hd
    by_cases h1 : 97 ≤ n ∧ n ≤ 102
    · have hR : digOf n = n - 87 := by unfold digOf; rw [H.out, if_neg (by simp), if_pos h1]
      obtain ⟨h1a, h1b⟩ := h1
      rw [hR]
      clear hR H
      go_enter Try.func80, Try.ntmps80
      go_wp2_with (go_at_call 70; refine ((HD _).out).mono ?_; rintro e w' ⟨rfl, rfl⟩)
      all_goals (go_ret; exact ⟨ret_int (by omega), rfl⟩)
    · by_cases h2 : 65 ≤ n ∧ n ≤ 70
      · have hR : digOf n = n - 55 := by unfold digOf; rw [H.out, if_neg (by simp), if_neg h1, if_pos h2]
        obtain ⟨h2a, h2b⟩ := h2
        rw [hR]
        clear hR H h1
        go_enter Try.func80, Try.ntmps80
        go_wp2_with (go_at_call 70; refine ((HD _).out).mono ?_; rintro e w' ⟨rfl, rfl⟩)
        all_goals (go_ret; exact ⟨ret_int (by omega), rfl⟩)
      · have hR : digOf n = 16 := by unfold digOf; rw [H.out, if_neg (by simp), if_neg h1, if_neg h2]
        rw [hR]
        have G := Lib.hid (And.intro h1 h2)
        clear hR H h1 h2
        go_enter Try.func80, Try.ntmps80
        go_wp2_with (go_at_call 70; refine ((HD _).out).mono ?_; rintro e w' ⟨rfl, rfl⟩)
        all_goals first
          | (go_ret; exact ⟨rfl, rfl⟩)
          | (exfalso; have := G.out; omega)

/-- A digit with which a number does not become too great. -/
def fitsD (bv v d : Nat) : Bool := decide (d < bv) && decide (v ≤ (4611686018427387904 - d) / bv)

theorem fits_sum {bv v d : Nat} (hb : 1 ≤ bv) (h : fitsD bv v d = true) (hd : d ≤ 16) : v * bv + d ≤ 4611686018427387904 := by
  unfold fitsD at h
  simp only [Bool.and_eq_true, decide_eq_true_eq] at h
  have := (Nat.le_div_iff_mul_le (by omega)).1 h.2
  omega

set_option maxRecDepth 100000 in
set_option maxHeartbeats 1600000 in
theorem dig1_any (bb vb bv v y : Nat) (hy : y ≤ 255) (W : World) (hbb : Boxed W bb 3 (.int .i64 bv)) (hvb : Boxed W vb 3 (.int .i64 v)) (h1 : 1 ≤ bv) (h2 : bv ≤ 16) (h3 : v ≤ 4611686018427387904) :
    Calls Try.prog 79 #[.int .u8 ((y : Nat) : Int), .pointer (some ⟨bb, 0, none⟩), .pointer (some ⟨vb, 0, none⟩)] W fun e W' =>
      (fitsD bv v (digOf y) = true ∧ e = .returned (.bool true) ∧ ∃ n, W' = (W.drewN n).setCell ⟨vb, 0, none⟩ (.int .i64 ((v * bv + digOf y : Nat) : Int))) ∨ (fitsD bv v (digOf y) = false ∧ e = .returned (.bool false) ∧ ∃ n, W' = W.drewN n) := by
  have HD := fun w => Lib.hid (digit_any y hy w)
  have hd16 := digOf_le y
  generalize digOf y = d at HD hd16 ⊢
  have c1 := hbb.cell
  have c2 := hvb.cell
  have f2 := hvb.frozen
  obtain ⟨qt, hqt⟩ : ∃ qt : Nat, (4611686018427387904 - d) / bv = qt := ⟨_, rfl⟩
  obtain ⟨M, hM⟩ : ∃ M : Nat, 4611686018427387904 - d = M := ⟨_, rfl⟩
  have hwr : IntKind.i64.wrap ((4611686018427387904 : Int) - (d : Nat)) = (M : Nat) := by
    rw [show ((4611686018427387904 : Int) - (d : Nat)) = (M : Nat) by omega]
    exact IntWalk.i64_in _ (by omega)
  have hwr2 : ((4611686018427387904 : Int) - (d : Nat)) = (M : Nat) := by omega
  have htd : Int.tdiv ((M : Nat) : Int) ((bv : Nat) : Int) = (qt : Nat) := by
    rw [← Int.ofNat_tdiv, ← hM, hqt]
  have hqM : qt ≤ 4611686018427387904 := by rw [← hqt]; exact Nat.le_trans (Nat.div_le_self _ _) (by omega)
  have hb0 : ((((bv : Nat) : Int)) == 0) = false := by simpa using (by omega : ¬ bv = 0)
  have hf : fitsD bv v d = (decide (d < bv) && decide (v ≤ qt)) := by unfold fitsD; rw [hqt]
  have FS := fun h => Lib.hid (fits_sum (v := v) (d := d) h1 h hd16)
  rw [hf] at FS ⊢
  clear hbb hvb hqt hM hf hy
  by_cases hdb : d < bv
  · have a1 : decide (((bv : Nat) : Int) ≤ ((d : Nat) : Int)) = false := decide_eq_false (by omega)
    have a2 : decide (bv ≤ d) = false := decide_eq_false (by omega)
    by_cases hvq : v ≤ qt
    · have b1 : decide (((qt : Nat) : Int) < ((v : Nat) : Int)) = false := decide_eq_false (by omega)
      have b2 : decide (qt < v) = false := decide_eq_false (by omega)
      have hs := (FS (by simp [hdb, hvq])).out
      obtain ⟨P, hP⟩ : ∃ P, v * bv = P := ⟨_, rfl⟩
      rw [hP] at hs
      have hmul : ((v : Nat) : Int) * ((bv : Nat) : Int) = ((P : Nat) : Int) := by rw [← hP]; push_cast; rfl
      have HP := Lib.hid hP
      have HB := Lib.hid (And.intro hdb hvq)
      clear FS hdb hvq hP
      go_enter Try.func79, Try.ntmps79
      go_wp2_with (go_at_call 80; refine ((HD _).out).mono ?_; rintro e w' ⟨rfl, rfl⟩)
      go_quiet (fail)
      go_wp2
      go_ret
      refine .inl ⟨by simp [HB.out.1, HB.out.2], rfl, nq, ?_⟩
      rw [HP.out, show ((P + d : Nat) : Int) = (P : Int) + (d : Nat) by omega]
    · have b1 : decide (((qt : Nat) : Int) < ((v : Nat) : Int)) = true := decide_eq_true (by omega)
      have b2 : decide (qt < v) = true := decide_eq_true (by omega)
      have HB := Lib.hid (And.intro hdb hvq)
      clear FS hdb hvq
      go_enter Try.func79, Try.ntmps79
      go_wp2_with (go_at_call 80; refine ((HD _).out).mono ?_; rintro e w' ⟨rfl, rfl⟩)
      go_quiet (fail)
      go_wp2
      go_ret
      exact .inr ⟨by have := HB.out; simp; intro; omega, rfl, nq, rfl⟩
  · have a1 : decide (((bv : Nat) : Int) ≤ ((d : Nat) : Int)) = true := decide_eq_true (by omega)
    have a2 : decide (bv ≤ d) = true := decide_eq_true (by omega)
    have HB := Lib.hid hdb
    clear FS hdb
    go_enter Try.func79, Try.ntmps79
    go_wp2_with (go_at_call 80; refine ((HD _).out).mono ?_; rintro e w' ⟨rfl, rfl⟩)
    go_quiet (fail)
    go_wp2
    go_ret
    exact .inr ⟨by have := HB.out; simp; intro; omega, rfl, nq, rfl⟩

/-- How far the digits of a number reach, and its value. -/
def digs (bv : Nat) : List UInt8 → Nat → Nat × Nat
  | [], v => (0, v)
  | b :: l, v => if fitsD bv v (digOf b.toNat) then ((digs bv l (v * bv + digOf b.toNat)).1 + 1, (digs bv l (v * bv + digOf b.toNat)).2) else (0, v)

set_option maxRecDepth 100000 in
set_option maxHeartbeats 1600000 in
theorem digits_any (p ln cn bv : Nat) (l : List UInt8) (w : World) (h : KAt w p l ln cn) (hb1 : 1 ≤ bv) (hb2 : bv ≤ 16) (h1 : ln ≤ 1099511627776) (h2 : cn ≤ 1099511627776) (h3 : l.length ≤ 1099511627776) :
    Calls Try.prog 73 #[.pointer (some ⟨p, 0, none⟩), .int .i64 bv] w fun e w' => ∃ n v, digs bv l 0 = (n, v) ∧ n ≤ l.length ∧ v ≤ 4611686018427387904 ∧ e = .returned (.tuple #[.string (strL (l.take n)), .int .i64 v]) ∧ KAt w' p (l.drop n) (adv (l.take n) (ln, cn)).1 (adv (l.take n) (ln, cn)).2 ∧ Rest (fun k => k = p) w w' := by
  have hpl := h.lt
  obtain ⟨bb, ebb⟩ : ∃ bb, w.heap.size = bb := ⟨_, rfl⟩
  have hw1 : Below w.heap.size w ((w.alloc (.cells #[.int .i64 bv] 3)).alloc (.cells #[.int .i64 0] 3)) := ((Below.refl _ _).alloc (Nat.le_refl _) _).alloc (by simp) _
  have hx1 : Boxed ((w.alloc (.cells #[.int .i64 bv] 3)).alloc (.cells #[.int .i64 0] 3)) bb 3 (.int .i64 bv) := by rw [← ebb]; exact (Boxed.new w 3 _).alloc _
  have hx2 : Boxed ((w.alloc (.cells #[.int .i64 bv] 3)).alloc (.cells #[.int .i64 0] 3)) (bb + 1) 3 (.int .i64 ((0 : Nat) : Int)) := by
    have := Boxed.new (w.alloc (.cells #[.int .i64 bv] 3)) 3 (.int .i64 ((0 : Nat) : Int))
    rw [World.size_alloc, ebb] at this
    exact this
  obtain ⟨w1, ew1⟩ : ∃ w1, (w.alloc (.cells #[.int .i64 bv] 3)).alloc (.cells #[.int .i64 0] 3) = w1 := ⟨_, rfl⟩
  rw [ew1] at hw1 hx1 hx2
  have hk1 := h.below hw1 hpl
  have hrun := run_any p ln cn l 79 #[.pointer (some ⟨bb, 0, none⟩), .pointer (some ⟨bb + 1, 0, none⟩)] Try.ent79
    (fun k W => KAt W p l ln cn ∧ Boxed W bb 3 (.int .i64 bv) ∧ ∃ v, Boxed W (bb + 1) 3 (.int .i64 ((v : Nat) : Int)) ∧ v ≤ 4611686018427387904 ∧ digs bv l 0 = (k + (digs bv (l.drop k) v).1, (digs bv (l.drop k) v).2) ∧ Rest (fun i => i = bb + 1) w1 W)
    (fun k W => KAt W p l ln cn ∧ Boxed W bb 3 (.int .i64 bv) ∧ ∃ v, Boxed W (bb + 1) 3 (.int .i64 ((v : Nat) : Int)) ∧ v ≤ 4611686018427387904 ∧ digs bv l 0 = (k, v) ∧ Rest (fun i => i = bb + 1) w1 W) w1
    (fun k W h => h.1) (fun k W h => h.1) ?hI ⟨hk1, hx1, 0, hx2, by omega, by simp, Rest.refl _ _⟩ h1 h2 h3
  case hI =>
    rintro k hk y rfl W ⟨g1, g2, v, g3, g4, g5, g6⟩
    refine (dig1_any bb (bb + 1) bv v (l[k].toNat) (by have := l[k].toNat_lt; omega) W g2 g3 hb1 hb2 g4).mono ?_
    have hdk : l.drop k = l[k] :: l.drop (k + 1) := List.drop_eq_getElem_cons hk
    rintro e W' (⟨hf, rfl, nn, rfl⟩ | ⟨hf, rfl, nn, rfl⟩)
    · have hr' := (Rest.below (S := fun i => i = bb + 1) (below_drewN W nn)).setCell (S := fun i => i = bb + 1) (p := ⟨bb + 1, 0, none⟩) (fun _ => rfl) (.int .i64 ((v * bv + digOf l[k].toNat : Nat) : Int))
      refine .inl ⟨rfl, g1.rest hr' (by omega), boxed_rest g2 hr' (by omega), _, Boxed.set _ (boxed_below g3 (below_drewN W nn) g3.lt), fits_sum hb1 hf (digOf_le _), ?_, g6.trans hr' (fun _ _ e => e)⟩
      rw [g5, hdk, digs, if_pos hf]
      simp; omega
    · have hr' := Rest.below (S := fun i => i = bb + 1) (below_drewN W nn)
      refine .inr ⟨rfl, g1.rest hr' (by omega), boxed_rest g2 hr' (by omega), v, boxed_below g3 (below_drewN W nn) g3.lt, g4, ?_, g6.trans hr' (fun _ _ e => e)⟩
      rw [g5, hdk, digs, if_neg (by rw [hf]; simp)]
      simp
  have RUN := Lib.hid hrun
  have W1 := Lib.hid ew1
  have EBB := Lib.hid ebb
  have PL := Lib.hid hpl
  have HW1 := Lib.hid hw1
  clear hrun ew1 ebb hpl hw1 hx1 hx2 hk1 h
  go_enter Try.func73, Try.ntmps73
  go_wp2_with fail
  rw [W1.out, EBB.out]
  refine RUN.out.mono ?_
  rintro e w3 ⟨n, W, hnl, hc, rfl, hk3, hr3⟩
  have hcc : ∃ v, Boxed W (bb + 1) 3 (.int .i64 ((v : Nat) : Int)) ∧ v ≤ 4611686018427387904 ∧ digs bv l 0 = (n, v) ∧ Rest (fun i => i = bb + 1) w1 W := by
    rcases hc with ⟨rfl, _, _, v, g3, g4, g5, g6⟩ | ⟨_, _, _, v, g3, g4, g5, g6⟩
    · refine ⟨v, g3, g4, ?_, g6⟩
      rw [g5, List.drop_length]
      simp [digs]
    · exact ⟨v, g3, g4, g5, g6⟩
  obtain ⟨v, hv, hv2, hd, hrW⟩ := hcc
  have hv3 := boxed_rest hv hr3 (by have := PL.out; have := EBB.out; omega)
  have hr4 : Rest (fun i => i = p) w w3 := (((Rest.below (S := fun i => i = p ∨ i = bb + 1) HW1.out).trans hrW (fun _ _ e => .inr e)).trans hr3 (fun _ _ e => .inl e)).mono (fun i hi e => by rcases e with e | e; exact e; have := EBB.out; omega)
  have cv := hv3.cell
  have fv := hv3.frozen
  have V3 := Lib.hid hv3
  have R4 := Lib.hid hr4
  have K3 := Lib.hid hk3
  have HD := Lib.hid hd
  have HV := Lib.hid (And.intro hnl hv2)
  clear hnl hc hk3 hr3 hv hv2 hd hrW hv3 hr4 RUN W1 HW1
  go_wp2_with fail
  go_region
  have hr5 : Rest (fun i => i = bb + 1) w3 (w3.setCell ⟨bb + 1, 0, none⟩ (.int .i64 ((v : Nat) : Int))).drew := ((Rest.refl (fun i => i = bb + 1) w3).setCell (S := fun i => i = bb + 1) (p := ⟨bb + 1, 0, none⟩) (fun _ => rfl) _).drew
  have c5 : (w3.setCell ⟨bb + 1, 0, none⟩ (.int .i64 ((v : Nat) : Int))).drew.cell? ⟨bb + 1, 0, none⟩ = some (.int .i64 ((v : Nat) : Int)) := (Boxed.set (.int .i64 ((v : Nat) : Int)) V3.out).cell
  generalize (w3.setCell ⟨bb + 1, 0, none⟩ (.int .i64 ((v : Nat) : Int))).drew = w5 at hr5 c5 ⊢
  clear cv fv
  go_wp2_with fail
  refine bodyPost_ret (by simp [results, Try.results73, go_sem, *]; try rfl) rfl ?_
  exact ⟨n, v, HD.out, HV.out.1, HV.out.2, rfl, K3.out.rest hr5 (by have := PL.out; have := EBB.out; omega), R4.out.trans hr5 (fun i hi e => by have := EBB.out; omega)⟩
end Go.Proofs.Ytgdjfifnnhfonaa
