/- The document's own answers on a writer: Align, and whatever the call. Conditions: at most 8388608 bits; the call's kind is below 256. -/
import Derived.Test.YtboiiohpkoodpaaWe
namespace Go.Proofs.Ytboiiohpkoodpaa
open Go.RowKit Go.Shelf

theorem one_false (w : World) : (w.alloc (.cells #[.bool false] 4)).ownsRow w.heap.size 4 1 (.slice (some ⟨w.heap.size, 0, none⟩) 1 1) [false].length (bools [false]) :=
  World.ownsRow_lit (base := w.heap.size) (e := 4) (size := 1) w #[.bool false] 1 (Nat.le_refl _) (by decide) rfl

set_option maxRecDepth 100000 in
set_option maxHeartbeats 800000 in
theorem refAlign_two (A : Option Addr) (c : Nat) (l : List Bool) (base : Nat) (n : Int) (w : World) (h : w.ownsRow base 4 1 (.slice A l.length c) l.length (bools l)) (hn : n < 1 ∨ 4096 < n) :
    Calls Try.prog 40 #[.slice A l.length c, .int .i64 n] w (RefWrote base l 2 w) := by
  have H := Lib.hid h
  clear h
  by_cases h1 : n < 1
  · clear hn
    go_enter Try.func40, Try.ntmps40
    go_wp2
    go_ret2
    exact ⟨A, c, rfl, H.out, Below.refl _ _⟩
  · have h2 : 4096 < n := by omega
    clear hn
    go_enter Try.func40, Try.ntmps40
    go_wp2
    go_ret2
    exact ⟨A, c, rfl, H.out, Below.refl _ _⟩

set_option maxRecDepth 100000 in
set_option maxHeartbeats 1600000 in
theorem refAlign_go (A : Option Addr) (c : Nat) (l : List Bool) (base n t : Nat) (w : World) (h : w.ownsRow base 4 1 (.slice A l.length c) l.length (bools l)) (hbase : base ≤ w.heap.size) (hl : l.length ≤ 8388608) (h1 : 1 ≤ n) (h2 : n ≤ 4096) (ht : bord l.length n = t) (l' : List Bool) (C : Int) (h3 : 8388608 < t → l' = l ∧ C = 7) (h4 : ¬ 8388608 < t → l' = l ++ List.replicate (t - l.length) false ∧ C = 0) :
    Calls Try.prog 40 #[.slice A l.length c, .int .i64 n] w (RefWrote base l' C w) := by
  have hge := bord_ge l.length n h1
  have hlt := bord_lt l.length n h1
  have hm0 := bord_mod l.length n
  have hfst := fun t a b => bord_first l.length n t a b h1
  rw [ht] at hge hlt hm0 hfst
  have HFST := Lib.hid hfst
  have HM0 := Lib.hid hm0
  have H := Lib.hid h
  have HR := Lib.hid (Joins.ownsRow_le (h.alloc (.cells #[] 4)) (Nat.zero_le _))
  have HN := Lib.hid (no_bits w)
  have H3 := Lib.hid h3
  have H4 := Lib.hid h4
  clear hfst hm0 ht h h3 h4
  go_enter Try.func40, Try.ntmps40
  go_wp2_with (at_builtin; go_must (refine wpList_append_bits rfl _ _ rfl rfl HN.out (by simp) rfl HR.out (by simp; omega) ?_))
  intro A1 c1 w1 hr1 hb1
  have HR1 := Lib.hid hr1
  have HB1 := Lib.hid (((Below.refl _ w).alloc (Nat.le_refl _) _).trans hb1)
  clear hr1 hb1 HR HN
  go_wp2_with fail
  go_loopw [6] (fun o wr => ∃ (k : Nat) (A2 : Option Addr) (c2 : Nat), l.length ≤ k ∧ k ≤ t ∧ o = .slice A2 k c2 ∧ wr.ownsRow w.heap.size 4 1 (.slice A2 k c2) k (bools (l ++ List.replicate (k - l.length) false)) ∧ Below w.heap.size w wr) (fun o _ => t - (match o with | .slice _ n _ => n | _ => 0))
  case atStart => exact ⟨l.length, A1, c1, Nat.le_refl _, hge, rfl, by simpa using HR1.out, HB1.out⟩
  case round =>
    obtain ⟨k, A2, c2, hk1, hk2, rfl, hrow, hb⟩ := hrel
    have ROW := Lib.hid hrow
    have HB := Lib.hid hb
    clear hrow hb
    by_cases hkt : k < t
    · have hne := HFST.out k hk1 hkt
      have q0 : ((k : Int) % (n : Int) == 0) = false := by rw [beq_eq_false_iff_ne]; intro e; exact hne (by omega)
      have q1 : ((k : Int) % (n : Int) != 0) = true := by simp [bne, q0]
      have hlen : (l ++ List.replicate (k - l.length) false).length = k := by simp; omega
      have hst : (l ++ List.replicate (k - l.length) false) ++ [false] = l ++ List.replicate (k + 1 - l.length) false := by
        rw [List.append_assoc, show k + 1 - l.length = (k - l.length) + 1 by omega, List.replicate_succ', ← List.append_assoc]
      obtain ⟨l1, hl1⟩ : ∃ l1, l ++ List.replicate (k - l.length) false = l1 := ⟨_, rfl⟩
      rw [hl1] at hlen hst
      have hrow := ROW.out
      rw [hl1] at hrow
      subst hlen
      have HRX := Lib.hid (hrow.alloc (.cells #[.bool false] 4))
      have HST := Lib.hid hst
      have HO := Lib.hid (Joins.ownsRow_le (one_false wr) (Nat.zero_le _))
      have HSZ := Lib.hid HB.out.size
      clear hrow hst hl1 hne
      go_wp2_with (at_builtin; go_must (refine wpList_append_bits rfl _ _ rfl rfl HRX.out (by have := HSZ.out; simp; omega) rfl HO.out (by simp; omega) ?_))
      intro A3 c3 w3 hr3 hb3
      have HR3 := Lib.hid hr3
      have HB3 := Lib.hid ((HB.out.alloc HB.out.size _).trans hb3)
      clear hr3 hb3 HRX HO
      go_wp2
      go_roundw
      case rel => exact ⟨l1.length + 1, A3, c3, by omega, by omega, rfl, by rw [← HST.out]; exact HR3.out, HB3.out⟩
      case measure => simp; omega
    · obtain rfl : k = t := by omega
      have hm := HM0.out
      have q0 : ((k : Int) % (n : Int) == 0) = true := by rw [beq_iff_eq]; omega
      have q1 : ((k : Int) % (n : Int) != 0) = false := by simp [bne, q0]
      clear hm
      by_cases hc : 8388608 < k
      · obtain ⟨rfl, rfl⟩ := H3.out hc
        have HRL := Lib.hid (Rest.row (S := fun _ => False) (Rest.below HB.out) H.out (fun _ _ e => e))
        go_wp2
        go_ret2
        exact ⟨A, c, rfl, HRL.out, HB.out⟩
      · obtain ⟨rfl, rfl⟩ := H4.out hc
        have hlen : (l ++ List.replicate (k - l.length) false).length = k := by simp; omega
        have HLEN := Lib.hid hlen
        clear hlen
        go_wp2
        go_ret2
        exact ⟨A2, c2, by rw [HLEN.out]; rfl, by rw [HLEN.out]; exact Joins.ownsRow_le ROW.out hbase, HB.out⟩

theorem refAlign (A : Option Addr) (c : Nat) (l : List Bool) (base : Nat) (n : Int) (w : World) (h : w.ownsRow base 4 1 (.slice A l.length c) l.length (bools l)) (hbase : base ≤ w.heap.size) (hl : l.length ≤ 8388608) :
    Calls Try.prog 40 #[.slice A l.length c, .int .i64 n] w (RefWrote base (if alignCode l.length n = 0 then l ++ List.replicate (bord l.length n.toNat - l.length) false else l) (alignCode l.length n) w) := by
  by_cases hn : n < 1 ∨ 4096 < n
  · have e : alignCode l.length n = 2 := by unfold alignCode; rw [if_neg (by simp [withinB]; omega)]
    rw [e, if_neg (by decide)]
    exact refAlign_two A c l base n w h hn
  · obtain ⟨m, rfl⟩ := Int.eq_ofNat_of_zero_le (show 0 ≤ n by omega)
    have e : alignCode l.length (m : Int) = if 8388608 < bord l.length m then 7 else 0 := by
      unfold alignCode
      rw [if_pos (by simp [withinB]; omega), bord_int l.length m (by omega)]
      by_cases h3 : 8388608 < bord l.length m
      · rw [if_pos h3, if_pos (by omega)]
      · rw [if_neg h3, if_neg (by omega)]
    rw [e, show ((m : Nat) : Int).toNat = m by omega]
    refine refAlign_go A c l base m (bord l.length m) w h hbase hl (by omega) (by omega) rfl _ _ (fun h3 => ?_) (fun h3 => ?_)
    · rw [if_pos h3, if_neg (by decide)]; exact ⟨rfl, rfl⟩
    · rw [if_neg h3, if_pos rfl]; exact ⟨rfl, rfl⟩

theorem refLittleW (A : Option Addr) (c : Nat) (l : List Bool) (base : Nat) (v n : Int) (w : World) (h : w.ownsRow base 4 1 (.slice A l.length c) l.length (bools l)) (hbase : base ≤ w.heap.size) (hl : l.length ≤ 8388608) :
    Calls Try.prog 38 #[.slice A l.length c, .int .i64 v, .int .i64 n] w (RefWrote base (if littleCode l.length v n = 0 then l ++ unpack (leBytes v.toNat n.toNat) else l) (littleCode l.length v n) w) := by
  by_cases hc : (withinB n 1 4 && fitsB v (8 * n)) = true
  · have hc' := hc
    simp [withinB, fitsB] at hc'
    obtain ⟨⟨n1, n4⟩, v0, v1⟩ := hc'
    obtain ⟨m, rfl⟩ := Int.eq_ofNat_of_zero_le (show 0 ≤ n by omega)
    obtain ⟨a, rfl⟩ := Int.eq_ofNat_of_zero_le v0
    have hf : fitsB (a : Int) (8 * (m : Int)) = true := by
      rw [Bool.and_eq_true] at hc
      exact hc.2
    have e : littleCode l.length (a : Int) (m : Int) = bytesCode l.length m := by
      unfold littleCode bytesCode
      rw [if_pos hc]
    have ha : a < 4294967296 := by
      rw [show ((8 : Int) * (m : Int)).toNat = 8 * m by omega] at v1
      have h1 : ((a : Nat) : Int) < ((2 ^ (8 * m) : Nat) : Int) := by simpa using v1
      have h2 := Nat.pow_le_pow_right (n := 2) (by omega) (show 8 * m ≤ 32 by omega)
      omega
    rw [e]
    exact refLittleW_go A c l base a m w h hbase hl (by omega) (by omega) ha hf
  · have e : littleCode l.length v n = 2 := by unfold littleCode; rw [if_neg hc]
    rw [e, if_neg (by decide)]
    exact refLittleW_two A c l base v n w h hc

theorem RefWrote.before {base : Nat} {l : List Bool} {code : Int} {w w1 : World} {e : Ending} {w' : World} (h : RefWrote base l code w1 e w') (hb : Below w.heap.size w w1) : RefWrote base l code w e w' := by
  obtain ⟨A, c, h1, h2, h3⟩ := h
  exact ⟨A, c, h1, h2, hb.trans (h3.mono hb.size)⟩

set_option maxRecDepth 100000 in
set_option maxHeartbeats 800000 in
theorem written_gen (s : Value) (kd V N : Int) (A : Option Addr) (m c : Nat) (base : Nat) (l' : List Bool) (code : Int) (w : World) (hk : 0 ≤ kd) (hk2 : kd ≤ 255)
    (h0 : kd % 4 = 0 → Calls Try.prog 37 #[s, .int .i64 V, .int .i64 N] (actBox w kd V N A m c) (RefWrote base l' code (actBox w kd V N A m c)))
    (h1 : kd % 4 = 1 → Calls Try.prog 38 #[s, .int .i64 V, .int .i64 N] (actBox w kd V N A m c) (RefWrote base l' code (actBox w kd V N A m c)))
    (h2 : kd % 4 = 2 → Calls Try.prog 39 #[s, .slice A m c] (actBox w kd V N A m c) (RefWrote base l' code (actBox w kd V N A m c)))
    (h3 : kd % 4 = 3 → Calls Try.prog 40 #[s, .int .i64 N] (actBox w kd V N A m c) (RefWrote base l' code (actBox w kd V N A m c))) :
    Calls Try.prog 14 #[s, .agg #[.int .u8 kd, .int .i64 V, .int .i64 N, .slice A m c]] w (RefWrote base l' code w) := by
  have HBX := Lib.hid (actBox_below w kd V N A m c)
  have hr : kd % 4 = 0 ∨ kd % 4 = 1 ∨ kd % 4 = 2 ∨ kd % 4 = 3 := by omega
  rcases hr with hr | hr | hr | hr
  · have HC := Lib.hid (h0 hr)
    have q0 : (kd % 4 == 0) = true := by simp [hr]
    clear hr h0 h1 h2 h3
    go_enter Try.func14, Try.ntmps14
    go_wp2_with fail
    refine HC.out.mono ?_
    rintro e w1 ⟨A2, c2, rfl, hr1, hb1⟩
    have HQ := Lib.hid (And.intro hr1 (HBX.out.trans (hb1.mono HBX.out.size)))
    clear hr1 hb1
    go_wp2
    go_ret2
    exact ⟨A2, c2, rfl, HQ.out.1, HQ.out.2⟩
  · have HC := Lib.hid (h1 hr)
    have q0 : (kd % 4 == 0) = false := by simp [hr]
    have q1 : (kd % 4 == 1) = true := by simp [hr]
    clear hr h0 h1 h2 h3
    go_enter Try.func14, Try.ntmps14
    go_wp2_with fail
    refine HC.out.mono ?_
    rintro e w1 ⟨A2, c2, rfl, hr1, hb1⟩
    have HQ := Lib.hid (And.intro hr1 (HBX.out.trans (hb1.mono HBX.out.size)))
    clear hr1 hb1
    go_wp2
    go_ret2
    exact ⟨A2, c2, rfl, HQ.out.1, HQ.out.2⟩
  · have HC := Lib.hid (h2 hr)
    have q0 : (kd % 4 == 0) = false := by simp [hr]
    have q1 : (kd % 4 == 1) = false := by simp [hr]
    have q2 : (kd % 4 == 2) = true := by simp [hr]
    clear hr h0 h1 h2 h3
    go_enter Try.func14, Try.ntmps14
    go_wp2_with fail
    refine HC.out.mono ?_
    rintro e w1 ⟨A2, c2, rfl, hr1, hb1⟩
    have HQ := Lib.hid (And.intro hr1 (HBX.out.trans (hb1.mono HBX.out.size)))
    clear hr1 hb1
    go_wp2
    go_ret2
    exact ⟨A2, c2, rfl, HQ.out.1, HQ.out.2⟩
  · have HC := Lib.hid (h3 hr)
    have q0 : (kd % 4 == 0) = false := by simp [hr]
    have q1 : (kd % 4 == 1) = false := by simp [hr]
    have q2 : (kd % 4 == 2) = false := by simp [hr]
    clear hr h0 h1 h2 h3
    go_enter Try.func14, Try.ntmps14
    go_wp2_with fail
    refine HC.out.mono ?_
    rintro e w1 ⟨A2, c2, rfl, hr1, hb1⟩
    have HQ := Lib.hid (And.intro hr1 (HBX.out.trans (hb1.mono HBX.out.size)))
    clear hr1 hb1
    go_wp2
    go_ret2
    exact ⟨A2, c2, rfl, HQ.out.1, HQ.out.2⟩

/-- written, whatever the call. -/
theorem written_any (A : Option Addr) (c : Nat) (l : List Bool) (base : Nat) (d : ActD) (w : World) (h : w.ownsRow base 4 1 (.slice A l.length c) l.length (bools l)) (hbase : base ≤ w.heap.size) (hl : l.length ≤ 8388608) (hs : SrcE w (.slice d.A d.B.length d.c) d.B) (hB : ∀ x ∈ d.B, x < 256) (hBl : d.B.length ≤ 1099511627776) (hk : d.kd ≤ 255) :
    Calls Try.prog 14 #[.slice A l.length c, .agg #[.int .u8 d.kd, .int .i64 d.V, .int .i64 d.N, .slice d.A d.B.length d.c]] w (RefWrote base (wNext l d) (wCode l d) w) := by
  have hb := actBox_below w d.kd d.V d.N d.A d.B.length d.c
  have hr := Rest.row (S := fun _ => False) (Rest.below hb) h (fun _ _ e => e)
  have hbs := Nat.le_trans hbase hb.size
  refine written_gen _ d.kd d.V d.N d.A d.B.length d.c base _ _ w (by omega) (by omega) (fun e => ?_) (fun e => ?_) (fun e => ?_) (fun e => ?_)
  · have k0 : d.kd % 4 = 0 := by omega
    unfold wNext wCode wBits
    simp only [if_pos k0]
    exact refPut A c l base d.V d.N _ hr hbs hl
  · have n0 : ¬ d.kd % 4 = 0 := by omega
    have k0 : d.kd % 4 = 1 := by omega
    unfold wNext wCode wBits
    simp only [if_neg n0, if_pos k0]
    exact refLittleW A c l base d.V d.N _ hr hbs hl
  · have n0 : ¬ d.kd % 4 = 0 := by omega
    have n1 : ¬ d.kd % 4 = 1 := by omega
    have k0 : d.kd % 4 = 2 := by omega
    unfold wNext wCode wBits
    simp only [if_neg n0, if_neg n1, if_pos k0]
    exact refAdd A c l base d.A d.c d.B _ hr hbs hl (hs.later hb) hB hBl
  · have n0 : ¬ d.kd % 4 = 0 := by omega
    have n1 : ¬ d.kd % 4 = 1 := by omega
    have n2 : ¬ d.kd % 4 = 2 := by omega
    unfold wNext wCode wBits
    simp only [if_neg n0, if_neg n1, if_neg n2]
    exact refAlign A c l base d.N _ hr hbs hl
end Go.Proofs.Ytboiiohpkoodpaa
