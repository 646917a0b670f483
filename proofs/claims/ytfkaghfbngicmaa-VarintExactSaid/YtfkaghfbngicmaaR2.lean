/- The walk of VarintExact, whole. Conditions: the bytes lie in memory. -/
import Derived.Test.YtfkaghfbngicmaaR1
namespace Go.Proofs.Ytfkaghfbngicmaa
open Go.RowKit Go.Shelf
attribute [local go_sem] Oper.semAt_some

set_option maxRecDepth 100000 in
set_option maxHeartbeats 12800000 in
theorem exact_bad (v : Int) (hv : okV v = false) (FA : Option Addr) (FN FC : Nat) (w : World) (hl10 : FN ≤ 10) :
    Calls Try.prog 8 #[.int .i64 v, .slice FA FN FC] w fun e w' => e = .returned (.bool true) ∧ Below w.heap.size w w' := by
  have hnil := eqlSeqQ
  have HKN : ∀ wx, Hid (Calls Try.prog 10 #[] wx fun e w' => e = .returned (.bool true) ∧ Below wx.heap.size wx w') := fun wx => Lib.hid (known9_any wx)
  obtain ⟨wa, hwa⟩ : ∃ wa, w.alloc (.cells #[.int .i64 v] 3) = wa := ⟨_, rfl⟩
  obtain ⟨wb, hwb⟩ : ∃ wb, wa.alloc (.cells #[.slice FA FN FC] 22) = wb := ⟨_, rfl⟩
  obtain ⟨w1, hw1⟩ : ∃ w1, wb.alloc (.cells #[.bool false] 4) = w1 := ⟨_, rfl⟩
  have hw : ((w.alloc (.cells #[.int .i64 v] 3)).alloc (.cells #[.slice FA FN FC] 22)).alloc (.cells #[.bool false] 4) = w1 := by rw [hwa, hwb, hw1]
  have ba : Below w.heap.size w wa := by rw [← hwa]; exact below_new _ _
  have bb : Below wa.heap.size wa wb := by rw [← hwb]; exact below_new _ _
  have b1 : Below wb.heap.size wb w1 := by rw [← hw1]; exact below_new _ _
  have sa : wa.heap.size = w.heap.size + 1 := by rw [← hwa]; simp
  have sb : wb.heap.size = w.heap.size + 2 := by rw [← hwb]; simp; omega
  have s1 : w1.heap.size = w.heap.size + 3 := by rw [← hw1]; simp; omega
  have xv : Boxed w1 w.heap.size 3 (.int .i64 v) := by
    refine boxed_below (boxed_below ?_ bb (by omega)) b1 (by omega)
    rw [← hwa]
    exact Boxed.new w _ _
  have xf : Boxed w1 (w.heap.size + 1) 22 (.slice FA FN FC) := by
    refine boxed_below ?_ b1 (by omega)
    rw [← hwb, ← sa]
    exact Boxed.new wa _ _
  have xr : Boxed w1 (w.heap.size + 2) 4 (.bool false) := by rw [← hw1, ← sb]; exact Boxed.new wb _ _
  have hb1 : Below w.heap.size w w1 := (ba.trans (bb.mono (by omega))).trans (b1.mono (by omega))
  have HFO := Lib.hid (Forms_any v w1)
  obtain ⟨w2, hw2⟩ : ∃ w2, w1.alloc (.cells #[.int .i64 v] 3) = w2 := ⟨_, rfl⟩
  have b2 := below_new w1 (.cells #[.int .i64 v] 3)
  have xc := Boxed.new w1 3 (.int .i64 v)
  have s2 : w2.heap.size = w.heap.size + 4 := by rw [← hw2]; simp; omega
  rw [hw2] at b2 xc HFO
  rw [s1] at xc HFO
  obtain ⟨w3, hw3⟩ : ∃ w3, w2.alloc (.cells #[.bool true] 4) = w3 := ⟨_, rfl⟩
  have b3 := below_new w2 (.cells #[.bool true] 4)
  have xi := Boxed.new w2 4 (.bool true)
  have s3 : w3.heap.size = w.heap.size + 5 := by rw [← hw3]; simp; omega
  rw [hw3] at b3 xi
  rw [s2] at xi
  obtain ⟨w4, hw4⟩ : ∃ w4, w3.alloc (.cells #[.string ⟨#[]⟩] 9) = w4 := ⟨_, rfl⟩
  have b4 := below_new w3 (.cells #[.string ⟨#[]⟩] 9)
  have xs := Boxed.new w3 9 (.string ⟨#[]⟩)
  have s4 : w4.heap.size = w.heap.size + 6 := by rw [← hw4]; simp; omega
  rw [hw4] at b4 xs
  rw [s3] at xs
  obtain ⟨b, eb⟩ : ∃ b, w.heap.size = b := ⟨_, rfl⟩
  rw [eb] at xv xf xr xc xi xs HFO s1 s2 s3 s4 hb1 ⊢
  have hcf : w1.cell? ⟨b + 1, 0, none⟩ = some (.slice FA FN FC) := xf.cell
  have hcv : w1.cell? ⟨b, 0, none⟩ = some (.int .i64 v) := xv.cell
  have hx4 : ∀ (W : World) (lr Dd : Nat) (r : Loop), Below w4.heap.size w4 W → RecAt W lr Dd r → b + 5 < Dd → Dd < lr → VX w W b lr Dd r v (.slice FA FN FC) true ⟨#[]⟩ := fun W lr Dd r hW hr h1 h2 =>
    have c2 := b2.trans (((b3.trans (b4.mono (by omega))).trans (hW.mono (by omega))).mono (by omega))
    have c3 := b3.trans ((b4.trans (hW.mono (by omega))).mono (by omega))
    have c4 := b4.trans (hW.mono (by omega))
    ⟨hb1.trans (c2.mono (by omega)), boxed_below xv c2 xv.lt, boxed_below xf c2 xf.lt, boxed_below xr c2 xr.lt, boxed_below xc c3 xc.lt, boxed_below xi c4 xi.lt, boxed_below xs hW xs.lt, hr, h1, h2⟩
  have HX4 := Lib.hid hx4
  have HW := Lib.hid hw
  have EB := Lib.hid eb
  have HV := Lib.hid hv
  have W3 := Lib.hid hw3
  have W4 := Lib.hid hw4
  have S1 := Lib.hid s1
  have S2 := Lib.hid s2
  have S3 := Lib.hid s3
  have S4 := Lib.hid s4
  clear hwa hwb hw1 hw ba bb b1 sa sb s1 xv xf xr xc xi xs hb1 hw2 hw3 hw4 b2 b3 b4 s2 s3 s4 eb hv hx4
  refine (callsIn_wide (n := 6)).1 ?_
  refine callsIn_of_wp_marks Try.func8 rfl trivial ?_ rfl
  simp only [Try.ntmps8, List.size_toArray, List.length_cons, List.length_nil, Nat.reduceAdd, Nat.reduceSub, Array.replicate_succ, Array.replicate_zero, List.push_toArray, List.append_toArray, List.nil_append, List.cons_append]
  refine wpIn_wide.2 ?_
  have hd10 : decide ((10 : Int) < ((FN : Nat) : Int)) = false := decide_eq_false (by omega)
  go_upto_region 3 with fail
  rw [HW.out, EB.out]
  go_wp2_with fail
  refine HFO.out.mono ?_
  rintro e w' ⟨rfl, rfl⟩
  go_upto_region 7 with fail
  rw [W3.out, S2.out, show b + 1 + 1 = b + 2 from rfl]
  go_wp2_with fail
  rw [W4.out, S3.out]
  clear hcf hcv hnil hd10
  refine (wpIn_wide (n := 6)).1 ?_
  gi_wp2_with fail
  refine open_joined (gf := 31) (lb := #[.pointer (some ⟨b + 3, 0, none⟩)]) (by decide) rfl Try.entForms (VY w · b w4.heap.size v true) .skip ?turn ?brk ?rest
  case brk =>
    intro fr W h
    exact wpIn_skip h
  case turn =>
    intro W1 rr hrr hb1 hsz hR
    obtain ⟨fn, hrr⟩ := hrr
    have h6 : b + 5 < w4.heap.size := by rw [S4.out]; omega
    have hj0 : VX w W1 b (w4.heap.size + 1) w4.heap.size (rr .ready none) v (.slice FA FN FC) true ⟨#[]⟩ := HX4.out W1 _ _ _ hb1 hR h6 (Nat.lt_succ_self _)
    obtain ⟨D2, hD⟩ : ∃ D2, w4.heap.size = D2 := ⟨_, rfl⟩
    rw [hD] at hrr hj0 ⊢
    obtain ⟨lr, hlr⟩ : ∃ lr, D2 + 1 = lr := ⟨_, rfl⟩
    rw [hlr] at hj0 ⊢
    have J0 := Lib.hid hj0
    have HRR := Lib.hid hrr
    clear hrr hb1 hsz hR hD hlr h6 hj0
    refine (forms_none 5 (by decide) lr (b + 3) v HV.out W1 J0.out.cb.cell).mono ?post
    case post =>
      rintro e W2 ⟨hv, rfl⟩
      exact ⟨hv, .inl ⟨J0.out.rec_, fun o => J0.out.go o⟩⟩
  case rest =>
    intro Wz hz
    have hb0 : b ≤ Wz.heap.size := by have := hz.bel.size; have := EB.out; omega
    obtain ⟨Dm, hDm⟩ : ∃ D, w4.heap.size = D := ⟨_, rfl⟩
    have hDb : b + 5 < Dm := by rw [← hDm, S4.out]; omega
    rw [hDm] at hz ⊢
    clear hDm
    have ci := hz.ib.cell
    have cv := hz.vb.cell
    have HZ := Lib.hid hz
    have HB0 := Lib.hid hb0
    have HDB := Lib.hid hDb
    by_cases hlt : v < 0
    · have hd1 : decide (v < 0) = true := decide_eq_true hlt
      clear hlt
      clear hz hb0 hDb
      gi_wp2_with fail
      go_wp2_with fail
      refine ((HKN _).out).mono ?_
      rintro e wF ⟨rfl, hbF⟩
      have hrb := boxed_below HZ.out.rb hbF HZ.out.rb.lt
      have cr := hrb.cell
      have cf := hrb.frozen
      have K1 := Lib.hid ((hbF.block Dm (Array.getElem?_eq_some_iff.1 HZ.out.dfr).1).trans HZ.out.dfr)
      have HRB := Lib.hid hrb
      have BF := Lib.hid (HZ.out.bel.trans (hbF.mono HB0.out))
      clear hbF hrb ci cv HZ
      go_wp2_with fail
      have ha1 := Boxed.set (.bool true) HRB.out
      have ha2 := BF.out.setCell (p := ⟨b + 2, 0, none⟩) (show b ≤ b + 2 by omega) (.bool true)
      have n1 : Dm ≠ b + 2 := by have := HDB.out; omega
      have k1 := (Below.heap_setCell wF ⟨b + 2, 0, none⟩ (.bool true) Dm n1).trans K1.out
      obtain ⟨wX, hwX⟩ : ∃ wX, wF.setCell ⟨b + 2, 0, none⟩ (.bool true) = wX := ⟨_, rfl⟩
      rw [hwX] at ha1 ha2 k1 ⊢
      clear hwX cr cf
      have hb11 : Boxed (wX.putObj Dm (.deferred none)) (b + 2) 4 (.bool true) := (World.putObj_heap_other n1.symm).trans ha1
      have hbw3 := ha2.grown (grownBy_putObj' wX Dm (.deferred none)) (by have := ha2.size; have := EB.out; omega) (fun k e => by cases e; have := HDB.out; omega)
      refine ⟨by simp, .inl ⟨_, _, rfl, run_takeDeferred k1, ?_⟩⟩
      exact ⟨.bool true, by simp [results, Try.results8, go_sem, hb11.cell], rfl, hbw3⟩
    · have hd1 : decide (v < 0) = false := decide_eq_false hlt
      have hd2 : decide ((34359738368 : Int) ≤ v) = true := decide_eq_true (by rcases (okV_not v).1 HV.out with h | h <;> omega)
      clear hlt
      clear hz hb0 hDb
      gi_wp2_with fail
      go_wp2_with fail
      refine ((HKN _).out).mono ?_
      rintro e wF ⟨rfl, hbF⟩
      have hrb := boxed_below HZ.out.rb hbF HZ.out.rb.lt
      have cr := hrb.cell
      have cf := hrb.frozen
      have K1 := Lib.hid ((hbF.block Dm (Array.getElem?_eq_some_iff.1 HZ.out.dfr).1).trans HZ.out.dfr)
      have HRB := Lib.hid hrb
      have BF := Lib.hid (HZ.out.bel.trans (hbF.mono HB0.out))
      clear hbF hrb ci cv HZ
      go_wp2_with fail
      have ha1 := Boxed.set (.bool true) HRB.out
      have ha2 := BF.out.setCell (p := ⟨b + 2, 0, none⟩) (show b ≤ b + 2 by omega) (.bool true)
      have n1 : Dm ≠ b + 2 := by have := HDB.out; omega
      have k1 := (Below.heap_setCell wF ⟨b + 2, 0, none⟩ (.bool true) Dm n1).trans K1.out
      obtain ⟨wX, hwX⟩ : ∃ wX, wF.setCell ⟨b + 2, 0, none⟩ (.bool true) = wX := ⟨_, rfl⟩
      rw [hwX] at ha1 ha2 k1 ⊢
      clear hwX cr cf
      have hb11 : Boxed (wX.putObj Dm (.deferred none)) (b + 2) 4 (.bool true) := (World.putObj_heap_other n1.symm).trans ha1
      have hbw3 := ha2.grown (grownBy_putObj' wX Dm (.deferred none)) (by have := ha2.size; have := EB.out; omega) (fun k e => by cases e; have := HDB.out; omega)
      refine ⟨by simp, .inl ⟨_, _, rfl, run_takeDeferred k1, ?_⟩⟩
      exact ⟨.bool true, by simp [results, Try.results8, go_sem, hb11.cell], rfl, hbw3⟩

set_option maxRecDepth 100000 in
set_option maxHeartbeats 1600000 in
theorem exactLaw_walk (v : Int) (FA : Option Addr) (FN FC : Nat) (B : List Nat) (w : World) (hs : SrcAt w (.slice FA FN FC) B) (hN : FN = B.length) (h256 : ∀ c ∈ B, c < 256) :
    Calls Try.prog 8 #[.int .i64 v, .slice FA FN FC] w fun e w' => e = .returned (.bool true) ∧ Below w.heap.size w w' := by
  by_cases hl : 10 < FN
  · have KN := fun w => Lib.hid (known9_any w)
    obtain ⟨wa, hwa⟩ : ∃ wa, w.alloc (.cells #[.int .i64 v] 3) = wa := ⟨_, rfl⟩
    obtain ⟨wb, hwb⟩ : ∃ wb, wa.alloc (.cells #[.slice FA FN FC] 22) = wb := ⟨_, rfl⟩
    obtain ⟨w1, hw1⟩ : ∃ w1, wb.alloc (.cells #[.bool false] 4) = w1 := ⟨_, rfl⟩
    have hw : ((w.alloc (.cells #[.int .i64 v] 3)).alloc (.cells #[.slice FA FN FC] 22)).alloc (.cells #[.bool false] 4) = w1 := by rw [hwa, hwb, hw1]
    have ba : Below w.heap.size w wa := by rw [← hwa]; exact below_new _ _
    have bb : Below wa.heap.size wa wb := by rw [← hwb]; exact below_new _ _
    have b1 : Below wb.heap.size wb w1 := by rw [← hw1]; exact below_new _ _
    have sa : wa.heap.size = w.heap.size + 1 := by rw [← hwa]; simp
    have sb : wb.heap.size = w.heap.size + 2 := by rw [← hwb]; simp; omega
    have xf : Boxed w1 (w.heap.size + 1) 22 (.slice FA FN FC) := by
      refine boxed_below ?_ b1 (by omega)
      rw [← hwb, ← sa]
      exact Boxed.new wa _ _
    have xr : Boxed w1 (w.heap.size + 2) 4 (.bool false) := by rw [← hw1, ← sb]; exact Boxed.new wb _ _
    have HB1 := Lib.hid ((ba.trans (bb.mono (by omega))).trans (b1.mono (by omega)))
    have cf := xf.cell
    have XR1 := Lib.hid xr
    have HW := Lib.hid hw
    have hd10 : decide ((10 : Int) < ((FN : Nat) : Int)) = true := decide_eq_true (by omega)
    clear hwa hwb hw1 hw ba bb b1 sa sb xf xr hs hN h256 hl
    refine (callsIn_wide (n := 6)).1 ?_
    refine callsIn_of_wp_marks Try.func8 rfl trivial ?_ rfl
    simp only [Try.ntmps8, List.size_toArray, List.length_cons, List.length_nil, Nat.reduceAdd, Nat.reduceSub, Array.replicate_succ, Array.replicate_zero, List.push_toArray, List.append_toArray, List.nil_append, List.cons_append]
    refine wpIn_wide.2 ?_
    go_upto_region 2 with fail
    rw [HW.out]
    clear cf
    go_wp2_with fail
    refine (KN _).out.mono ?_
    rintro e wF ⟨rfl, hb⟩
    have hrb := boxed_below XR1.out hb XR1.out.lt
    have cr := hrb.cell
    have fr := hrb.frozen
    have HRB := Lib.hid hrb
    have BF := Lib.hid (HB1.out.trans (hb.mono HB1.out.size))
    clear hb hrb
    go_wp2_with fail
    have ha1 := Boxed.set (.bool true) HRB.out
    have ha2 := BF.out.setCell (p := ⟨w.heap.size + 2, 0, none⟩) (show w.heap.size ≤ w.heap.size + 2 by omega) (.bool true)
    exact ⟨.bool true, by simp [results, Try.results8, go_sem, ha1.cell], rfl, ha2⟩
  · cases h : okV v with
    | false => exact exact_bad v h FA FN FC w (by omega)
    | true =>
      have h' := (okV_iff _).1 h
      obtain ⟨n, rfl⟩ : ∃ n : Nat, v = ((n : Nat) : Int) := ⟨v.toNat, by omega⟩
      exact exact_ok n (by omega) FA FN FC B w hs hN (by omega) h256
end Go.Proofs.Ytfkaghfbngicmaa
