/- The walk of VarintForms for integers. No conditions beyond v being an integer. -/
import Derived.Test.YtfkaghfbngicmaaQ6
namespace Go.Proofs.Ytfkaghfbngicmaa
open Go.RowKit Go.Shelf
attribute [local go_sem] Oper.semAt_some

set_option maxRecDepth 100000 in
set_option maxHeartbeats 12800000 in
theorem formsLaw_ok (v : Nat) (hv : v < 34359738368) (many : Int) (w : World) :
    Calls Try.prog 5 #[.int .i64 v, .int .i64 many] w fun e w' => e = .returned (.bool true) ∧ Below w.heap.size w w' := by
  obtain ⟨wa, hwa⟩ : ∃ wa, w.alloc (.cells #[.int .i64 many] 3) = wa := ⟨_, rfl⟩
  obtain ⟨w1, hw1⟩ : ∃ w1, wa.alloc (.cells #[.bool false] 4) = w1 := ⟨_, rfl⟩
  have hw : (w.alloc (.cells #[.int .i64 many] 3)).alloc (.cells #[.bool false] 4) = w1 := by rw [hwa, hw1]
  have ba : Below w.heap.size w wa := by rw [← hwa]; exact below_new _ _
  have b1 : Below wa.heap.size wa w1 := by rw [← hw1]; exact below_new _ _
  have sa : wa.heap.size = w.heap.size + 1 := by rw [← hwa]; simp
  have s1 : w1.heap.size = w.heap.size + 2 := by rw [← hw1]; simp; omega
  have xm : Boxed w1 w.heap.size 3 (.int .i64 many) := by
    refine boxed_below ?_ b1 (by omega)
    rw [← hwa]
    exact Boxed.new w _ _
  have xr : Boxed w1 (w.heap.size + 1) 4 (.bool false) := by rw [← hw1, ← sa]; exact Boxed.new wa _ _
  have hb1 : Below w.heap.size w w1 := ba.trans (b1.mono (by omega))
  have HFO := Lib.hid (Forms_any ((v : Nat) : Int) w1)
  obtain ⟨w2, hw2⟩ : ∃ w2, w1.alloc (.cells #[.int .i64 ((v : Nat) : Int)] 3) = w2 := ⟨_, rfl⟩
  have b2 := below_new w1 (.cells #[.int .i64 ((v : Nat) : Int)] 3)
  have xv := Boxed.new w1 3 (.int .i64 ((v : Nat) : Int))
  rw [hw2] at b2 xv HFO
  rw [s1] at xv HFO
  obtain ⟨b, eb⟩ : ∃ b, w.heap.size = b := ⟨_, rfl⟩
  rw [eb] at xm xr xv HFO s1 hb1 ⊢
  have hm2 : VS w2 b ((v : Nat) : Int) many := ⟨boxed_below xm b2 (by omega), boxed_below xr b2 (by omega), xv⟩
  have HW := Lib.hid hw
  have EB := Lib.hid eb
  have M2 := Lib.hid hm2
  have HB2 := Lib.hid (hb1.trans (b2.mono (by omega)))
  have HV := Lib.hid hv
  have hrf := rforms_ok v HV.out w2
  have hq1 := len1_le v
  have hqs := len1_spec HV.out
  have hnum := formsN_num HV.out
  have hget := formsN_get HV.out
  obtain ⟨q, hq⟩ : ∃ q, len1 v = q := ⟨_, rfl⟩
  rw [hq] at hq1 hqs hnum hget
  obtain ⟨L, hL⟩ : ∃ L, formsN v 5 = L := ⟨_, rfl⟩
  rw [hL] at hnum hget hrf
  have HRF := Lib.hid hrf
  have HQS := Lib.hid hqs
  have HNUM := Lib.hid hnum
  have HGET := Lib.hid hget
  clear hqs hnum hget hq hL hrf
  have hnil := eqlSeqQ
  have HKN : ∀ wx, Hid (Calls Try.prog 10 #[] wx fun e w' => e = .returned (.bool true) ∧ Below wx.heap.size wx w') := fun wx => Lib.hid (known9_any wx)
  clear hwa hw1 hw ba b1 sa s1 xm xr hb1 hw2 b2 xv eb hm2 hv
  refine (callsIn_wide (n := 6)).1 ?_
  refine callsIn_of_wp_marks Try.func5 rfl trivial ?_ rfl
  simp only [Try.ntmps5, List.size_toArray, List.length_cons, List.length_nil, Nat.reduceAdd, Nat.reduceSub, Array.replicate_succ, Array.replicate_zero, List.push_toArray, List.append_toArray, List.nil_append, List.cons_append]
  refine wpIn_wide.2 ?_
  go_wp2_with fail
  rw [HW.out, EB.out]
  refine HFO.out.mono ?_
  rintro e w' ⟨rfl, rfl⟩
  go_wp2_with fail
  clear hnil
  refine HRF.out.mono ?_
  rintro e w3 ⟨s, vs, rfl, hll, hb3⟩
  obtain ⟨gs, cs, _, _, es, hcs1, hcs2, _⟩ := hll.at_ 0 _ (HGET.out 0 (by omega)) (by rw [formV_len]; omega)
  subst es
  have M3 := Lib.hid (M2.out.later hb3)
  have HB3 := Lib.hid (HB2.out.trans (hb3.mono (by have := HB2.out.size; have := EB.out; omega)))
  obtain ⟨base, hbase⟩ : ∃ base, w2.heap.size = base := ⟨_, rfl⟩
  rw [hbase] at hll
  have hal4 := below_new w3 (.cells #[.slice (some ⟨gs, 0, none⟩) L.length cs] 40)
  have hx4 := Boxed.new w3 40 (.slice (some ⟨gs, 0, none⟩) L.length cs)
  obtain ⟨wb, ewb⟩ : ∃ g, w3.heap.size = g := ⟨_, rfl⟩
  obtain ⟨w4, hw4⟩ : ∃ w4, w3.alloc (.cells #[.slice (some ⟨gs, 0, none⟩) L.length cs] 40) = w4 := ⟨_, rfl⟩
  rw [hw4] at hal4 hx4
  rw [ewb] at hx4
  have RT := Lib.hid (show VT w4 b wb v many base gs cs L vs from ⟨M3.out.later hal4, hx4, hll.below hal4⟩)
  have HCS := Lib.hid (And.intro hcs1 hcs2)
  have HB4 := Lib.hid (HB3.out.trans (hal4.mono (by have := HB3.out.size; have := EB.out; omega)))
  have W4 := Lib.hid hw4
  have EWB := Lib.hid ewb
  have S4 := Lib.hid (show w4.heap.size = wb + 1 by rw [← hw4, ← ewb]; simp)
  clear hal4 hx4 ewb hw4 hll hb3 hbase M2 M3 HB2 HB3 HRF HFO HW hcs1 hcs2
  go_upto_region 4 with fail
  rw [W4.out, EWB.out]
  go_wp2_with fail
  have halT := below_new w4 (.cells #[.int .i64 0] 3)
  have hxt := Boxed.new w4 3 (.int .i64 0)
  rw [S4.out] at hxt
  obtain ⟨tb0, etb⟩ : ∃ g, wb + 1 = g := ⟨_, rfl⟩
  obtain ⟨wT0, hwT⟩ : ∃ w', w4.alloc (.cells #[.int .i64 0] 3) = w' := ⟨_, rfl⟩
  rw [hwT] at halT hxt ⊢
  rw [etb] at hxt ⊢
  have BT0 := Lib.hid halT
  have XT0 := Lib.hid hxt
  have ETB0 := Lib.hid (S4.out.trans etb)
  have ct := hxt.cell
  clear halT hxt hwT etb
  obtain ⟨K0, hK0⟩ : ∃ K0 : Nat, min ((L.length : Nat) : Int) (max 1 many) = ((K0 : Nat) : Int) := ⟨(min ((L.length : Nat) : Int) (max 1 many)).toNat, by omega⟩
  have HK0 := Lib.hid hK0
  clear hK0
  refine (wpIn_wide (n := 6)).1 ?_
  refine wpIn_loop_rounds 3 ?_
  rw [roundsIn_succ]
  gi_wp2_with fail
  clear ct

  have halK := below_new wT0 (.cells #[.int .i64 0] 3)
  have hxk : Boxed (wT0.alloc (.cells #[.int .i64 0] 3)) wT0.heap.size 3 (.int .i64 ((0 : Nat) : Int)) := Boxed.new wT0 3 (.int .i64 0)
  obtain ⟨nb0, enb⟩ : ∃ g, wT0.heap.size = g := ⟨_, rfl⟩
  obtain ⟨wk0, hwk⟩ : ∃ w', wT0.alloc (.cells #[.int .i64 0] 3) = w' := ⟨_, rfl⟩
  rw [hwk] at halK hxk ⊢
  rw [enb] at hxk ⊢
  have BK0 := Lib.hid halK
  have XK0 := Lib.hid hxk
  have ENB0 := Lib.hid enb
  clear halK hxk enb hwk
  refine open_joined (gf := 31) (lb := #[.pointer (some ⟨b + 2, 0, none⟩)]) (by decide) rfl Try.entForms (VG w4 tb0 nb0 wk0.heap.size 0 K0) (.exit 2) ?turn0 ?brk0 ?rest0
  case brk0 =>
    intro fr W h
    exact wpIn_exit (brk_of h)
  case turn0 =>
    intro W1 rr hrr hb1 hsz hR
    obtain ⟨fn, hrr⟩ := hrr
    obtain ⟨D2, hD⟩ : ∃ D2, wk0.heap.size = D2 := ⟨_, rfl⟩
    rw [hD] at hrr hb1 hsz hR ⊢
    obtain ⟨lr, hlr⟩ : ∃ lr, D2 + 1 = lr := ⟨_, rfl⟩
    rw [hlr] at hR ⊢
    have hbk1 : Below wk0.heap.size wk0 W1 := by rw [hD]; exact hb1
    have o1 : w4.heap.size = tb0 := ETB0.out
    have o2 : tb0 < nb0 := by have := XT0.out.lt; have := ENB0.out; omega
    have o3 : nb0 < D2 := by have := XK0.out.lt; omega
    have hj0 : VJ w4 W1 tb0 nb0 lr D2 (rr .ready none) 0 0 := ⟨BT0.out.trans ((BK0.out.trans (hbk1.mono BK0.out.size)).mono BT0.out.size), boxed_below XK0.out hbk1 XK0.out.lt, boxed_below (boxed_below XT0.out BK0.out XT0.out.lt) hbk1 (Nat.lt_of_lt_of_le XT0.out.lt BK0.out.size), hR, o1, o2, o3, by omega⟩
    have J0 := Lib.hid hj0
    have HRR := Lib.hid hrr
    clear hrr hb1 hsz hR hD hlr hbk1 o1 o2 o3 hj0
    refine (forms_at 5 (by decide) lr (b + 2) v HV.out (fun k W => VJ w4 W tb0 nb0 lr D2 (rr .ready none) 0 (k - q) ∧ (k - q = 0 ∨ (((k - q : Nat) : Int) < many))) (fun k W => ∃ n, VJ w4 W tb0 nb0 lr D2 (rr .done (some (.exit 2))) 0 n ∧ ((n : Nat) : Int) = max 1 many ∧ n ≤ L.length) W1 (lr + 1)
      (fun k W W' h hb => ⟨h.1.later hb, h.2⟩) (fun k W h => ⟨(RT.out.later h.1.bel).s.vb.cell, h.1.lt⟩)
      (fun k W h h1 h5 hn => by
        have hkq : k < q := by
          rcases Nat.lt_or_ge k q with hc | hc
          · exact hc
          · exact absurd (Nat.lt_of_lt_of_le HQS.out.1 (pow128_mono hc)) hn
        rw [show k - q = 0 by omega] at h
        rw [show k + 1 - q = 0 by omega]
        exact h) ?hY0 ⟨by rw [show 1 - q = 0 by omega]; exact J0.out, .inl (by omega)⟩).mono ?post0
    case post0 =>
      rintro e W2 ⟨hv, (⟨hj, hc⟩ | ⟨k, _, _, _, n, hj, hn, hnl⟩)⟩
      · have e : 6 - q = K0 := by
          have h1 := HK0.out
          have h2 := HNUM.out
          rcases hc with hc | hc <;> omega
        rw [e] at hj
        exact ⟨hv, .inl ⟨hj.rec_, fun o => hj.go o⟩⟩
      · have e : n = K0 := by
          have h1 := HK0.out
          omega
        rw [e] at hj
        exact ⟨hv, .inr ⟨hj.rec_, fun o => hj.go o⟩⟩
    case hY0 =>
      intro k g W hj k1 k5 hkv hg hgc
      have hqk : q ≤ k := by
        rcases Nat.lt_or_ge k q with h | h
        · exact absurd hkv (HQS.out.2 k h k1)
        · exact h
      obtain ⟨i, hi⟩ : ∃ i, k - q = i := ⟨_, rfl⟩
      have hil : i < L.length := by rw [HNUM.out]; omega
      have hLi : L[i]? = some (formV v k) := by
        have := HGET.out i (by omega)
        rw [this, show q + i = k by omega]
      have hi1 : k + 1 - q = i + 1 := by omega
      rw [hi1]
      rw [hi] at hj
      obtain ⟨hj, hcnd⟩ := hj
      have JW := Lib.hid hj
      have HCND := Lib.hid hcnd
      have HLI := Lib.hid hLi
      have HIL := Lib.hid hil
      have HGL := Lib.hid (show lr < g by omega)
      have HGC := Lib.hid hgc
      clear hj hcnd hgc hkv hLi hi hi1 hqk hg
      refine named_round HRR.out JW.out.rec_ rfl ?a10 ?asg0 ?body0
      case asg0 =>
        intro K hK
        have HK := Lib.hid hK
        clear hK
        gi_wp2
        exact HK.out
      case body0 =>
        intro W2 hW2
        have hj2 : VJ w4 W2 tb0 nb0 lr D2 (rr .busy none) 0 i := by rw [hW2]; exact JW.out.put _
        have hg2 : W2.heap[g]? = some (.cells (u8s (formV v k)).toArray 5 (0, 0)) := by rw [hW2]; exact (World.putObj_heap_other (show g ≠ lr by have := HGL.out; omega)).trans HGC.out
        have hroom := room_of_heap hg2
        have hrt := RT.out.later hj2.bel
        obtain ⟨gs', cs', gw, cw', es, _, _, hcell, hrow, _, _, _⟩ := hrt.ll.at_ i _ HLI.out (by rw [formV_len]; omega)
        simp only [Value.slice.injEq, Option.some.injEq, Addr.mk.injEq, and_true, true_and] at es
        obtain ⟨rfl, rfl⟩ := es
        rw [formV_len] at hcell hrow
        have ck := hj2.kbx.cell
        have cw := hrt.wbx.cell
        have hF256 := formV_lt v k
        have hsb := hroom.src k k (by rw [formV_len]; exact Nat.le_refl _)
        rw [List.take_of_length_le (by rw [formV_len]; exact Nat.le_refl _)] at hsb
        have hsw := SrcAt.of_row hrow
        have hca : ∀ n, (convert 22 9 (.slice (some ⟨g, 0, none⟩) k k)).run Try.prog (W2.drewN n) = .ok (.string (strOf (formV v k))) (W2.drewN n) := fun n => conv_src (hsb.below (below_drewN _ _) hsb.lt) hF256
        have hcx : ∀ n, (convert 22 9 (.slice (some ⟨gw, 0, none⟩) k cw')).run Try.prog (W2.drewN n) = .ok (.string (strOf (formV v k))) (W2.drewN n) := fun n => conv_src (hsw.below (below_drewN _ _) hsw.lt) hF256
        obtain ⟨SF, hSF⟩ : ∃ S, strOf (formV v k) = S := ⟨_, rfl⟩
        rw [hSF] at hca hcx
        have hlf : (formV v k).length = k := formV_len v k
        obtain ⟨D0, hD0⟩ : ∃ D, formV v k = D := ⟨_, rfl⟩
        rw [hD0] at hroom hlf
        have J2 := Lib.hid hj2
        have HRO := Lib.hid hroom
        have HLF := Lib.hid hlf
        have hil := HIL.out
        have hd1 : decide (((L.length : Nat) : Int) ≤ ((i : Nat) : Int)) = false := decide_eq_false (by omega)
        have hd2 : decide (L.length ≤ i) = false := decide_eq_false (by omega)
        have hli0 : (0 : Int) ≤ ((i : Nat) : Int) := by omega
        have hli2 : ((i : Nat) : Int) < ((L.length : Nat) : Int) := by omega
        have hli1 : L.length ≤ 5 := by rw [HNUM.out]; omega
        have hcs2 := HCS.out.2
        have hcs1 := HCS.out.1
        clear hj2 hg2 hroom hrt hrow hF256 hsb hsw hSF hD0 hlf hW2
        gi_upto_region 11 with fail
        gi_cut [36] from 23 (fun s wx => s = .bool false ∧ ∃ nn, wx = W2.drewN nn)
        case first =>
          refine region_quiet_round (F := Fence.wide) rfl (by kernel_rfl) (by kernel_rfl) (by kernel_rfl) ?_
          repeat (gi_big_quiet_step (fail))
          refine wpQuietIn_nil ?_
          rintro _ ⟨nq, rfl⟩
          rename_i h1 h0
          refine h0 _ _ (Met.intro (h1 _ _ ?_))
          (repeat apply Exists.intro)
          refine ⟨?rel, rfl⟩
          case rel => exact ⟨rfl, _, rfl⟩
        case rest =>
        clear ck cw hcell hca hcx hd1 hd2 hcs1 hcs2 hli0 hli2
        obtain ⟨rfl, nn, hwc⟩ := hcut
        have J3 := Lib.hid (show VJ w4 wc tb0 nb0 lr D2 (rr .busy none) 0 i by rw [hwc]; exact J2.out.later (below_drewN _ _))
        have HRO3 := Lib.hid (show Room wc g D0 by rw [hwc]; exact HRO.out.below (below_drewN _ _))
        clear hwc J2 HRO
        gi_wp2_with fail
        gi_loopw [10] (fun x10 wr => ∃ j D, j ≤ k ∧ x10 = .int .i64 ((j : Nat) : Int) ∧ List.length D = k ∧ Room wr g D ∧ VJ w4 wr tb0 nb0 lr D2 (rr .busy none) 0 i) (fun x10 _ => k - (intOf x10).toNat)
        case atStart => exact ⟨0, D0, Nat.zero_le _, rfl, HLF.out, HRO3.out, J3.out⟩
        case round =>
          obtain ⟨j, D, hj, rfl, hDl, hro, hvj⟩ := hrel
          by_cases hjk : j < k
          · have hc := hro.cell j (by omega)
            have hf := hro.free j (by omega)
            have HSET := Lib.hid (hro.set j (by omega) 255)
            have HVJ := Lib.hid (hvj.setG g j (.int .u8 ((255 : Nat) : Int)) (by have := HGL.out; omega))
            have hji : ((j : Nat) : Int) < ((k : Nat) : Int) := by omega
            have HDL := Lib.hid hDl
            clear hro hvj
            gi_wp2_with fail
            go_roundw
            case rel => exact ⟨j + 1, _, by omega, by go_num, by rw [List.length_set]; exact HDL.out, HSET.out, HVJ.out⟩
            case measure => simp [intOf]; omega
          · obtain rfl : j = k := by omega
            have ck := hvj.kbx.cell
            have fk := hvj.kbx.frozen
            have HVJ := Lib.hid hvj
            clear hro hvj hjk hDl
            gi_upto_region 18 with fail
            obtain ⟨i1, hi1⟩ : ∃ i1, i + 1 = i1 := ⟨_, rfl⟩
            rw [show ((i : Nat) : Int) + 1 = ((i1 : Nat) : Int) by omega]
            have hj3 := HVJ.out.setK i1
            obtain ⟨w5, hw5⟩ : ∃ w5, wr.setCell ⟨nb0, 0, none⟩ (.int .i64 ((i1 : Nat) : Int)) = w5 := ⟨_, rfl⟩
            rw [hw5] at hj3 ⊢
            clear ck fk
            have hrt := RT.out.later hj3.bel
            have ck := hj3.kbx.cell
            have ct := hj3.tbx.cell
            have cm := hrt.s.mb.cell
            have HJ3 := Lib.hid hj3
            have HI1 := Lib.hid hi1
            clear hj3 hrt hw5 HVJ hi1
            by_cases hmk : many ≤ ((i1 : Nat) : Int)
            · have hd1 : decide (many ≤ ((i1 : Nat) : Int)) = true := decide_eq_true hmk
              have HMK := Lib.hid hmk
              clear hmk
              gi_wp2_with fail
              refine ⟨HJ3.out.rec_, i1, HJ3.out.put _, ?_, by have := HI1.out; have := HIL.out; omega⟩
              have h1 := HI1.out
              have h2 := HMK.out
              rcases HCND.out with h3 | h3 <;> omega
            · have hd1 : decide (many ≤ ((i1 : Nat) : Int)) = false := decide_eq_false hmk
              have HMK := Lib.hid hmk
              clear hmk
              gi_wp2_with fail
              refine ⟨HJ3.out.rec_, by rw [HI1.out]; exact HJ3.out.put _, ?_⟩
              have h1 := HI1.out
              have h2 := HMK.out
              omega
  case rest0 =>
    rintro Wz hz
    obtain ⟨Dm, hDm⟩ : ∃ D, wk0.heap.size = D := ⟨_, rfl⟩
    rw [hDm] at hz ⊢
    have hrz := RT.out.later hz.bel
    have ck := hz.kbx.cell
    have ct := hz.tbx.cell
    have cw := hrz.wbx.cell
    have cm := hrz.s.mb.cell
    have hnl : L.length ≤ 5 := by rw [HNUM.out]; omega
    obtain ⟨M, hM1, hM2, hM3⟩ := end_twoQ HK0.out
    have RTz := Lib.hid hrz
    have BZ := Lib.hid (HB4.out.trans (hz.bel.mono (by have := HB4.out.size; have := EB.out; omega)))
    have DFM := Lib.hid hz.dfr
    have DGE := Lib.hid (show b ≤ Dm by have := HB4.out.size; have := EB.out; have := ETB0.out; have := XK0.out.lt; have := ENB0.out; have := XT0.out.lt; omega)
    clear hrz hz hDm
    gi_upto_region 21 with fail
    clear ck cw cm hM1 hM2 hM3
    gi_wp2_with fail
    rw [roundsIn_succ]
    clear ct
    have halT := below_new Wz (.cells #[.int .i64 1] 3)
    have hxT := Boxed.new Wz 3 (.int .i64 1)
    obtain ⟨tb1, etb1⟩ : ∃ g, Wz.heap.size = g := ⟨_, rfl⟩
    obtain ⟨wT1, hwT⟩ : ∃ w', Wz.alloc (.cells #[.int .i64 1] 3) = w' := ⟨_, rfl⟩
    rw [hwT] at halT hxT ⊢
    rw [etb1] at hxT ⊢
    have BT1 := Lib.hid halT
    have XT1 := Lib.hid hxT
    have ETB1 := Lib.hid etb1
    have ct := hxT.cell
    clear halT hxT hwT etb1
    gi_wp2_with fail
    clear ct
    have halK := below_new wT1 (.cells #[.int .i64 0] 3)
    have hxk : Boxed (wT1.alloc (.cells #[.int .i64 0] 3)) wT1.heap.size 3 (.int .i64 ((0 : Nat) : Int)) := Boxed.new wT1 3 (.int .i64 0)
    obtain ⟨nb1, enb⟩ : ∃ g, wT1.heap.size = g := ⟨_, rfl⟩
    obtain ⟨wk1, hwk⟩ : ∃ w', wT1.alloc (.cells #[.int .i64 0] 3) = w' := ⟨_, rfl⟩
    rw [hwk] at halK hxk ⊢
    rw [enb] at hxk ⊢
    have BK1 := Lib.hid halK
    have XK1 := Lib.hid hxk
    have ENB1 := Lib.hid enb
    clear halK hxk enb hwk
    refine open_joined (gf := 31) (lb := #[.pointer (some ⟨b + 2, 0, none⟩)]) (by decide) rfl Try.entForms (VG Wz tb1 nb1 wk1.heap.size 1 L.length) .skip ?turn1 ?brk1 ?rest1
    case brk1 =>
      intro fr W h
      exact wpIn_skip h
    case turn1 =>
      intro W1 rr hrr hb1 hsz hR
      obtain ⟨fn, hrr⟩ := hrr
      obtain ⟨D2, hD⟩ : ∃ D2, wk1.heap.size = D2 := ⟨_, rfl⟩
      rw [hD] at hrr hb1 hsz hR ⊢
      obtain ⟨lr, hlr⟩ : ∃ lr, D2 + 1 = lr := ⟨_, rfl⟩
      rw [hlr] at hR ⊢
      have hbk1 : Below wk1.heap.size wk1 W1 := by rw [hD]; exact hb1
      have o1 : Wz.heap.size = tb1 := ETB1.out
      have o2 : tb1 < nb1 := by have := XT1.out.lt; have := ENB1.out; omega
      have o3 : nb1 < D2 := by have := XK1.out.lt; omega
      have hj0 : VJ Wz W1 tb1 nb1 lr D2 (rr .ready none) 1 0 := ⟨BT1.out.trans ((BK1.out.trans (hbk1.mono BK1.out.size)).mono BT1.out.size), boxed_below XK1.out hbk1 XK1.out.lt, boxed_below (boxed_below XT1.out BK1.out XT1.out.lt) hbk1 (Nat.lt_of_lt_of_le XT1.out.lt BK1.out.size), hR, o1, o2, o3, by omega⟩
      have J0 := Lib.hid hj0
      have HRR := Lib.hid hrr
      clear hrr hb1 hsz hR hD hlr hbk1 o1 o2 o3 hj0
      refine (forms_at 5 (by decide) lr (b + 2) v HV.out (fun k W => VJ Wz W tb1 nb1 lr D2 (rr .ready none) 1 (k - q) ∧ True) (fun k W => False) W1 (lr + 1)
        (fun k W W' h hb => ⟨h.1.later hb, h.2⟩) (fun k W h => ⟨(RTz.out.later h.1.bel).s.vb.cell, h.1.lt⟩)
        (fun k W h h1 h5 hn => by
          have hkq : k < q := by
            rcases Nat.lt_or_ge k q with hc | hc
            · exact hc
            · exact absurd (Nat.lt_of_lt_of_le HQS.out.1 (pow128_mono hc)) hn
          rw [show k - q = 0 by omega] at h
          rw [show k + 1 - q = 0 by omega]
          exact h) ?hY1 ⟨by rw [show 1 - q = 0 by omega]; exact J0.out, trivial⟩).mono ?post1
      case post1 =>
        rintro e W2 ⟨hv, (⟨hj, _⟩ | ⟨k, _, _, _, hf⟩)⟩
        · rw [← HNUM.out] at hj
          exact ⟨hv, .inl ⟨hj.rec_, fun o => hj.go o⟩⟩
        · exact hf.elim
      case hY1 =>
        intro k g W hj k1 k5 hkv hg hgc
        have hqk : q ≤ k := by
          rcases Nat.lt_or_ge k q with h | h
          · exact absurd hkv (HQS.out.2 k h k1)
          · exact h
        obtain ⟨i, hi⟩ : ∃ i, k - q = i := ⟨_, rfl⟩
        have hil : i < L.length := by rw [HNUM.out]; omega
        have hLi : L[i]? = some (formV v k) := by
          have := HGET.out i (by omega)
          rw [this, show q + i = k by omega]
        have hi1 : k + 1 - q = i + 1 := by omega
        rw [hi1]
        rw [hi] at hj
        obtain ⟨hj, hcnd⟩ := hj
        have JW := Lib.hid hj
        have HCND := Lib.hid hcnd
        have HLI := Lib.hid hLi
        have HIL := Lib.hid hil
        have HGL := Lib.hid (show lr < g by omega)
        have HGC := Lib.hid hgc
        clear hj hcnd hgc hkv hLi hi hi1 hqk hg
        refine named_round HRR.out JW.out.rec_ rfl ?a11 ?asg1 ?body1
        case asg1 =>
          intro K hK
          have HK := Lib.hid hK
          clear hK
          gi_wp2
          exact HK.out
        case body1 =>
          intro W2 hW2
          have hj2 : VJ Wz W2 tb1 nb1 lr D2 (rr .busy none) 1 i := by rw [hW2]; exact JW.out.put _
          have hg2 : W2.heap[g]? = some (.cells (u8s (formV v k)).toArray 5 (0, 0)) := by rw [hW2]; exact (World.putObj_heap_other (show g ≠ lr by have := HGL.out; omega)).trans HGC.out
          have hroom := room_of_heap hg2
          have hrt := RTz.out.later hj2.bel
          obtain ⟨gs', cs', gw, cw', es, _, _, hcell, hrow, _, _, _⟩ := hrt.ll.at_ i _ HLI.out (by rw [formV_len]; omega)
          simp only [Value.slice.injEq, Option.some.injEq, Addr.mk.injEq, and_true, true_and] at es
          obtain ⟨rfl, rfl⟩ := es
          rw [formV_len] at hcell hrow
          have ck := hj2.kbx.cell
          have cw := hrt.wbx.cell
          have hF256 := formV_lt v k
          have hsb := hroom.src k k (by rw [formV_len]; exact Nat.le_refl _)
          rw [List.take_of_length_le (by rw [formV_len]; exact Nat.le_refl _)] at hsb
          have hsw := SrcAt.of_row hrow
          have hca : ∀ n, (convert 22 9 (.slice (some ⟨g, 0, none⟩) k k)).run Try.prog (W2.drewN n) = .ok (.string (strOf (formV v k))) (W2.drewN n) := fun n => conv_src (hsb.below (below_drewN _ _) hsb.lt) hF256
          have hcx : ∀ n, (convert 22 9 (.slice (some ⟨gw, 0, none⟩) k cw')).run Try.prog (W2.drewN n) = .ok (.string (strOf (formV v k))) (W2.drewN n) := fun n => conv_src (hsw.below (below_drewN _ _) hsw.lt) hF256
          obtain ⟨SF, hSF⟩ : ∃ S, strOf (formV v k) = S := ⟨_, rfl⟩
          rw [hSF] at hca hcx
          have hlf : (formV v k).length = k := formV_len v k
          obtain ⟨D0, hD0⟩ : ∃ D, formV v k = D := ⟨_, rfl⟩
          rw [hD0] at hroom hlf
          have J2 := Lib.hid hj2
          have HRO := Lib.hid hroom
          have HLF := Lib.hid hlf
          have hil := HIL.out
          have hd1 : decide (((L.length : Nat) : Int) ≤ ((i : Nat) : Int)) = false := decide_eq_false (by omega)
          have hd2 : decide (L.length ≤ i) = false := decide_eq_false (by omega)
          have hli0 : (0 : Int) ≤ ((i : Nat) : Int) := by omega
          have hli2 : ((i : Nat) : Int) < ((L.length : Nat) : Int) := by omega
          have hli1 : L.length ≤ 5 := by rw [HNUM.out]; omega
          have hcs2 := HCS.out.2
          have hcs1 := HCS.out.1
          clear hj2 hg2 hroom hrt hrow hF256 hsb hsw hSF hD0 hlf hW2
          gi_upto_region 11 with fail
          gi_cut [36] from 23 (fun s wx => s = .bool false ∧ ∃ nn, wx = W2.drewN nn)
          case first =>
            refine region_quiet_round (F := Fence.wide) rfl (by kernel_rfl) (by kernel_rfl) (by kernel_rfl) ?_
            repeat (gi_big_quiet_step (fail))
            refine wpQuietIn_nil ?_
            rintro _ ⟨nq, rfl⟩
            rename_i h1 h0
            refine h0 _ _ (Met.intro (h1 _ _ ?_))
            (repeat apply Exists.intro)
            refine ⟨?rel, rfl⟩
            case rel => exact ⟨rfl, _, rfl⟩
          case rest =>
          clear ck cw hcell hca hcx hd1 hd2 hcs1 hcs2 hli0 hli2
          obtain ⟨rfl, nn, hwc⟩ := hcut
          have J3 := Lib.hid (show VJ Wz wc tb1 nb1 lr D2 (rr .busy none) 1 i by rw [hwc]; exact J2.out.later (below_drewN _ _))
          have HRO3 := Lib.hid (show Room wc g D0 by rw [hwc]; exact HRO.out.below (below_drewN _ _))
          clear hwc J2 HRO
          gi_wp2_with fail
          gi_loopw [10] (fun x10 wr => ∃ j D, j ≤ k ∧ x10 = .int .i64 ((j : Nat) : Int) ∧ List.length D = k ∧ Room wr g D ∧ VJ Wz wr tb1 nb1 lr D2 (rr .busy none) 1 i) (fun x10 _ => k - (intOf x10).toNat)
          case atStart => exact ⟨0, D0, Nat.zero_le _, rfl, HLF.out, HRO3.out, J3.out⟩
          case round =>
            obtain ⟨j, D, hj, rfl, hDl, hro, hvj⟩ := hrel
            by_cases hjk : j < k
            · have hc := hro.cell j (by omega)
              have hf := hro.free j (by omega)
              have HSET := Lib.hid (hro.set j (by omega) 255)
              have HVJ := Lib.hid (hvj.setG g j (.int .u8 ((255 : Nat) : Int)) (by have := HGL.out; omega))
              have hji : ((j : Nat) : Int) < ((k : Nat) : Int) := by omega
              have HDL := Lib.hid hDl
              clear hro hvj
              gi_wp2_with fail
              go_roundw
              case rel => exact ⟨j + 1, _, by omega, by go_num, by rw [List.length_set]; exact HDL.out, HSET.out, HVJ.out⟩
              case measure => simp [intOf]; omega
            · obtain rfl : j = k := by omega
              have ck := hvj.kbx.cell
              have fk := hvj.kbx.frozen
              have HVJ := Lib.hid hvj
              clear hro hvj hjk hDl
              gi_upto_region 18 with fail
              obtain ⟨i1, hi1⟩ : ∃ i1, i + 1 = i1 := ⟨_, rfl⟩
              rw [show ((i : Nat) : Int) + 1 = ((i1 : Nat) : Int) by omega]
              have hj3 := HVJ.out.setK i1
              obtain ⟨w5, hw5⟩ : ∃ w5, wr.setCell ⟨nb1, 0, none⟩ (.int .i64 ((i1 : Nat) : Int)) = w5 := ⟨_, rfl⟩
              rw [hw5] at hj3 ⊢
              clear ck fk
              have hrt := RTz.out.later hj3.bel
              have ck := hj3.kbx.cell
              have ct := hj3.tbx.cell
              have cm := hrt.s.mb.cell
              have HJ3 := Lib.hid hj3
              have HI1 := Lib.hid hi1
              clear hj3 hrt hw5 HVJ hi1
              gi_wp2_with fail
              exact ⟨HJ3.out.rec_, by rw [HI1.out]; exact HJ3.out.put _⟩
    case rest1 =>
      rintro Wy hz
      obtain ⟨Dn, hDn⟩ : ∃ D, wk1.heap.size = D := ⟨_, rfl⟩
      rw [hDn] at hz ⊢
      have hrz := RTz.out.later hz.bel
      have ck := hz.kbx.cell
      have ct := hz.tbx.cell
      have cw := hrz.wbx.cell
      have cm := hrz.s.mb.cell
      have hnl : L.length ≤ 5 := by rw [HNUM.out]; omega
      have hDl := (Array.getElem?_eq_some_iff.1 DFM.out).1
      have RTy := Lib.hid hrz
      have BY := Lib.hid (BZ.out.trans (hz.bel.mono (by have := BZ.out.size; have := EB.out; omega)))
      have DF1 := Lib.hid ((hz.bel.block Dm hDl).trans DFM.out)
      have DF2 := Lib.hid hz.dfr
      have DNE := Lib.hid (show Dm ≠ Dn by have := ETB1.out; have := XK1.out.lt; have := ENB1.out; have := XT1.out.lt; omega)
      have DGN := Lib.hid (show b ≤ Dn by have := DGE.out; have := ETB1.out; have := XK1.out.lt; have := ENB1.out; have := XT1.out.lt; omega)
      clear hrz hz hDn hDl
      gi_upto_region 21 with fail
      clear ck cw cm
      gi_wp2_with fail
      rw [roundsIn_succ]
      clear ct
      gi_wp2_with fail
      go_wp2_with fail
      refine ((HKN _).out).mono ?_
      rintro e wF ⟨rfl, hbF⟩
      obtain ⟨wY, hwY⟩ : ∃ wY, Wy.alloc (.cells #[.int .i64 2] 3) = wY := ⟨_, rfl⟩
      have hbY : Below Wy.heap.size Wy wY := by rw [← hwY]; exact below_new Wy _
      rw [hwY] at hbF
      have hb9 : Below Wy.heap.size Wy wF := hbY.trans (hbF.mono hbY.size)
      have hrb := (RTy.out.later hb9).s.rb
      have cr := hrb.cell
      have cf := hrb.frozen
      have K1 := Lib.hid ((hb9.block Dm (Array.getElem?_eq_some_iff.1 DF1.out).1).trans DF1.out)
      have K2 := Lib.hid ((hb9.block Dn (Array.getElem?_eq_some_iff.1 DF2.out).1).trans DF2.out)
      have HRB := Lib.hid hrb
      have BF := Lib.hid (BY.out.trans (hb9.mono (by have := BY.out.size; have := EB.out; omega)))
      clear hbF hbY hwY hb9 hrb DF1 DF2 RTy
      go_wp2_with fail
      have ha1 := Boxed.set (.bool true) HRB.out
      have ha2 := BF.out.setCell (p := ⟨b + 1, 0, none⟩) (Nat.le_succ _) (.bool true)
      have n1 : Dm ≠ b + 1 := fun e => by
        have hx := K1.out
        rw [e, show wF.heap[b + 1]? = _ from HRB.out] at hx
        cases hx
      have n2 : Dn ≠ b + 1 := fun e => by
        have hx := K2.out
        rw [e, show wF.heap[b + 1]? = _ from HRB.out] at hx
        cases hx
      have k1 := (Below.heap_setCell wF ⟨b + 1, 0, none⟩ (.bool true) Dm n1).trans K1.out
      have k2 := (Below.heap_setCell wF ⟨b + 1, 0, none⟩ (.bool true) Dn n2).trans K2.out
      obtain ⟨wX, hwX⟩ : ∃ wX, wF.setCell ⟨b + 1, 0, none⟩ (.bool true) = wX := ⟨_, rfl⟩
      rw [hwX] at ha1 ha2 k1 k2 ⊢
      clear hwX cr cf
      have k3 : (wX.putObj Dn (.deferred none)).heap[Dm]? = _ := (World.putObj_heap_other (Ne.symm DNE.out).symm).trans k1
      have hb10 : Boxed (wX.putObj Dn (.deferred none)) (b + 1) 4 (.bool true) := (World.putObj_heap_other n2.symm).trans ha1
      have hb11 : Boxed ((wX.putObj Dn (.deferred none)).putObj Dm (.deferred none)) (b + 1) 4 (.bool true) := (World.putObj_heap_other n1.symm).trans hb10
      have hbw2 := ha2.grown (grownBy_putObj' wX Dn (.deferred none)) (by have := ha2.size; have := EB.out; omega) (fun k e => by cases e; exact DGN.out)
      have hbw3 := hbw2.grown (grownBy_putObj' (wX.putObj Dn (.deferred none)) Dm (.deferred none)) (by have := hbw2.size; have := EB.out; omega) (fun k e => by cases e; exact DGE.out)
      refine ⟨by simp, .inl ⟨_, _, rfl, run_takeDeferred k2, ?_⟩⟩
      refine ⟨by simp, .inl ⟨_, _, rfl, run_takeDeferred k3, ?_⟩⟩
      exact ⟨.bool true, by simp [results, Try.results5, go_sem, hb11.cell], rfl, hbw3⟩
end Go.Proofs.Ytfkaghfbngicmaa
