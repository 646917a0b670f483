/- number: a number at the beginning of a text. Conditions: the scanner lies in memory; its place and the text are far below the greatest number. -/
import Derived.Test.YtgdjfifnnhfonaaF
import Derived.Test.YtgdjfifnnhfonaaG
namespace Go.Proofs.Ytgdjfifnnhfonaa
open Go.RowKit Go.Shelf

/-- The end of a number. -/
def numTail (l : List UInt8) (n : Nat) (t : List UInt8) (v : Nat) : TRes := if isWrd (firstOf (l.drop n)) then .bad n else .ok 2 t v n

/-- A number at the beginning of a text. -/
def numberR (l : List UInt8) : TRes :=
  if isDig (firstOf l) then
    (if preB [48, 120] l then (if (digs 16 (l.drop 2) 0).1 = 0 then .bad 2 else numTail l (2 + (digs 16 (l.drop 2) 0).1) (l.take (2 + (digs 16 (l.drop 2) 0).1)) (digs 16 (l.drop 2) 0).2)
     else if firstOf l = 48 then numTail l 1 (l.take 1) 0
     else numTail l (digs 10 l 0).1 (l.take (digs 10 l 0).1) (digs 10 l 0).2)
  else .no

set_option maxRecDepth 100000 in
set_option maxHeartbeats 3200000 in
theorem number_any (p ln cn : Nat) (l : List UInt8) (w : World) (h : KAt w p l ln cn) (h1 : ln ≤ 549755813888) (h2 : cn ≤ 274877906944) (h3 : l.length ≤ 137438953472) :
    Calls Try.prog 56 #[.pointer (some ⟨p, 0, none⟩)] w (KindR (numberR l) w p ln cn l) := by
  have hb0 : Below w.heap.size w (w.alloc (.cells #[.int .i64 0, .string ⟨#[]⟩, .int .i64 0, .int .i64 0, .int .i64 0] 36)) := (Below.refl _ _).alloc (Nat.le_refl _) _
  have ht0 := tbox_new w (.int .i64 0) (.string ⟨#[]⟩) (.int .i64 0) (.int .i64 0) (.int .i64 0)
  obtain ⟨w0, hw0⟩ : ∃ w0, w.alloc (.cells #[.int .i64 0, .string ⟨#[]⟩, .int .i64 0, .int .i64 0, .int .i64 0] 36) = w0 := ⟨_, rfl⟩
  obtain ⟨b, eb⟩ : ∃ b, w.heap.size = b := ⟨_, rfl⟩
  rw [hw0] at hb0 ht0
  rw [eb] at ht0
  have EB := Lib.hid eb
  have hk0 := h.below hb0 h.lt
  have hplt := h.lt
  have HF := Lib.hid (first_any p ln cn l w0 hk0)
  have HW0 := Lib.hid hw0
  have HB0 := Lib.hid hb0
  have HT0 := Lib.hid ht0
  have HK0 := Lib.hid hk0
  have PB := Lib.hid (show p < b by omega)
  have RB0 := Lib.hid (Rest.below (S := fun i => i = p) hb0)
  clear h hw0 hb0 ht0 hk0 hplt eb
  have HDG := fun wx => Lib.hid (dig_any (firstOf l) wx)
  cases hn : isDig (firstOf l) with
  | false =>
    have hR : numberR l = .no := by unfold numberR; rw [hn]; rfl
    rw [hR]
    rw [hn] at HDG
    generalize firstOf l = y at HF HDG hn
    clear hn hR h1 h2 h3
    have c0 := HT0.out.c0
    have c1 := HT0.out.c1
    have c2 := HT0.out.c2
    have c3 := HT0.out.c3
    have c4 := HT0.out.c4
    have g0 := HT0.out.fr 0
    have g1 := HT0.out.fr 1
    have g2 := HT0.out.fr 2
    have g3 := HT0.out.fr 3
    have g4 := HT0.out.fr 4
    go_enter Try.func56, Try.ntmps56
    go_upto_region 1 with fail
    rw [HW0.out, EB.out]
    go_wp2_with (first | (go_at_call 62; refine HF.out.mono ?_; rintro e w' ⟨rfl, rfl⟩) | (go_at_call 70; refine ((HDG _).out).mono ?_; rintro e w' ⟨rfl, rfl⟩))
    obtain ⟨hs1, hs2⟩ := set5 HT0.out (.int .i64 0) (.string ⟨#[]⟩) (.int .i64 0) (.int .i64 0) (.int .i64 0)
    generalize (((((w'.setCell ⟨b, 0, none⟩ (.int .i64 0)).setCell ⟨b, 1, none⟩ (.string ⟨#[]⟩)).setCell ⟨b, 2, none⟩ (.int .i64 0)).setCell ⟨b, 3, none⟩ (.int .i64 0)).setCell ⟨b, 4, none⟩ (.int .i64 0)) = w5 at hs1 hs2 ⊢
    have e0 := hs1.c0
    have e1 := hs1.c1
    have e2 := hs1.c2
    have e3 := hs1.c3
    have e4 := hs1.c4
    refine bodyPost_ret (by simp [results, Try.results56, go_sem, *]; try rfl) rfl ?_
    exact ⟨(Rest.below HB0.out).trans hs2 (fun i hi e => by have := EB.out; omega), rfl, HK0.out.rest hs2 (by have := PB.out; omega)⟩
  | true =>
    obtain ⟨tb, etb⟩ : ∃ tb, w0.heap.size = tb := ⟨_, rfl⟩
    have hb1 : Below w0.heap.size w0 (w0.alloc (.cells #[.int .i64 2, .string ⟨#[]⟩, .int .i64 0, .int .i64 0, .int .i64 0] 36)) := (Below.refl _ _).alloc (Nat.le_refl _) _
    have ht1 := tbox_new w0 (.int .i64 2) (.string ⟨#[]⟩) (.int .i64 0) (.int .i64 0) (.int .i64 0)
    obtain ⟨w1, hw1⟩ : ∃ w1, w0.alloc (.cells #[.int .i64 2, .string ⟨#[]⟩, .int .i64 0, .int .i64 0, .int .i64 0] 36) = w1 := ⟨_, rfl⟩
    rw [hw1] at hb1 ht1
    rw [etb] at ht1
    have hk1 := HK0.out.below hb1 HK0.out.lt
    have T1 := Lib.hid ht1
    have TB1 := Lib.hid (HT0.out.below hb1 HT0.out.lt)
    have R1 := Lib.hid (RB0.out.trans (Rest.below (S := fun _ => False) hb1) (fun _ _ e => e.elim))
    have HPT := Lib.hid (show p < tb ∧ b < tb from ⟨by have := HK0.out.lt; omega, by have := HT0.out.lt; omega⟩)
    have K1 := Lib.hid hk1
    have HW1 := Lib.hid hw1
    have ETB := Lib.hid etb
    have HX := fun wx => Lib.hid (pre_any l [48, 120] wx)
    have c2s := hk1.c2
    rw [hn] at HDG
    have hR0 : numberR l = (if preB [48, 120] l then (if (digs 16 (l.drop 2) 0).1 = 0 then .bad 2 else numTail l (2 + (digs 16 (l.drop 2) 0).1) (l.take (2 + (digs 16 (l.drop 2) 0).1)) (digs 16 (l.drop 2) 0).2)
     else if firstOf l = 48 then numTail l 1 (l.take 1) 0
     else numTail l (digs 10 l 0).1 (l.take (digs 10 l 0).1) (digs 10 l 0).2) := by unfold numberR; rw [hn]; rfl
    have hl1 : 1 ≤ l.length := by
      cases l with
      | nil => exact absurd hn (by decide)
      | cons b l => simp
    have HF1 := Lib.hid (first_any p ln cn l w1 hk1)
    generalize numberR l = R at hR0 ⊢
    clear hn hb1 ht1 hk1 hw1 etb
    go_enter Try.func56, Try.ntmps56
    go_upto_region 1 with fail
    rw [HW0.out, EB.out]
    go_upto_region 5 with (first | (go_at_call 62; refine HF.out.mono ?_; rintro e w' ⟨rfl, rfl⟩) | (go_at_call 70; refine ((HDG _).out).mono ?_; rintro e w' ⟨rfl, rfl⟩))
    rw [HW1.out, ETB.out]
    cases p1 : preB [48, 120] l with
    | true =>
      have hl2 : 2 ≤ l.length := preB_two p1
      rw [p1] at HX hR0
      rw [if_pos rfl] at hR0
      have HR0 := Lib.hid hR0
      have PASS := Lib.hid (pass_any p ln cn 2 l w1 K1.out hl2 (by omega) (by omega) (by omega))
      have HL2 := Lib.hid hl2
      clear hR0 p1 hl1 HF HDG HF1 hl2
      generalize firstOf l = y
      go_wp2_with (first | (go_at_call 62; refine HF1.out.mono ?_; rintro e w' ⟨rfl, rfl⟩) | (go_at_call 71; refine ((HX _).out).mono ?_; rintro e w' ⟨rfl, rfl⟩))
      refine PASS.out.mono ?_
      rintro e w2 ⟨rfl, hk2, hr2⟩
      have hq2 := adv_bound (l.take 2) (ln, cn)
      simp only [List.length_take] at hq2
      have DIG : Calls Try.prog 73 #[.pointer (some ⟨p, 0, none⟩), .int .i64 16] w2 _ := digits_any p _ _ 16 (l.drop 2) w2 hk2 (by omega) (by omega) (by omega) (by omega) (by rw [List.length_drop]; omega)
      have HDI := Lib.hid DIG
      have hT2 := T1.out.rest hr2 (by have := HPT.out; omega)
      have hB2 := TB1.out.rest hr2 (by have := PB.out; omega)
      have HT2 := Lib.hid hT2
      have HB2 := Lib.hid hB2
      have RR2 := Lib.hid (R1.out.trans hr2 (fun _ _ e => e))
      clear hk2 hr2 hq2 DIG hT2 hB2 PASS c2s HX
      go_wp2_with fail
      refine HDI.out.mono ?_
      rintro e w3 ⟨n, v, hd, hnl, hvl, rfl, hk3, hr3⟩
      rw [adv_take, List.drop_drop] at hk3
      have ht2 := HT2.out.rest hr3 (by have := HPT.out; omega)
      have hb2 := HB2.out.rest hr3 (by have := PB.out; omega)
      have hR2 := RR2.out.trans hr3 (fun _ _ e => e)
      have hrn0 := HR0.out
      rw [hd] at hrn0
      have hlen : ((l.drop 2).take n).length = n := by rw [List.length_take]; omega
      rw [List.length_drop] at hnl
      by_cases hn0 : n = 0
      · subst hn0
        have hE : (strL ((l.drop 2).take 0)).toList.isEmpty = true := by simp [strL]
        have HWR := Lib.hid (wrong_any p _ _ (l.drop (2 + 0)) w3 hk3)
        rw [if_pos rfl] at hrn0
        have HRN := Lib.hid hrn0
        have HRS := Lib.hid hR2
        have hTXe : (l.drop 2).take 0 = [] := by simp
        rw [hTXe] at hE ⊢
        clear hk3 hr3 hd hnl hvl hrn0 ht2 hb2 hR2 hlen HDI HR0 HT2 HB2 RR2 hTXe
        go_wp2_with (go_at_call 74; refine HWR.out.mono ?_; rintro e w4 ⟨rfl, hb4⟩)
        rw [HRN.out]
        exact ⟨rfl, HRS.out.trans (Rest.below (S := fun _ => False) hb4) (fun _ _ e => e.elim), rfl⟩
      · rw [if_neg hn0] at hrn0
        have HRN := Lib.hid hrn0
        have hcat : strL (l.take 2) ++ strL ((l.drop 2).take n) = strL (l.take (2 + n)) := by rw [strL_append, ← List.take_add]
        have hsz : (9223372036854775807 < (strL (l.take 2)).size + (strL ((l.drop 2).take n)).size) = False := eq_false (by rw [strL_size, strL_size, hlen, List.length_take]; omega)
        have hE : (strL ((l.drop 2).take n)).toList.isEmpty = false := by
          rw [strL_toList]
          cases hx : (l.drop 2).take n with
          | nil => rw [hx] at hlen; simp at hlen; omega
          | cons a b => rfl
        generalize (l.drop 2).take n = TY at hcat hsz hE hlen ⊢
        have K3 := Lib.hid hk3
        have T2 := Lib.hid ht2
        have B2 := Lib.hid hb2
        have R2 := Lib.hid hR2
        have HNL := Lib.hid hnl
        have j1 := ht2.fr 1
        have j2 := ht2.fr 2
        have k1 := ht2.c1
        have k2 := ht2.c2
        clear hk3 hr3 hd hnl hvl hrn0 ht2 hb2 hR2 hlen HDI HR0 HT2 HB2 RR2 hn0
        go_upto_region 13 with fail
        have ht2 := T2.out
        have hb2 := B2.out
        have hR2 := R2.out
        have hS : Rest (fun i => i = tb) w3 ((w3.setCell ⟨tb, 1, none⟩ (.string (strL (l.take (2 + n))))).setCell ⟨tb, 2, none⟩ (.int .i64 ((v : Nat) : Int))) := (((Rest.refl (fun i => i = tb) w3).setCell (S := fun i => i = tb) (p := ⟨tb, 1, none⟩) (fun _ => rfl) (.string (strL (l.take (2 + n))))).setCell (S := fun i => i = tb) (p := ⟨tb, 2, none⟩) (fun _ => rfl) (.int .i64 ((v : Nat) : Int)))
        have hT := ((ht2.set1 (.string (strL (l.take (2 + n))))).set2 (.int .i64 ((v : Nat) : Int)))
        generalize ((w3.setCell ⟨tb, 1, none⟩ (.string (strL (l.take (2 + n))))).setCell ⟨tb, 2, none⟩ (.int .i64 ((v : Nat) : Int))) = w5 at hS hT ⊢
        have TBt := Lib.hid hT
        have TBb := Lib.hid (hb2.rest hS (by have := HPT.out; omega))
        have KS := Lib.hid (K3.out.rest hS (by have := HPT.out; omega))
        have RS := Lib.hid (hR2.trans hS (fun i hi e => by have := HPT.out; have := EB.out; omega))
        clear hS hT ht2 hb2 hR2 hcat hsz hE j1 j2 k1 k2 T2 B2 R2 K3
        have HFI := Lib.hid (finish_any p _ _ (l.drop (2 + n)) w5 KS.out)
        have d0 := TBt.out.c0
        have d1 := TBt.out.c1
        have d2 := TBt.out.c2
        have d3 := TBt.out.c3
        have d4 := TBt.out.c4
        have c0 := TBb.out.c0
        have c1 := TBb.out.c1
        have c2 := TBb.out.c2
        have c3 := TBb.out.c3
        have c4 := TBb.out.c4
        have g0 := TBb.out.fr 0
        have g1 := TBb.out.fr 1
        have g2 := TBb.out.fr 2
        have g3 := TBb.out.fr 3
        have g4 := TBb.out.fr 4
        go_wp2_with fail
        refine HFI.out.mono ?_
        rintro e w4 (⟨hf, rfl, rfl⟩ | ⟨ht, hfail, hb4⟩)
        · have HFF := Lib.hid hf
          clear hf
          go_wp2_with fail
          obtain ⟨hs1, hs2⟩ := set5 TBb.out (.int .i64 2) (.string (strL (l.take (2 + n)))) (.int .i64 ((v : Nat) : Int)) (.int .i64 0) (.int .i64 0)
          generalize (((((w4.setCell ⟨b, 0, none⟩ (.int .i64 2)).setCell ⟨b, 1, none⟩ (.string (strL (l.take (2 + n))))).setCell ⟨b, 2, none⟩ (.int .i64 ((v : Nat) : Int))).setCell ⟨b, 3, none⟩ (.int .i64 0)).setCell ⟨b, 4, none⟩ (.int .i64 0)) = w6 at hs1 hs2 ⊢
          have e0 := hs1.c0
          have e1 := hs1.c1
          have e2 := hs1.c2
          have e3 := hs1.c3
          have e4 := hs1.c4
          refine bodyPost_ret (by simp [results, Try.results56, go_sem, *]; try rfl) rfl ?_
          have hrn := HRN.out
          unfold numTail at hrn
          rw [HFF.out] at hrn
          rw [hrn]
          exact ⟨RS.out.trans hs2 (fun i hi e => by have := EB.out; omega), rfl, KS.out.rest hs2 (by have := PB.out; omega)⟩
        · have hrn := HRN.out
          unfold numTail at hrn
          rw [ht] at hrn
          rw [hrn]
          unfold Fails at hfail
          subst hfail
          exact ⟨rfl, RS.out.trans (Rest.below (S := fun _ => False) hb4) (fun _ _ e => e.elim), rfl⟩
    | false =>
      rw [p1] at HX hR0
      rw [if_neg (by simp)] at hR0
      by_cases h48 : firstOf l = 48
      · rw [if_pos h48] at hR0
        rw [h48] at HF1
        have HRN := Lib.hid hR0
        have PASS := Lib.hid (pass_any p ln cn 1 l w1 K1.out hl1 (by omega) (by omega) (by omega))
        clear hR0 p1 hl1 HF HDG h48
        generalize firstOf l = y
        go_wp2_with (first | (go_at_call 62; refine HF1.out.mono ?_; rintro e w' ⟨rfl, rfl⟩) | (go_at_call 71; refine ((HX _).out).mono ?_; rintro e w' ⟨rfl, rfl⟩))
        refine PASS.out.mono ?_
        rintro e w2 ⟨rfl, hk2, hr2⟩
        have ht2 := T1.out.rest hr2 (by have := HPT.out; omega)
        have K2 := Lib.hid hk2
        have T2 := Lib.hid ht2
        have B2 := Lib.hid (TB1.out.rest hr2 (by have := PB.out; omega))
        have R2 := Lib.hid (R1.out.trans hr2 (fun _ _ e => e))
        have j1 := ht2.fr 1
        have k1 := ht2.c1
        clear hk2 hr2 ht2 PASS c2s HX HF1
        go_upto_region 13 with fail
        have ht2 := T2.out
        have hb2 := B2.out
        have hR2 := R2.out
        have hS : Rest (fun i => i = tb) w2 (w2.setCell ⟨tb, 1, none⟩ (.string (strL (l.take 1)))) := ((Rest.refl (fun i => i = tb) w2).setCell (S := fun i => i = tb) (p := ⟨tb, 1, none⟩) (fun _ => rfl) (.string (strL (l.take 1))))
        have hT := (ht2.set1 (.string (strL (l.take 1))))
        generalize (w2.setCell ⟨tb, 1, none⟩ (.string (strL (l.take 1)))) = w5 at hS hT ⊢
        have TBt := Lib.hid hT
        have TBb := Lib.hid (hb2.rest hS (by have := HPT.out; omega))
        have KS := Lib.hid (K2.out.rest hS (by have := HPT.out; omega))
        have RS := Lib.hid (hR2.trans hS (fun i hi e => by have := HPT.out; have := EB.out; omega))
        clear hS hT ht2 hb2 hR2 j1 k1 T2 B2 R2 K2
        have HFI := Lib.hid (finish_any p _ _ (l.drop 1) w5 KS.out)
        have d0 := TBt.out.c0
        have d1 := TBt.out.c1
        have d2 := TBt.out.c2
        have d3 := TBt.out.c3
        have d4 := TBt.out.c4
        have c0 := TBb.out.c0
        have c1 := TBb.out.c1
        have c2 := TBb.out.c2
        have c3 := TBb.out.c3
        have c4 := TBb.out.c4
        have g0 := TBb.out.fr 0
        have g1 := TBb.out.fr 1
        have g2 := TBb.out.fr 2
        have g3 := TBb.out.fr 3
        have g4 := TBb.out.fr 4
        go_wp2_with fail
        refine HFI.out.mono ?_
        rintro e w4 (⟨hf, rfl, rfl⟩ | ⟨ht, hfail, hb4⟩)
        · have HFF := Lib.hid hf
          clear hf
          go_wp2_with fail
          obtain ⟨hs1, hs2⟩ := set5 TBb.out (.int .i64 2) (.string (strL (l.take 1))) (.int .i64 0) (.int .i64 0) (.int .i64 0)
          generalize (((((w4.setCell ⟨b, 0, none⟩ (.int .i64 2)).setCell ⟨b, 1, none⟩ (.string (strL (l.take 1)))).setCell ⟨b, 2, none⟩ (.int .i64 0)).setCell ⟨b, 3, none⟩ (.int .i64 0)).setCell ⟨b, 4, none⟩ (.int .i64 0)) = w6 at hs1 hs2 ⊢
          have e0 := hs1.c0
          have e1 := hs1.c1
          have e2 := hs1.c2
          have e3 := hs1.c3
          have e4 := hs1.c4
          refine bodyPost_ret (by simp [results, Try.results56, go_sem, *]; try rfl) rfl ?_
          have hrn := HRN.out
          unfold numTail at hrn
          rw [HFF.out] at hrn
          rw [hrn]
          exact ⟨RS.out.trans hs2 (fun i hi e => by have := EB.out; omega), rfl, KS.out.rest hs2 (by have := PB.out; omega)⟩
        · have hrn := HRN.out
          unfold numTail at hrn
          rw [ht] at hrn
          rw [hrn]
          unfold Fails at hfail
          subst hfail
          exact ⟨rfl, RS.out.trans (Rest.below (S := fun _ => False) hb4) (fun _ _ e => e.elim), rfl⟩
      · rw [if_neg h48] at hR0
        have HR0 := Lib.hid hR0
        have DIG : Calls Try.prog 73 #[.pointer (some ⟨p, 0, none⟩), .int .i64 10] w1 _ := digits_any p _ _ 10 l w1 K1.out (by omega) (by omega) (by omega) (by omega) (by omega)
        have HDI := Lib.hid DIG
        generalize firstOf l = y at HF1 h48 HF HDG ⊢
        have hz : (((y : Nat) : Int) == 48) = false := by simpa using (by omega : ¬ ((y : Nat) : Int) = 48)
        clear hR0 p1 hl1 HF HDG DIG
        go_wp2_with (first | (go_at_call 62; refine HF1.out.mono ?_; rintro e w' ⟨rfl, rfl⟩) | (go_at_call 71; refine ((HX _).out).mono ?_; rintro e w' ⟨rfl, rfl⟩))
        refine HDI.out.mono ?_
        rintro e w2 ⟨n, v, hd, hnl, hvl, rfl, hk2, hr2⟩
        have hrn0 := HR0.out
        rw [hd] at hrn0
        have HRN := Lib.hid hrn0
        have ht2 := T1.out.rest hr2 (by have := HPT.out; omega)
        have K2 := Lib.hid hk2
        have T2 := Lib.hid ht2
        have B2 := Lib.hid (TB1.out.rest hr2 (by have := PB.out; omega))
        have R2 := Lib.hid (R1.out.trans hr2 (fun _ _ e => e))
        have j1 := ht2.fr 1
        have j2 := ht2.fr 2
        have k1 := ht2.c1
        have k2 := ht2.c2
        clear hk2 hr2 ht2 c2s HX HF1 hd hnl hvl hrn0 HDI HR0
        go_upto_region 13 with fail
        have ht2 := T2.out
        have hb2 := B2.out
        have hR2 := R2.out
        have hS : Rest (fun i => i = tb) w2 ((w2.setCell ⟨tb, 1, none⟩ (.string (strL (l.take n)))).setCell ⟨tb, 2, none⟩ (.int .i64 ((v : Nat) : Int))) := (((Rest.refl (fun i => i = tb) w2).setCell (S := fun i => i = tb) (p := ⟨tb, 1, none⟩) (fun _ => rfl) (.string (strL (l.take n)))).setCell (S := fun i => i = tb) (p := ⟨tb, 2, none⟩) (fun _ => rfl) (.int .i64 ((v : Nat) : Int)))
        have hT := ((ht2.set1 (.string (strL (l.take n)))).set2 (.int .i64 ((v : Nat) : Int)))
        generalize ((w2.setCell ⟨tb, 1, none⟩ (.string (strL (l.take n)))).setCell ⟨tb, 2, none⟩ (.int .i64 ((v : Nat) : Int))) = w5 at hS hT ⊢
        have TBt := Lib.hid hT
        have TBb := Lib.hid (hb2.rest hS (by have := HPT.out; omega))
        have KS := Lib.hid (K2.out.rest hS (by have := HPT.out; omega))
        have RS := Lib.hid (hR2.trans hS (fun i hi e => by have := HPT.out; have := EB.out; omega))
        clear hS hT ht2 hb2 hR2 j1 j2 k1 k2 T2 B2 R2 K2
        have HFI := Lib.hid (finish_any p _ _ (l.drop n) w5 KS.out)
        have d0 := TBt.out.c0
        have d1 := TBt.out.c1
        have d2 := TBt.out.c2
        have d3 := TBt.out.c3
        have d4 := TBt.out.c4
        have c0 := TBb.out.c0
        have c1 := TBb.out.c1
        have c2 := TBb.out.c2
        have c3 := TBb.out.c3
        have c4 := TBb.out.c4
        have g0 := TBb.out.fr 0
        have g1 := TBb.out.fr 1
        have g2 := TBb.out.fr 2
        have g3 := TBb.out.fr 3
        have g4 := TBb.out.fr 4
        go_wp2_with fail
        refine HFI.out.mono ?_
        rintro e w4 (⟨hf, rfl, rfl⟩ | ⟨ht, hfail, hb4⟩)
        · have HFF := Lib.hid hf
          clear hf
          go_wp2_with fail
          obtain ⟨hs1, hs2⟩ := set5 TBb.out (.int .i64 2) (.string (strL (l.take n))) (.int .i64 ((v : Nat) : Int)) (.int .i64 0) (.int .i64 0)
          generalize (((((w4.setCell ⟨b, 0, none⟩ (.int .i64 2)).setCell ⟨b, 1, none⟩ (.string (strL (l.take n)))).setCell ⟨b, 2, none⟩ (.int .i64 ((v : Nat) : Int))).setCell ⟨b, 3, none⟩ (.int .i64 0)).setCell ⟨b, 4, none⟩ (.int .i64 0)) = w6 at hs1 hs2 ⊢
          have e0 := hs1.c0
          have e1 := hs1.c1
          have e2 := hs1.c2
          have e3 := hs1.c3
          have e4 := hs1.c4
          refine bodyPost_ret (by simp [results, Try.results56, go_sem, *]; try rfl) rfl ?_
          have hrn := HRN.out
          unfold numTail at hrn
          rw [HFF.out] at hrn
          rw [hrn]
          exact ⟨RS.out.trans hs2 (fun i hi e => by have := EB.out; omega), rfl, KS.out.rest hs2 (by have := PB.out; omega)⟩
        · have hrn := HRN.out
          unfold numTail at hrn
          rw [ht] at hrn
          rw [hrn]
          unfold Fails at hfail
          subst hfail
          exact ⟨rfl, RS.out.trans (Rest.below (S := fun _ => False) hb4) (fun _ _ e => e.elim), rfl⟩
end Go.Proofs.Ytgdjfifnnhfonaa
