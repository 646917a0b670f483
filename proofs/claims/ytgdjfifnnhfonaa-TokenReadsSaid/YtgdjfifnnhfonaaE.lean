/- quoted and symbol: a quoted text and a symbol at the beginning of a text. Conditions: the scanner lies in memory; its place and the text are far below the greatest number. -/
import Derived.Test.YtgdjfifnnhfonaaD
namespace Go.Proofs.Ytgdjfifnnhfonaa
open Go.RowKit Go.Shelf

theorem adv_take (l : List UInt8) (a b : Nat) (q : Nat × Nat) : adv ((l.drop a).take b) (adv (l.take a) q) = adv (l.take (a + b)) q := by
  rw [← adv_append, ← List.take_add]

theorem KAt.cast {w : World} {p ln cn ln' cn' : Nat} {l l' : List UInt8} (h : KAt w p l ln cn) (e1 : l = l') (e2 : ln = ln') (e3 : cn = cn') : KAt w p l' ln' cn' := by subst e1; subst e2; subst e3; exact h

/-- A quoted text at the beginning of a text. -/
def quotedR (l : List UInt8) : TRes :=
  if firstOf l = 34 then (if firstOf (l.drop (1 + spanP isQ (l.drop 1))) = 34 then .ok 3 ((l.drop 1).take (spanP isQ (l.drop 1))) 0 (spanP isQ (l.drop 1) + 2) else .bad (1 + spanP isQ (l.drop 1))) else .no

set_option maxRecDepth 100000 in
set_option maxHeartbeats 1600000 in
theorem quoted_any (p ln cn : Nat) (l : List UInt8) (w : World) (h : KAt w p l ln cn) (h1 : ln ≤ 549755813888) (h2 : cn ≤ 274877906944) (h3 : l.length ≤ 137438953472) :
    Calls Try.prog 57 #[.pointer (some ⟨p, 0, none⟩)] w (KindR (quotedR l) w p ln cn l) := by
  have hb0 : Below w.heap.size w (w.alloc (.cells #[.int .i64 0, .string ⟨#[]⟩, .int .i64 0, .int .i64 0, .int .i64 0] 36)) := (Below.refl _ _).alloc (Nat.le_refl _) _
  have ht0 := tbox_new w (.int .i64 0) (.string ⟨#[]⟩) (.int .i64 0) (.int .i64 0) (.int .i64 0)
  obtain ⟨w0, hw0⟩ : ∃ w0, w.alloc (.cells #[.int .i64 0, .string ⟨#[]⟩, .int .i64 0, .int .i64 0, .int .i64 0] 36) = w0 := ⟨_, rfl⟩
  obtain ⟨b, eb⟩ : ∃ b, w.heap.size = b := ⟨_, rfl⟩
  rw [hw0] at hb0 ht0
  rw [eb] at ht0
  have EB := Lib.hid eb
  have hk0 := h.below hb0 h.lt
  have hplt := h.lt
  have HF := Lib.hid (first_any p ln cn l w0 hk0)
  have HW0 := Lib.hid hw0
  have HB0 := Lib.hid hb0
  have HT0 := Lib.hid ht0
  have HK0 := Lib.hid hk0
  have PB := Lib.hid (show p < b by omega)
  have RB0 := Lib.hid (Rest.below (S := fun i => i = p) hb0)
  clear h hw0 hb0 ht0 hk0 hplt eb
  by_cases hn : firstOf l = 34
  · have hR : ∀ n, spanP isQ (l.drop 1) = n → quotedR l = (if firstOf (l.drop (1 + n)) = 34 then .ok 3 ((l.drop 1).take n) 0 (n + 2) else .bad (1 + n)) := by rintro n rfl; unfold quotedR; rw [if_pos hn]
    have hl1 : 1 ≤ l.length := by
      cases l with
      | nil => simp [firstOf] at hn
      | cons b l => simp
    rw [hn] at HF
    generalize quotedR l = R at hR ⊢
    have HR := Lib.hid hR
    have HL1 := Lib.hid hl1
    have PASS := Lib.hid (pass_any p ln cn 1 l w0 HK0.out hl1 (by omega) (by omega) (by omega))
    clear hn hR hl1
    go_enter Try.func57, Try.ntmps57
    go_wp2_with fail
    rw [HW0.out, EB.out]
    go_wp2_with (first | (go_at_call 62; refine HF.out.mono ?_; rintro e w' ⟨rfl, rfl⟩))
    refine PASS.out.mono ?_
    rintro e w1 ⟨rfl, hk1, hr1⟩
    have hq1 := adv_bound (l.take 1) (ln, cn)
    simp only [List.length_take] at hq1
    have HRUN := Lib.hid (run_class p _ _ (l.drop 1) 75 isQ Try.ent75 q_any w1 hk1 (by omega) (by omega) (by rw [List.length_drop]; omega))
    have R1 := Lib.hid (RB0.out.trans hr1 (fun _ _ e => e))
    have T1 := Lib.hid (HT0.out.rest hr1 (by have := PB.out; omega))
    clear hk1 hr1 hq1 PASS HF HT0 HK0 HB0 HW0 RB0
    go_wp2_with fail
    refine HRUN.out.mono ?_
    rintro e w2 ⟨rfl, hk2, hr2⟩
    obtain ⟨n, hn⟩ : ∃ n, spanP isQ (l.drop 1) = n := ⟨_, rfl⟩
    have hnl : n ≤ l.length - 1 := by have := spanP_le isQ (l.drop 1); rw [hn, List.length_drop] at this; exact this
    rw [hn] at hk2 ⊢
    rw [adv_take, List.drop_drop] at hk2
    have R2 := Lib.hid (R1.out.trans hr2 (fun _ _ e => e))
    have T2 := Lib.hid (T1.out.rest hr2 (by have := PB.out; omega))
    have HF2 := Lib.hid (first_any p _ _ (l.drop (1 + n)) w2 hk2)
    have hrn0 := HR.out n hn
    generalize (l.drop 1).take n = TX at hrn0 ⊢
    have HRN := Lib.hid hrn0
    have K2 := Lib.hid hk2
    have HNL := Lib.hid hnl
    clear hn hnl hk2 hr2 HRUN HR R1 T1 hrn0
    by_cases h34 : firstOf (l.drop (1 + n)) = 34
    · have hl2 : 1 ≤ (l.drop (1 + n)).length := by
        cases hd : l.drop (1 + n) with
        | nil => rw [hd] at h34; simp [firstOf] at h34
        | cons b l => simp
      have hq2 := adv_bound (l.take (1 + n)) (ln, cn)
      simp only [List.length_take] at hq2
      have PASS2 := Lib.hid (pass_any p _ _ 1 (l.drop (1 + n)) w2 K2.out hl2 (by omega) (by omega) (by rw [List.length_drop]; omega))
      have hrn := HRN.out
      rw [if_pos h34] at hrn
      rw [h34] at HF2
      have HRN2 := Lib.hid hrn
      clear hrn h34 hl2 hq2 HRN
      go_wp2_with fail
      refine HF2.out.mono ?_
      rintro e w' ⟨rfl, rfl⟩
      go_wp2_with fail
      refine PASS2.out.mono ?_
      rintro e w3 ⟨rfl, hk3, hr3⟩
      rw [adv_take, List.drop_drop] at hk3
      have R3 := Lib.hid (R2.out.trans hr3 (fun _ _ e => e))
      have ht3 := T2.out.rest hr3 (by have := PB.out; omega)
      have T3 := Lib.hid ht3
      have K3 := Lib.hid hk3
      have c0 := ht3.c0
      have c1 := ht3.c1
      have c2 := ht3.c2
      have c3 := ht3.c3
      have c4 := ht3.c4
      have g0 := ht3.fr 0
      have g1 := ht3.fr 1
      have g2 := ht3.fr 2
      have g3 := ht3.fr 3
      have g4 := ht3.fr 4
      clear hk3 hr3 ht3 PASS2 HF2 K2 R2 T2
      go_wp2_with fail
      obtain ⟨hs1, hs2⟩ := set5 T3.out (.int .i64 3) (.string (strL TX)) (.int .i64 0) (.int .i64 0) (.int .i64 0)
      generalize (((((w3.setCell ⟨b, 0, none⟩ (.int .i64 3)).setCell ⟨b, 1, none⟩ (.string (strL TX))).setCell ⟨b, 2, none⟩ (.int .i64 0)).setCell ⟨b, 3, none⟩ (.int .i64 0)).setCell ⟨b, 4, none⟩ (.int .i64 0)) = w5 at hs1 hs2 ⊢
      have e0 := hs1.c0
      have e1 := hs1.c1
      have e2 := hs1.c2
      have e3 := hs1.c3
      have e4 := hs1.c4
      refine bodyPost_ret (by simp [results, Try.results57, go_sem, *]; try rfl) rfl ?_
      rw [HRN2.out]
      refine ⟨R3.out.trans hs2 (fun i hi e => by have := EB.out; omega), rfl, ?_⟩
      exact (K3.out.rest hs2 (by have := PB.out; omega)).cast (by rw [show 1 + n + 1 = n + 2 by omega]) (by rw [show 1 + n + 1 = n + 2 by omega]) (by rw [show 1 + n + 1 = n + 2 by omega])
    · have hrn := HRN.out
      rw [if_neg h34] at hrn
      have HRN2 := Lib.hid hrn
      have HWR := Lib.hid (wrong_any p _ _ (l.drop (1 + n)) w2 K2.out)
      generalize firstOf (l.drop (1 + n)) = z at HF2 h34
      have hz : (((z : Nat) : Int) == 34) = false := by simpa using (by omega : ¬ ((z : Nat) : Int) = 34)
      have HFZ := HF2
      clear hrn HRN
      go_wp2_with fail
      refine HF2.out.mono ?_
      rintro e w' ⟨rfl, rfl⟩
      go_wp2_with (go_at_call 74; refine HWR.out.mono ?_; rintro e w3 ⟨rfl, hb3⟩)
      rw [HRN2.out]
      exact ⟨rfl, R2.out.trans (Rest.below (S := fun _ => False) hb3) (fun _ _ e => e.elim), rfl⟩
  · have hR : quotedR l = .no := by unfold quotedR; rw [if_neg hn]
    rw [hR]
    generalize firstOf l = y at HF hn
    have hz : (((y : Nat) : Int) == 34) = false := by simpa using (by omega : ¬ ((y : Nat) : Int) = 34)
    clear hR h1 h2 h3
    have c0 := HT0.out.c0
    have c1 := HT0.out.c1
    have c2 := HT0.out.c2
    have c3 := HT0.out.c3
    have c4 := HT0.out.c4
    have g0 := HT0.out.fr 0
    have g1 := HT0.out.fr 1
    have g2 := HT0.out.fr 2
    have g3 := HT0.out.fr 3
    have g4 := HT0.out.fr 4
    go_enter Try.func57, Try.ntmps57
    go_wp2_with fail
    rw [HW0.out, EB.out]
    go_wp2_with (first | (go_at_call 62; refine HF.out.mono ?_; rintro e w' ⟨rfl, rfl⟩))
    obtain ⟨hs1, hs2⟩ := set5 HT0.out (.int .i64 0) (.string ⟨#[]⟩) (.int .i64 0) (.int .i64 0) (.int .i64 0)
    generalize (((((w'.setCell ⟨b, 0, none⟩ (.int .i64 0)).setCell ⟨b, 1, none⟩ (.string ⟨#[]⟩)).setCell ⟨b, 2, none⟩ (.int .i64 0)).setCell ⟨b, 3, none⟩ (.int .i64 0)).setCell ⟨b, 4, none⟩ (.int .i64 0)) = w5 at hs1 hs2 ⊢
    have e0 := hs1.c0
    have e1 := hs1.c1
    have e2 := hs1.c2
    have e3 := hs1.c3
    have e4 := hs1.c4
    refine bodyPost_ret (by simp [results, Try.results57, go_sem, *]; try rfl) rfl ?_
    exact ⟨(Rest.below HB0.out).trans hs2 (fun i hi e => by have := EB.out; omega), rfl, HK0.out.rest hs2 (by have := PB.out; omega)⟩
end Go.Proofs.Ytgdjfifnnhfonaa
