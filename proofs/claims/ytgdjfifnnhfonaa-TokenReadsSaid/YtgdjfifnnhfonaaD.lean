/- word: a word at the beginning of a text. Conditions: the scanner lies in memory; its place and the text are far below the greatest number. -/
import Derived.Test.YtgdjfifnnhfonaaC
namespace Go.Proofs.Ytgdjfifnnhfonaa
open Go.RowKit Go.Shelf

theorem min32 (l : List UInt8) (n : Nat) (h32 : n ≤ 32) (hl : n ≤ l.length) (ha : ∀ k (h : k < l.length), k < n → isWrd (l[k].toNat) = true) (hx : n = 32 ∨ ∀ h : n < l.length, isWrd (l[n].toNat) = false) : min 32 (spanP isWrd l) = n := by
  have key : ∀ k (h : k < l.length), k < spanP isWrd l → isWrd (l[k].toNat) = true := fun k h hk => spanP_all isWrd l k h hk
  rcases hx with rfl | hx
  · by_cases hs : spanP isWrd l < 32
    · exfalso
      have hlt : spanP isWrd l < l.length := by omega
      have h1 := ha _ hlt hs
      have h2 := spanP_stop isWrd l hlt
      rw [h1] at h2
      cases h2
    · omega
  · have := spanP_eq isWrd l n ha hl hx
    omega

theorem set5 {W : World} {q : Nat} {x0 x1 x2 x3 x4 : Value} (h : TBox W q x0 x1 x2 x3 x4) (u0 u1 u2 u3 u4 : Value) :
    TBox (((((W.setCell ⟨q, 0, none⟩ u0).setCell ⟨q, 1, none⟩ u1).setCell ⟨q, 2, none⟩ u2).setCell ⟨q, 3, none⟩ u3).setCell ⟨q, 4, none⟩ u4) q u0 u1 u2 u3 u4 ∧
    Rest (fun k => k = q) W (((((W.setCell ⟨q, 0, none⟩ u0).setCell ⟨q, 1, none⟩ u1).setCell ⟨q, 2, none⟩ u2).setCell ⟨q, 3, none⟩ u3).setCell ⟨q, 4, none⟩ u4) :=
  ⟨((((h.set0 u0).set1 u1).set2 u2).set3 u3).set4 u4,
   ((((((Rest.refl (fun k => k = q) W).setCell (S := fun k => k = q) (p := ⟨q, 0, none⟩) (fun _ => rfl) _).setCell (S := fun k => k = q) (p := ⟨q, 1, none⟩) (fun _ => rfl) _).setCell (S := fun k => k = q) (p := ⟨q, 2, none⟩) (fun _ => rfl) _).setCell (S := fun k => k = q) (p := ⟨q, 3, none⟩) (fun _ => rfl) _).setCell (S := fun k => k = q) (p := ⟨q, 4, none⟩) (fun _ => rfl) _)⟩

set_option maxRecDepth 100000 in
set_option maxHeartbeats 1600000 in
theorem word_any (p ln cn : Nat) (l : List UInt8) (w : World) (h : KAt w p l ln cn) (h1 : ln ≤ 549755813888) (h2 : cn ≤ 549755813888) (h3 : l.length ≤ 549755813888) :
    Calls Try.prog 55 #[.pointer (some ⟨p, 0, none⟩)] w (KindR (wordR l) w p ln cn l) := by
  have hb0 : Below w.heap.size w (w.alloc (.cells #[.int .i64 0, .string ⟨#[]⟩, .int .i64 0, .int .i64 0, .int .i64 0] 36)) := (Below.refl _ _).alloc (Nat.le_refl _) _
  have ht0 := tbox_new w (.int .i64 0) (.string ⟨#[]⟩) (.int .i64 0) (.int .i64 0) (.int .i64 0)
  obtain ⟨w0, hw0⟩ : ∃ w0, w.alloc (.cells #[.int .i64 0, .string ⟨#[]⟩, .int .i64 0, .int .i64 0, .int .i64 0] 36) = w0 := ⟨_, rfl⟩
  obtain ⟨b, eb⟩ : ∃ b, w.heap.size = b := ⟨_, rfl⟩
  rw [hw0] at hb0 ht0
  rw [eb] at ht0
  have EB := Lib.hid eb
  have hk0 := h.below hb0 h.lt
  have hplt := h.lt
  have HF := Lib.hid (first_any p ln cn l w0 hk0)
  have HL := fun wx => Lib.hid (let_any (firstOf l) wx)
  have HW0 := Lib.hid hw0
  have HB0 := Lib.hid hb0
  have HT0 := Lib.hid ht0
  have HK0 := Lib.hid hk0
  have HP := Lib.hid hplt
  clear h hw0 hb0 ht0 hk0 hplt eb
  cases hn : isLet (firstOf l) with
  | false =>
    have hR : wordR l = .no := by unfold wordR; rw [hn]; rfl
    rw [hR]
    rw [hn] at HL
    generalize firstOf l = y at HF HL hn
    clear hn hR h1 h2 h3
    have c0 := HT0.out.c0
    have c1 := HT0.out.c1
    have c2 := HT0.out.c2
    have c3 := HT0.out.c3
    have c4 := HT0.out.c4
    have g0 := HT0.out.fr 0
    have g1 := HT0.out.fr 1
    have g2 := HT0.out.fr 2
    have g3 := HT0.out.fr 3
    have g4 := HT0.out.fr 4
    go_enter Try.func55, Try.ntmps55
    go_wp2_with fail
    rw [HW0.out, EB.out]
    go_wp2_with (first | (go_at_call 62; refine HF.out.mono ?_; rintro e w' ⟨rfl, rfl⟩) | (go_at_call 66; refine ((HL _).out).mono ?_; rintro e w' ⟨rfl, rfl⟩))
    obtain ⟨hs1, hs2⟩ := set5 HT0.out (.int .i64 0) (.string ⟨#[]⟩) (.int .i64 0) (.int .i64 0) (.int .i64 0)
    generalize (((((w'.setCell ⟨b, 0, none⟩ (.int .i64 0)).setCell ⟨b, 1, none⟩ (.string ⟨#[]⟩)).setCell ⟨b, 2, none⟩ (.int .i64 0)).setCell ⟨b, 3, none⟩ (.int .i64 0)).setCell ⟨b, 4, none⟩ (.int .i64 0)) = w5 at hs1 hs2 ⊢
    have e0 := hs1.c0
    have e1 := hs1.c1
    have e2 := hs1.c2
    have e3 := hs1.c3
    have e4 := hs1.c4
    refine bodyPost_ret (by simp [results, Try.results55, go_sem, *]; try rfl) rfl ?_
    have hpb : ¬ p = b := by have := HP.out; have := EB.out; omega
    exact ⟨(Rest.below HB0.out).trans hs2 (fun i hi e => by have := EB.out; omega), rfl, HK0.out.rest hs2 hpb⟩
  | true =>
    have hR : ∀ n, min 32 (spanP isWrd l) = n → wordR l = (if isWrd (firstOf (l.drop n)) then .bad n else .ok 1 (l.take n) 0 n) := by rintro n rfl; unfold wordR; rw [hn]; rfl
    generalize wordR l = R at hR ⊢
    have HR := Lib.hid hR
    rw [hn] at HL
    generalize firstOf l = y at HF HL hn
    clear hn hR
    obtain ⟨rb, erb⟩ : ∃ rb, w0.heap.size = rb := ⟨_, rfl⟩
    have hb1 : Below w0.heap.size w0 (w0.alloc (.cells #[.int .i64 32] 3)) := (Below.refl _ _).alloc (Nat.le_refl _) _
    have hx1 := Boxed.new w0 3 (.int .i64 32)
    obtain ⟨w1, hw1⟩ : ∃ w1, w0.alloc (.cells #[.int .i64 32] 3) = w1 := ⟨_, rfl⟩
    rw [hw1] at hb1 hx1
    have hk1 := HK0.out.below hb1 HK0.out.lt
    have ht1 := HT0.out.below hb1 HT0.out.lt
    have hpr : p < rb := by have := HK0.out.lt; omega
    have hbr : b < rb := by have := HT0.out.lt; omega
    have hpb : p < b := by have := HP.out; have := EB.out; omega
    rw [erb] at hx1
    have hrun := run_any p ln cn l 67 #[.pointer (some ⟨rb, 0, none⟩)] Try.ent67
      (fun k W => KAt W p l ln cn ∧ Boxed W rb 3 (.int .i64 (32 - (k : Nat))) ∧ k ≤ 32 ∧ (∀ j (h : j < l.length), j < k → isWrd (l[j].toNat) = true) ∧ Rest (fun i => i = rb) w1 W)
      (fun k W => KAt W p l ln cn ∧ (k = 32 ∨ ∀ h : k < l.length, isWrd (l[k].toNat) = false) ∧ k ≤ 32 ∧ (∀ j (h : j < l.length), j < k → isWrd (l[j].toNat) = true) ∧ Rest (fun i => i = rb) w1 W) w1
      (fun k W h => h.1) (fun k W h => h.1) ?hI ⟨hk1, by simpa using hx1, Nat.zero_le _, fun j _ h => absurd h (Nat.not_lt_zero _), Rest.refl _ _⟩ (by omega) (by omega) (by omega)
    case hI =>
      rintro k hk y rfl W ⟨g1, g2, g3, g4, g5⟩
      refine (word1_any rb (32 - (k : Nat)) (l[k].toNat) W g2 (by omega) (by omega)).mono ?_
      rintro e W' ⟨rfl, rfl⟩
      have hr' := (Rest.refl (fun i => i = rb) W).setCell (S := fun i => i = rb) (p := ⟨rb, 0, none⟩) (fun _ => rfl) (.int .i64 ((32 - (k : Nat) : Int) - 1))
      have hk' := g1.rest hr' (by omega)
      have hr2 := g5.trans hr' (fun _ _ e => e)
      by_cases h32 : k < 32
      · cases hw : isWrd (l[k].toNat) with
        | true =>
          refine .inl ⟨ret_bool (by simp; omega), hk', ?_, by omega, fun j hj hjk => ?_, hr2⟩
          · rw [show ((32 : Int) - ((k + 1 : Nat) : Int)) = (32 - (k : Nat) : Int) - 1 by omega]
            exact g2.set _
          · by_cases e : j = k
            · subst e; exact hw
            · exact g4 j hj (by omega)
        | false => exact .inr ⟨ret_bool (by simp), hk', .inr (fun _ => hw), g3, g4, hr2⟩
      · exact .inr ⟨ret_bool (by simp; intro; omega), hk', .inl (by omega), g3, g4, hr2⟩
    have RUN := Lib.hid hrun
    have W1 := Lib.hid hw1
    have T1 := Lib.hid ht1
    have ERB := Lib.hid erb
    have PR := Lib.hid (And.intro hpr (And.intro hbr hpb))
    clear hrun hw1 ht1 hb1 hx1 hk1 erb hpr hbr hpb
    go_enter Try.func55, Try.ntmps55
    go_wp2_with fail
    rw [HW0.out, EB.out]
    go_wp2_with (first | (go_at_call 62; refine HF.out.mono ?_; rintro e w' ⟨rfl, rfl⟩) | (go_at_call 66; refine ((HL _).out).mono ?_; rintro e w' ⟨rfl, rfl⟩))
    rw [W1.out, ERB.out]
    refine RUN.out.mono ?_
    rintro e w3 ⟨n, W, hnl, hc, rfl, hk3, hr3⟩
    have hcc : n ≤ 32 ∧ min 32 (spanP isWrd l) = n ∧ Rest (fun i => i = rb) w1 W := by
      rcases hc with ⟨e, _, _, g3, g4, g5⟩ | ⟨_, _, gx, g3, g4, g5⟩
      · exact ⟨g3, min32 l n g3 hnl g4 (.inr (fun h => absurd h (by omega))), g5⟩
      · exact ⟨g3, min32 l n g3 hnl g4 gx, g5⟩
    obtain ⟨hn32, hmin, hrW⟩ := hcc
    obtain ⟨hpr, hbr, hpb⟩ := PR.out
    have hw01 : Below w'.heap.size w' w1 := by rw [← W1.out]; exact (Below.refl _ _).alloc (Nat.le_refl _) _
    have hr03 : Rest (fun i => i = p ∨ i = rb) w' w3 := ((Rest.below (S := fun i => i = p ∨ i = rb) hw01).trans hrW (fun _ _ e => .inr e)).trans hr3 (fun _ _ e => .inl e)
    have ht3 := HT0.out.rest hr03 (by omega)
    have hr3' : Rest (fun i => i = p) w w3 := (Rest.below (S := fun i => i = p) HB0.out).trans hr03 (fun i hi e => by rcases e with e | e; exact e; have := EB.out; omega)
    have HFI := Lib.hid (finish_any p _ _ (l.drop n) w3 hk3)
    have hRn := HR.out n hmin
    have c0 := ht3.c0
    have c1 := ht3.c1
    have c2 := ht3.c2
    have c3 := ht3.c3
    have c4 := ht3.c4
    have g0 := ht3.fr 0
    have g1 := ht3.fr 1
    have g2 := ht3.fr 2
    have g3 := ht3.fr 3
    have g4 := ht3.fr 4
    have T3 := Lib.hid ht3
    have K3 := Lib.hid hk3
    have R3 := Lib.hid hr3'
    have RN := Lib.hid hRn
    have PB := Lib.hid hpb
    clear hc hmin hrW hw01 hr03 ht3 hr3 hr3' hk3 hRn hpr hbr hpb RUN HR T1 W1 HW0 ERB hnl hn32 PR
    go_wp2_with fail
    refine HFI.out.mono ?_
    rintro e w4 (⟨hf, rfl, rfl⟩ | ⟨ht, hfail, hb4⟩)
    · have HFF := Lib.hid hf
      clear hf
      go_wp2_with fail
      obtain ⟨hs1, hs2⟩ := set5 T3.out (.int .i64 1) (.string (strL (l.take n))) (.int .i64 0) (.int .i64 0) (.int .i64 0)
      generalize (((((w4.setCell ⟨b, 0, none⟩ (.int .i64 1)).setCell ⟨b, 1, none⟩ (.string (strL (l.take n)))).setCell ⟨b, 2, none⟩ (.int .i64 0)).setCell ⟨b, 3, none⟩ (.int .i64 0)).setCell ⟨b, 4, none⟩ (.int .i64 0)) = w5 at hs1 hs2 ⊢
      have e0 := hs1.c0
      have e1 := hs1.c1
      have e2 := hs1.c2
      have e3 := hs1.c3
      have e4 := hs1.c4
      refine bodyPost_ret (by simp [results, Try.results55, go_sem, *]; try rfl) rfl ?_
      have hrn := RN.out
      rw [HFF.out] at hrn
      rw [hrn]
      refine ⟨R3.out.trans hs2 (fun i hi e => by have := EB.out; omega), rfl, K3.out.rest hs2 (by have := PB.out; omega)⟩
    · have hrn := RN.out
      rw [ht] at hrn
      rw [hrn]
      unfold Fails at hfail
      subst hfail
      refine ⟨rfl, R3.out.trans (Rest.below (S := fun _ => False) hb4) (fun _ _ e => e.elim), rfl⟩
end Go.Proofs.Ytgdjfifnnhfonaa
