/- symbol: a symbol at the beginning of a text. Conditions: the scanner lies in memory; its place and the text are far below the greatest number. -/
import Derived.Test.YtgdjfifnnhfonaaE
import Derived.Deep.CutRange
namespace Go.Proofs.Ytgdjfifnnhfonaa
open Go.RowKit Go.Shelf

/-- Where a byte stands among the symbols. -/
def symI (n : Nat) : Int := Lib.indexByte [40, 41, 123, 125, 91, 93, 60, 62, 44, 59, 58, 46, 61, 43, 45, 42, 47, 124, 33, 63, 64] n.toUInt8
theorem sym_any (y : Nat) (w : World) : Calls Try.prog 76 #[.string ⟨#[40, 41, 123, 125, 91, 93, 60, 62, 44, 59, 58, 46, 61, 43, 45, 42, 47, 124, 33, 63, 64]⟩, .int .u8 ((y : Nat) : Int)] w fun e w' => e = .returned (.int .i64 (symI y)) ∧ w' = w := by
  have := Try.strings_IndexByte ⟨#[40, 41, 123, 125, 91, 93, 60, 62, 44, 59, 58, 46, 61, 43, 45, 42, 47, 124, 33, 63, 64]⟩ ((y : Nat) : Int) w
  rw [Int.toNat_natCast] at this
  exact this

/-- A text begins with another one. -/
def preB (p l : List UInt8) : Bool := Lib.hasPrefix l p
theorem pre_any (l p : List UInt8) (w : World) : Calls Try.prog 71 #[.string (strL l), .string ⟨p.toArray⟩] w fun e w' => e = .returned (.bool (preB p l)) ∧ w' = w := by
  have := Try.strings_HasPrefix (strL l) ⟨p.toArray⟩ w
  rw [strL_data] at this
  exact this
theorem preB_two {a b : UInt8} {l : List UInt8} (h : preB [a, b] l = true) : 2 ≤ l.length := by
  unfold preB Lib.hasPrefix at h
  match l, h with
  | [], h => simp at h
  | [_], h => simp at h
  | _ :: _ :: _, _ => simp

/-- A symbol at the beginning of a text. -/
def symR (l : List UInt8) : TRes :=
  if preB [46, 46] l || preB [45, 62] l then .ok 4 (l.take 2) 0 2 else if symI (firstOf l) < 0 then .no else .ok 4 (l.take 1) 0 1

set_option maxRecDepth 100000 in
set_option maxHeartbeats 1600000 in
theorem symbol_any (p ln cn : Nat) (l : List UInt8) (w : World) (h : KAt w p l ln cn) (h1 : ln ≤ 549755813888) (h2 : cn ≤ 274877906944) (h3 : l.length ≤ 137438953472) :
    Calls Try.prog 58 #[.pointer (some ⟨p, 0, none⟩)] w (KindR (symR l) w p ln cn l) := by
  have hb0 : Below w.heap.size w (w.alloc (.cells #[.int .i64 0, .string ⟨#[]⟩, .int .i64 0, .int .i64 0, .int .i64 0] 36)) := (Below.refl _ _).alloc (Nat.le_refl _) _
  have ht0 := tbox_new w (.int .i64 0) (.string ⟨#[]⟩) (.int .i64 0) (.int .i64 0) (.int .i64 0)
  obtain ⟨w0, hw0⟩ : ∃ w0, w.alloc (.cells #[.int .i64 0, .string ⟨#[]⟩, .int .i64 0, .int .i64 0, .int .i64 0] 36) = w0 := ⟨_, rfl⟩
  obtain ⟨b, eb⟩ : ∃ b, w.heap.size = b := ⟨_, rfl⟩
  rw [hw0] at hb0 ht0
  rw [eb] at ht0
  have EB := Lib.hid eb
  have hk0 := h.below hb0 h.lt
  have hplt := h.lt
  have HF := Lib.hid (first_any p ln cn l w0 hk0)
  have HW0 := Lib.hid hw0
  have HB0 := Lib.hid hb0
  have HT0 := Lib.hid ht0
  have HK0 := Lib.hid hk0
  have PB := Lib.hid (show p < b by omega)
  have RB0 := Lib.hid (Rest.below (S := fun i => i = p) hb0)
  clear h hw0 hb0 ht0 hk0 hplt eb
  have HS := fun wx => Lib.hid (sym_any (firstOf l) wx)
  have HP1 := fun wx => Lib.hid (pre_any l [46, 46] wx)
  have HP2 := fun wx => Lib.hid (pre_any l [45, 62] wx)
  have c2s := HK0.out.c2
  cases p1 : preB [46, 46] l with
  | true =>
    have hlen : 2 ≤ l.length := preB_two p1
    have hR : symR l = .ok 4 (l.take 2) 0 2 := by unfold symR; rw [p1]; rfl
    rw [p1] at HP1
    clear p1
    have hk1 := HK0.out
    have PASS := Lib.hid (pass_any p ln cn 2 l w0 HK0.out hlen (by omega) (by omega) (by omega))
    have R := Lib.hid hR
    clear hR hlen hk1
    go_enter Try.func58, Try.ntmps58
    go_upto_region 1 with fail
    rw [HW0.out, EB.out]
    go_wp2_with (first | (go_at_call 62; refine HF.out.mono ?_; rintro e w' ⟨rfl, rfl⟩) | (go_at_call 76; refine ((HS _).out).mono ?_; rintro e w' ⟨rfl, rfl⟩) | (go_at_call 71; go_must (first | refine ((HP1 _).out).mono ?_ | refine ((HP2 _).out).mono ?_); rintro e w' ⟨rfl, rfl⟩))
    refine PASS.out.mono ?_
    rintro e w3 ⟨rfl, hk3, hr3⟩
    have R3 := Lib.hid (RB0.out.trans hr3 (fun _ _ e => e))
    have ht3 := HT0.out.rest hr3 (by have := PB.out; omega)
    have T3 := Lib.hid ht3
    have K3 := Lib.hid hk3
    have c0 := ht3.c0
    have c1 := ht3.c1
    have c2 := ht3.c2
    have c3 := ht3.c3
    have c4 := ht3.c4
    have g0 := ht3.fr 0
    have g1 := ht3.fr 1
    have g2 := ht3.fr 2
    have g3 := ht3.fr 3
    have g4 := ht3.fr 4
    generalize l.take 2 = TX at R ⊢
    clear hk3 hr3 ht3 PASS HF HK0 HT0 RB0 c2s
    go_wp2_with fail
    obtain ⟨hs1, hs2⟩ := set5 T3.out (.int .i64 4) (.string (strL TX)) (.int .i64 0) (.int .i64 0) (.int .i64 0)
    generalize (((((w3.setCell ⟨b, 0, none⟩ (.int .i64 4)).setCell ⟨b, 1, none⟩ (.string (strL TX))).setCell ⟨b, 2, none⟩ (.int .i64 0)).setCell ⟨b, 3, none⟩ (.int .i64 0)).setCell ⟨b, 4, none⟩ (.int .i64 0)) = w5 at hs1 hs2 ⊢
    have e0 := hs1.c0
    have e1 := hs1.c1
    have e2 := hs1.c2
    have e3 := hs1.c3
    have e4 := hs1.c4
    refine bodyPost_ret (by simp [results, Try.results58, go_sem, *]; try rfl) rfl ?_
    rw [R.out]
    exact ⟨R3.out.trans hs2 (fun i hi e => by have := EB.out; omega), rfl, K3.out.rest hs2 (by have := PB.out; omega)⟩
  | false =>
    cases p2 : preB [45, 62] l with
    | true =>
      have hlen : 2 ≤ l.length := preB_two p2
      have hR : symR l = .ok 4 (l.take 2) 0 2 := by unfold symR; rw [p1, p2]; rfl
      rw [p1] at HP1
      rw [p2] at HP2
      clear p1 p2
      have hk1 := HK0.out
      have PASS := Lib.hid (pass_any p ln cn 2 l w0 HK0.out hlen (by omega) (by omega) (by omega))
      have R := Lib.hid hR
      clear hR hlen hk1
      go_enter Try.func58, Try.ntmps58
      go_upto_region 1 with fail
      rw [HW0.out, EB.out]
      go_wp2_with (first | (go_at_call 62; refine HF.out.mono ?_; rintro e w' ⟨rfl, rfl⟩) | (go_at_call 76; refine ((HS _).out).mono ?_; rintro e w' ⟨rfl, rfl⟩) | (go_at_call 71; go_must (first | refine ((HP1 _).out).mono ?_ | refine ((HP2 _).out).mono ?_); rintro e w' ⟨rfl, rfl⟩))
      refine PASS.out.mono ?_
      rintro e w3 ⟨rfl, hk3, hr3⟩
      have R3 := Lib.hid (RB0.out.trans hr3 (fun _ _ e => e))
      have ht3 := HT0.out.rest hr3 (by have := PB.out; omega)
      have T3 := Lib.hid ht3
      have K3 := Lib.hid hk3
      have c0 := ht3.c0
      have c1 := ht3.c1
      have c2 := ht3.c2
      have c3 := ht3.c3
      have c4 := ht3.c4
      have g0 := ht3.fr 0
      have g1 := ht3.fr 1
      have g2 := ht3.fr 2
      have g3 := ht3.fr 3
      have g4 := ht3.fr 4
      generalize l.take 2 = TX at R ⊢
      clear hk3 hr3 ht3 PASS HF HK0 HT0 RB0 c2s
      go_wp2_with fail
      obtain ⟨hs1, hs2⟩ := set5 T3.out (.int .i64 4) (.string (strL TX)) (.int .i64 0) (.int .i64 0) (.int .i64 0)
      generalize (((((w3.setCell ⟨b, 0, none⟩ (.int .i64 4)).setCell ⟨b, 1, none⟩ (.string (strL TX))).setCell ⟨b, 2, none⟩ (.int .i64 0)).setCell ⟨b, 3, none⟩ (.int .i64 0)).setCell ⟨b, 4, none⟩ (.int .i64 0)) = w5 at hs1 hs2 ⊢
      have e0 := hs1.c0
      have e1 := hs1.c1
      have e2 := hs1.c2
      have e3 := hs1.c3
      have e4 := hs1.c4
      refine bodyPost_ret (by simp [results, Try.results58, go_sem, *]; try rfl) rfl ?_
      rw [R.out]
      exact ⟨R3.out.trans hs2 (fun i hi e => by have := EB.out; omega), rfl, K3.out.rest hs2 (by have := PB.out; omega)⟩
    | false =>
      by_cases hs : symI (firstOf l) < 0
      · have hR : symR l = .no := by unfold symR; rw [p1, p2, if_pos hs]; rfl
        rw [hR]
        rw [p1] at HP1
        rw [p2] at HP2
        generalize firstOf l = y at HF HS hs
        have hd : decide (symI y < 0) = true := decide_eq_true hs
        clear hR h1 h2 h3 p1 p2
        have c0 := HT0.out.c0
        have c1 := HT0.out.c1
        have c2 := HT0.out.c2
        have c3 := HT0.out.c3
        have c4 := HT0.out.c4
        have g0 := HT0.out.fr 0
        have g1 := HT0.out.fr 1
        have g2 := HT0.out.fr 2
        have g3 := HT0.out.fr 3
        have g4 := HT0.out.fr 4
        go_enter Try.func58, Try.ntmps58
        go_upto_region 1 with fail
        rw [HW0.out, EB.out]
        go_wp2_with (first | (go_at_call 62; refine HF.out.mono ?_; rintro e w' ⟨rfl, rfl⟩) | (go_at_call 76; refine ((HS _).out).mono ?_; rintro e w' ⟨rfl, rfl⟩) | (go_at_call 71; go_must (first | refine ((HP1 _).out).mono ?_ | refine ((HP2 _).out).mono ?_); rintro e w' ⟨rfl, rfl⟩))
        obtain ⟨hs1, hs2⟩ := set5 HT0.out (.int .i64 0) (.string ⟨#[]⟩) (.int .i64 0) (.int .i64 0) (.int .i64 0)
        generalize (((((w'.setCell ⟨b, 0, none⟩ (.int .i64 0)).setCell ⟨b, 1, none⟩ (.string ⟨#[]⟩)).setCell ⟨b, 2, none⟩ (.int .i64 0)).setCell ⟨b, 3, none⟩ (.int .i64 0)).setCell ⟨b, 4, none⟩ (.int .i64 0)) = w5 at hs1 hs2 ⊢
        have e0 := hs1.c0
        have e1 := hs1.c1
        have e2 := hs1.c2
        have e3 := hs1.c3
        have e4 := hs1.c4
        refine bodyPost_ret (by simp [results, Try.results58, go_sem, *]; try rfl) rfl ?_
        exact ⟨(Rest.below HB0.out).trans hs2 (fun i hi e => by have := EB.out; omega), rfl, HK0.out.rest hs2 (by have := PB.out; omega)⟩
      · have hlen : 1 ≤ l.length := by
          cases l with
          | nil => exact absurd (by decide) hs
          | cons b l => simp
        have hR : symR l = .ok 4 (l.take 1) 0 1 := by unfold symR; rw [p1, p2, if_neg hs]; rfl
        rw [p1] at HP1
        rw [p2] at HP2
        generalize firstOf l = y at HF HS hs
        have hd : decide (symI y < 0) = false := decide_eq_false hs
        clear p1 p2
        have hk1 := HK0.out
        have PASS := Lib.hid (pass_any p ln cn 1 l w0 HK0.out hlen (by omega) (by omega) (by omega))
        have R := Lib.hid hR
        clear hR hlen hk1
        go_enter Try.func58, Try.ntmps58
        go_upto_region 1 with fail
        rw [HW0.out, EB.out]
        go_wp2_with (first | (go_at_call 62; refine HF.out.mono ?_; rintro e w' ⟨rfl, rfl⟩) | (go_at_call 76; refine ((HS _).out).mono ?_; rintro e w' ⟨rfl, rfl⟩) | (go_at_call 71; go_must (first | refine ((HP1 _).out).mono ?_ | refine ((HP2 _).out).mono ?_); rintro e w' ⟨rfl, rfl⟩))
        refine PASS.out.mono ?_
        rintro e w3 ⟨rfl, hk3, hr3⟩
        have R3 := Lib.hid (RB0.out.trans hr3 (fun _ _ e => e))
        have ht3 := HT0.out.rest hr3 (by have := PB.out; omega)
        have T3 := Lib.hid ht3
        have K3 := Lib.hid hk3
        have c0 := ht3.c0
        have c1 := ht3.c1
        have c2 := ht3.c2
        have c3 := ht3.c3
        have c4 := ht3.c4
        have g0 := ht3.fr 0
        have g1 := ht3.fr 1
        have g2 := ht3.fr 2
        have g3 := ht3.fr 3
        have g4 := ht3.fr 4
        generalize l.take 1 = TX at R ⊢
        clear hk3 hr3 ht3 PASS HF HK0 HT0 RB0 c2s
        go_wp2_with fail
        obtain ⟨hs1, hs2⟩ := set5 T3.out (.int .i64 4) (.string (strL TX)) (.int .i64 0) (.int .i64 0) (.int .i64 0)
        generalize (((((w3.setCell ⟨b, 0, none⟩ (.int .i64 4)).setCell ⟨b, 1, none⟩ (.string (strL TX))).setCell ⟨b, 2, none⟩ (.int .i64 0)).setCell ⟨b, 3, none⟩ (.int .i64 0)).setCell ⟨b, 4, none⟩ (.int .i64 0)) = w5 at hs1 hs2 ⊢
        have e0 := hs1.c0
        have e1 := hs1.c1
        have e2 := hs1.c2
        have e3 := hs1.c3
        have e4 := hs1.c4
        refine bodyPost_ret (by simp [results, Try.results58, go_sem, *]; try rfl) rfl ?_
        rw [R.out]
        exact ⟨R3.out.trans hs2 (fun i hi e => by have := EB.out; omega), rfl, K3.out.rest hs2 (by have := PB.out; omega)⟩
end Go.Proofs.Ytgdjfifnnhfonaa
