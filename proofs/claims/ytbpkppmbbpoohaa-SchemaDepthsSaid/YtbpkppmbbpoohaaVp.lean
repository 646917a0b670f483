/- The document's Name. No conditions. The document's Valid of a size. Conditions: the terms lie in memory. -/
import Derived.Test.YtbpkppmbbpoohaaM
import Derived.Test.YtbpkppmbbpoohaaSd
import Derived.BigQuiet
namespace Go.Proofs.Ytbpkppmbbpoohaa
open Go.RowKit

set_option maxRecDepth 100000 in
set_option maxHeartbeats 800000 in
theorem refLetter (n : Nat) (w : World) : Calls Try.prog 60 #[.int .u8 n] w fun e w' => e = .returned (.bool (isLet n)) ∧ w' = w := by
  go_enter Try.func60, Try.ntmps60
  go_wp2
  all_goals (go_ret; refine ⟨ret_bool ?_, rfl⟩; rw [Bool.eq_iff_iff]; simp [isLet, *]; try omega)
set_option maxRecDepth 100000 in
set_option maxHeartbeats 800000 in
theorem refDigit (n : Nat) (w : World) : Calls Try.prog 61 #[.int .u8 n] w fun e w' => e = .returned (.bool (isDig n)) ∧ w' = w := by
  go_enter Try.func61, Try.ntmps61
  go_wp2
  all_goals (go_ret; refine ⟨ret_bool ?_, rfl⟩; rw [Bool.eq_iff_iff]; simp [isDig, *]; try omega)

set_option maxRecDepth 100000 in
set_option maxHeartbeats 12800000 in
theorem refName (l : List UInt8) (w : World) : Calls Try.prog 36 #[.string (strL l)] w fun e w' => e = .returned (.bool (nameB l)) ∧ w' = w := by
  have hs : (strL l).size = l.length := strL_size l
  obtain ⟨R, hR⟩ : ∃ R, nameB l = R := ⟨_, rfl⟩
  rw [hR]
  have HR := Lib.hid hR
  clear hR
  by_cases hc1 : l.length < 1
  · have hRf : R = false := by
      rw [← HR.out]
      have : inB (l.length : Int) 1 32 = false := by
        have h0 : l.length = 0 := by omega
        rw [h0]; rfl
      simp [nameB, this]
    subst hRf
    have hc0 : (strL l).size = 0 := by omega
    clear hs
    go_enter Try.func36, Try.ntmps36
    go_wp2
    go_ret
    exact ⟨rfl, rfl⟩
  by_cases hc2 : l.length > 32
  · have hRf : R = false := by
      rw [← HR.out]
      have : inB (l.length : Int) 1 32 = false := by
        cases e : inB (l.length : Int) 1 32 with
        | false => rfl
        | true => simp [inB] at e; omega
      simp [nameB, this]
    subst hRf
    have hc0 : 32 < (strL l).size := by omega
    go_enter Try.func36, Try.ntmps36
    go_wp2
    go_ret
    exact ⟨rfl, rfl⟩
  have hw : inB (l.length : Int) 1 32 = true := by simp [inB]; omega
  have hb : 1 ≤ l.length ∧ l.length ≤ 32 := by omega
  have h0 : 0 < (strL l).size := by omega
  have hli : ((l.length : Nat) : Int) ≤ 32 := by omega
  have hli2 : ¬ ((l.length : Nat) : Int) < 1 := by omega
  obtain ⟨b0, hb0⟩ : ∃ b0 : Nat, (strL l)[0].toNat = b0 := ⟨_, rfl⟩
  have hb0' : (l.headD 0).toNat = b0 := by
    rw [← hb0, strL_get]
    cases l with
    | nil => simp at hb
    | cons b l => rfl
  have HL := fun w => Lib.hid (refLetter b0 w)
  have HB := Lib.hid hb
  have HW := Lib.hid hw
  have HB0 := Lib.hid hb0'
  clear hb hw hb0'
  cases h1 : isLet b0 with
  | false =>
    rw [h1] at HL
    have H1 := Lib.hid h1
    have hRf : R = false := by rw [← HR.out]; unfold nameB; rw [HB0.out, H1.out, Bool.and_false, Bool.false_and]
    subst hRf
    clear h1
    go_enter Try.func36, Try.ntmps36
    go_wp2_with (go_at_call 60; refine ((HL _).out).mono ?_; rintro e w' ⟨rfl, rfl⟩)
    go_ret
    exact ⟨rfl, rfl⟩
  | true =>
    rw [h1] at HL
    have H1 := Lib.hid h1
    have hall : R = l.all (fun b => isWrd b.toNat) := by rw [← HR.out]; unfold nameB; rw [HB0.out, H1.out, HW.out]; rfl
    have HALL := Lib.hid hall
    clear h1 hall HR
    go_enter Try.func36, Try.ntmps36
    go_wp2_with (go_at_call 60; refine ((HL _).out).mono ?_; rintro e w' ⟨rfl, rfl⟩)
    go_loop [3] (fun x3 => ∃ i : Nat, i ≤ l.length ∧ x3 = .int .i64 ((i : Nat) : Int) ∧ (l.take i).all (fun b => isWrd b.toNat) = true) (fun x3 => l.length - (intOf x3).toNat)
    case atStart => exact ⟨0, Nat.zero_le _, rfl, by simp⟩
    case round =>
      obtain ⟨i, hi, rfl, hall⟩ := hrel
      have HA := Lib.hid hall
      clear hall
      by_cases hlt : i < l.length
      · have h2 : i < (strL l).size := by omega
        have hgb : (strL l)[i].toNat = (l[i]'hlt).toNat := by rw [strL_get]
        obtain ⟨q, hq⟩ : ∃ q : Nat, (strL l)[i].toNat = q := ⟨_, rfl⟩
        have HO := fun w => Lib.hid (refLetter q w)
        have HP := fun w => Lib.hid (refDigit q w)
        cases h3 : isLet q with
        | true =>
          rw [h3] at HO
          have hn := all_take_succ hlt HA.out (by rw [← hgb, hq]; simp [isWrd, h3])
          have HN := Lib.hid hn
          clear h3 hgb hn HP
          go_wp2_with (go_at_call 60; refine ((HO _).out).mono ?_; rintro e w' ⟨rfl, rfl⟩)
          go_round
          case rel => exact ⟨i + 1, by omega, by go_num, HN.out⟩
          case measure => simp [intOf]; omega
        | false =>
          rw [h3] at HO
          cases h4 : isDig q with
          | true =>
            rw [h4] at HP
            have hn := all_take_succ hlt HA.out (by rw [← hgb, hq]; simp [isWrd, h4])
            have HN := Lib.hid hn
            clear h3 h4 hgb hn
            go_wp2_with (first | (go_at_call 60; refine ((HO _).out).mono ?_; rintro e w' ⟨rfl, rfl⟩) | (go_at_call 61; refine ((HP _).out).mono ?_; rintro e w' ⟨rfl, rfl⟩))
            go_round
            case rel => exact ⟨i + 1, by omega, by go_num, HN.out⟩
            case measure => simp [intOf]; omega
          | false =>
            rw [h4] at HP
            by_cases h5 : q = 95
            · have hn := all_take_succ hlt HA.out (by rw [← hgb, hq]; simp [isWrd, h5])
              have HN := Lib.hid hn
              have hc1 : (((q : Nat) : Int) != 95) = false := by rw [h5]; rfl
              clear h3 h4 hgb hn h5
              go_wp2_with (first | (go_at_call 60; refine ((HO _).out).mono ?_; rintro e w' ⟨rfl, rfl⟩) | (go_at_call 61; refine ((HP _).out).mono ?_; rintro e w' ⟨rfl, rfl⟩))
              go_round
              case rel => exact ⟨i + 1, by omega, by go_num, HN.out⟩
              case measure => simp [intOf]; omega
            · have hRf : R = false := by rw [HALL.out]; exact all_get hlt (by rw [← hgb, hq]; simp [isWrd, h3, h4, h5])
              have HRF := Lib.hid hRf
              have hc1 : (((q : Nat) : Int) != 95) = true := by
                have : ¬ ((q : Nat) : Int) = 95 := by omega
                simpa using this
              clear h3 h4 hgb hRf h5
              go_wp2_with (first | (go_at_call 60; refine ((HO _).out).mono ?_; rintro e w' ⟨rfl, rfl⟩) | (go_at_call 61; refine ((HP _).out).mono ?_; rintro e w' ⟨rfl, rfl⟩))
              go_ret
              exact ⟨ret_bool HRF.out.symm, rfl⟩
      · obtain rfl : i = l.length := by omega
        have hRt : R = true := by rw [HALL.out]; have := HA.out; rwa [List.take_length] at this
        have HRT := Lib.hid hRt
        clear hRt
        go_wp2
        go_ret
        exact ⟨ret_bool HRT.out.symm, rfl⟩
end Go.Proofs.Ytbpkppmbbpoohaa

namespace Go.Proofs.Ytbpkppmbbpoohaa
open Go.RowKit Go.Shelf

set_option maxRecDepth 100000 in
set_option maxHeartbeats 800000 in
theorem refSmall (n : Int) (w : World) : Calls Try.prog 125 #[.int .i64 n] w fun e w' => e = .returned (.bool (inB n (-1048576) 1048576)) ∧ w' = w := by
  go_enter Try.func125, Try.ntmps125
  go_wp2
  all_goals (go_ret; refine ⟨ret_bool ?_, rfl⟩; rw [Bool.eq_iff_iff]; simp [inB, *]; try omega)

theorem ok_all {D : List TermD} {i : Nat} {d : TermD} (hi : D[i]? = some d) : okFrom (D.take i) (D.drop i) = (okT (D.take i) d && okFrom (D.take (i + 1)) (D.drop (i + 1))) := by
  rw [(drop_of hi).1, (drop_of hi).2]
  rfl
theorem okT_eq (pre : List TermD) (d : TermD) (a b e f : Bool) (h1 : nameB d.f = a) (h2 : (d.k == 0) = b) (h3 : inB d.k (-1048576) 1048576 = e) (h4 : decide (idxOf (fun x : TermD => x.f == d.f) pre < 0) = f) : okT pre d = (a && (!b && (e && f))) := by
  unfold okT
  rw [h1, h3, h4, ← h2]
  rfl

set_option maxRecDepth 100000 in
set_option maxHeartbeats 12800000 in
theorem refSizeValid (base : Int) (A : Option Addr) (c : Nat) (D : List TermD) (S : Nat → Prop) (w : World) (h : SlAt TermD.cells 2 S w A c D) :
    Calls Try.prog 116 #[.agg #[.int .i64 base, .slice A D.length c]] w fun e w' => e = .returned (.bool (validS base D)) ∧ Below w.heap.size w w' := by
  have hl : D.length ≤ 9223372036854775807 := Nat.le_trans h.1 h.2.1
  have b1 := below_alloc w (.cells #[.int .i64 base, .slice A D.length c] 25)
  have x1 := szbox w (.int .i64 base) (.slice A D.length c)
  have h1 := h.below b1
  obtain ⟨b, eb⟩ : ∃ b, w.heap.size = b := ⟨_, rfl⟩
  obtain ⟨w1, hw1⟩ : ∃ w1, w.alloc (.cells #[.int .i64 base, .slice A D.length c] 25) = w1 := ⟨_, rfl⟩
  rw [hw1] at b1 x1 h1
  rw [eb] at x1
  have KB : Hid (∀ wx, Below w1.heap.size w1 wx → wx.cell? ⟨b, 0, none⟩ = some (.int .i64 base) ∧ wx.cell? ⟨b, 1, none⟩ = some (.slice A D.length c)) := Lib.hid (fun wx hb => by
    have := (hb.block b (Array.getElem?_eq_some_iff.1 x1).1).trans x1
    exact ⟨by simp [World.cell?, this], by simp [World.cell?, this]⟩)
  have H1 : Hid (∀ wx, Below w1.heap.size w1 wx → SlAt TermD.cells 2 S wx A c D) := Lib.hid (fun wx hb => h1.rest (Rest.below (S := fun _ => False) hb) (fun _ _ e => e.elim))
  obtain ⟨R, hR⟩ : ∃ R, validS base D = R := ⟨_, rfl⟩
  rw [hR]
  have HR := Lib.hid hR
  have HW := Lib.hid hw1
  have EB := Lib.hid eb
  have HB1 := Lib.hid b1
  have HS := fun w => Lib.hid (refSmall base w)
  obtain ⟨q0, q1⟩ := KB.out w1 (Below.refl _ _)
  obtain ⟨s0, e0⟩ : ∃ s, inB base (-1048576) 1048576 = s := ⟨_, rfl⟩
  rw [e0] at HS
  have E0 := Lib.hid e0
  clear h h1 b1 x1 hw1 eb hR e0
  cases s0 with
  | false =>
    have hRf := Lib.hid (show R = false by rw [← HR.out]; unfold validS; rw [E0.out]; rfl)
    go_enter Try.func116, Try.ntmps116
    go_upto_region 1 with fail
    rw [HW.out, EB.out]
    go_wp2_with (go_at_call 125; refine ((HS _).out).mono ?_; rintro e w' ⟨rfl, rfl⟩)
    go_ret
    exact ⟨ret_bool hRf.out.symm, HB1.out⟩
  | true =>
  by_cases h4 : 4 < D.length
  · have hRf := Lib.hid (show R = false by rw [← HR.out]; unfold validS; rw [decide_eq_false (by omega)]; simp)
    go_enter Try.func116, Try.ntmps116
    go_upto_region 1 with fail
    rw [HW.out, EB.out]
    go_wp2_with (go_at_call 125; refine ((HS _).out).mono ?_; rintro e w' ⟨rfl, rfl⟩)
    go_ret
    exact ⟨ret_bool hRf.out.symm, HB1.out⟩
  have hRok := Lib.hid (show R = okFrom [] D by rw [← HR.out]; unfold validS; rw [E0.out, decide_eq_true (by omega)]; rfl)
  go_enter Try.func116, Try.ntmps116
  go_upto_region 1 with fail
  rw [HW.out, EB.out]
  go_wp2_with (go_at_call 125; refine ((HS _).out).mono ?_; rintro e w' ⟨rfl, hw'⟩; have hw'' := hw'.symm; clear hw'; subst hw'')
  clear q0 q1
  go_loopw [3] (fun x wr => ∃ i : Nat, i ≤ D.length ∧ x = .int .i64 ((i : Nat) : Int) ∧ R = okFrom (D.take i) (D.drop i) ∧ Below w1.heap.size w1 wr) (fun x _ => D.length - (intOf x).toNat)
  case atStart => exact ⟨0, Nat.zero_le _, rfl, by simpa using hRok.out, Below.refl _ _⟩
  case round =>
    obtain ⟨i, hi, rfl, hr, hb⟩ := hrel
    have HRI := Lib.hid hr
    have HB := Lib.hid hb
    clear hr hb
    obtain ⟨q0, q1⟩ := KB.out wr HB.out
    by_cases hlt : i < D.length
    · obtain ⟨d, hd⟩ : ∃ d, D[i]? = some d := ⟨_, List.getElem?_eq_getElem hlt⟩
      obtain ⟨g, o, rfl, hx⟩ := (H1.out wr HB.out).at_ hd
      have a0 : wr.cell? ⟨g, o + i * 2, none⟩ = some (.string (strL d.f)) := hx 0 _ rfl
      have a1 : wr.cell? ⟨g, o + i * 2 + 1, none⟩ = some (.int .i64 d.k) := hx 1 _ rfl
      have HNM := fun w => Lib.hid (refName d.f w)
      have HSK := fun w => Lib.hid (refSmall d.k w)
      have HD := Lib.hid hd
      obtain ⟨sa, ea⟩ : ∃ s, nameB d.f = s := ⟨_, rfl⟩
      obtain ⟨sb, esb⟩ : ∃ s, (d.k == 0) = s := ⟨_, rfl⟩
      obtain ⟨sc, ec⟩ : ∃ s, inB d.k (-1048576) 1048576 = s := ⟨_, rfl⟩
      have hok : R = ((sa && (!sb && (sc && decide (idxOf (fun x : TermD => x.f == d.f) (D.take i) < 0)))) && okFrom (D.take (i + 1)) (D.drop (i + 1))) := by
        rw [HRI.out, ok_all hd, okT_eq _ _ sa sb sc _ ea esb ec rfl]
      have HOK := Lib.hid hok
      rw [ea] at HNM
      rw [ec] at HSK
      clear hd hx ea ec hok
      cases sa with
      | false =>
        have hRf := Lib.hid (show R = false by rw [HOK.out]; rfl)
        clear esb
        go_wp2_with (go_at_call 36; refine ((HNM _).out).mono ?_; rintro e w' ⟨rfl, rfl⟩)
        go_ret
        exact ⟨ret_bool hRf.out.symm, HB1.out.trans (HB.out.mono HB1.out.size)⟩
      | true =>
      cases sb with
      | true =>
        have hRf := Lib.hid (show R = false by rw [HOK.out]; rfl)
        go_wp2_with (go_at_call 36; refine ((HNM _).out).mono ?_; rintro e w' ⟨rfl, rfl⟩)
        go_ret
        exact ⟨ret_bool hRf.out.symm, HB1.out.trans (HB.out.mono HB1.out.size)⟩
      | false =>
      cases sc with
      | false =>
        have hRf := Lib.hid (show R = false by rw [HOK.out]; rfl)
        go_wp2_with (first | (go_at_call 36; refine ((HNM _).out).mono ?_; rintro e w' ⟨rfl, rfl⟩) | (go_at_call 125; refine ((HSK _).out).mono ?_; rintro e w' ⟨rfl, rfl⟩))
        go_ret
        exact ⟨ret_bool hRf.out.symm, HB1.out.trans (HB.out.mono HB1.out.size)⟩
      | true =>
      go_wp2_with (first | (go_at_call 36; refine ((HNM _).out).mono ?_; rintro e w' ⟨rfl, hw'⟩; have hw'' := hw'.symm; clear hw'; subst hw'') | (go_at_call 125; refine ((HSK _).out).mono ?_; rintro e w' ⟨rfl, hw'⟩; have hw'' := hw'.symm; clear hw'; subst hw''))
      clear q0 q1 a0 a1 esb
      go_loopw [4] (fun x wx => ∃ k : Nat, k ≤ i ∧ x = .int .i64 ((k : Nat) : Int) ∧ (∀ x ∈ D.take k, (x.f == d.f) = false) ∧ Below w1.heap.size w1 wx) (fun x _ => i - (intOf x).toNat)
      case atStart => exact ⟨0, Nat.zero_le _, rfl, by simp, HB.out⟩
      case round =>
        obtain ⟨k, hk, rfl, hn, hb2⟩ := hrel
        have HN := Lib.hid hn
        have HB2 := Lib.hid hb2
        clear hn hb2
        obtain ⟨w2, hw2⟩ : ∃ w2 : World, w2 = wr := ⟨_, rfl⟩
        by_cases hkl : k < i
        · obtain ⟨e, he⟩ : ∃ e, D[k]? = some e := ⟨_, List.getElem?_eq_getElem (by omega)⟩
          obtain ⟨q0, q1⟩ := KB.out _ HB2.out
          have hd' := (H1.out _ HB2.out).2.2 i d HD.out
          have he' := (H1.out _ HB2.out).2.2 k e he
          obtain ⟨g1, o1, e1, _, hx⟩ := hd'
          obtain ⟨g2, o2, e2, _, hy⟩ := he'
          cases e1
          cases e2
          have a0 := hx 0 _ rfl
          have b0 := hy 0 _ rfl
          simp only [Nat.add_zero] at a0 b0
          have hk0 : (0 : Int) ≤ ((k : Nat) : Int) := by omega
          have hk1 : ((k : Nat) : Int) < ((D.length : Nat) : Int) := by omega
          have hi0 : (0 : Int) ≤ ((i : Nat) : Int) := by omega
          have hi1 : ((i : Nat) : Int) < ((D.length : Nat) : Int) := by omega
          have HE := Lib.hid he
          clear he hx hy hw2
          by_cases hne : e.f = d.f
          · have hRf := Lib.hid (show R = false by
              rw [HOK.out]
              have : ¬ idxOf (fun x : TermD => x.f == d.f) (D.take i) < 0 := by
                have := (idx_nonneg (fun x : TermD => x.f == d.f) (D.take i) 0).2 (List.any_eq_true.2 ⟨e, List.mem_of_getElem? (show (D.take i)[k]? = some e by rw [List.getElem?_take, if_pos hkl]; exact HE.out), by simp [hne]⟩)
                unfold idxOf
                omega
              simp [this])
            rw [hne] at b0
            clear hne
            go_wp2_with fail
            go_quiet (fail)
            go_wp2_with fail
            go_ret
            exact ⟨ret_bool hRf.out.symm, HB1.out.trans ((HB2.out.trans ((below_drewN _ _).mono HB2.out.size)).mono HB1.out.size)⟩
          · have HNN := Lib.hid (take_none (p := fun x : TermD => x.f == d.f) HE.out HN.out (by simpa using hne))
            have e1 := text_ne hne
            clear hne
            go_wp2_with fail
            go_quiet (fail)
            go_wp2_with fail
            go_roundw
            case rel => exact ⟨k + 1, by omega, by go_num, HNN.out, HB2.out.trans ((below_drewN _ _).mono HB2.out.size)⟩
            case measure => simp [intOf]; omega
        · obtain rfl : k = i := by omega
          have hx : R = okFrom (D.take (k + 1)) (D.drop (k + 1)) := by
            rw [HOK.out, decide_eq_true (by rw [idx_miss HN.out]; decide)]
            rfl
          have HX := Lib.hid hx
          clear hx hw2
          go_wp2_with fail
          go_roundw
          case rel => exact ⟨k + 1, by omega, by go_num, HX.out, HB2.out⟩
          case measure => simp [intOf]; omega
    · obtain rfl : i = D.length := by omega
      have hRt := Lib.hid (show R = true by rw [HRI.out, List.drop_length]; rfl)
      go_wp2_with fail
      go_ret
      exact ⟨ret_bool hRt.out.symm, HB1.out.trans (HB.out.mono HB1.out.size)⟩
end Go.Proofs.Ytbpkppmbbpoohaa
