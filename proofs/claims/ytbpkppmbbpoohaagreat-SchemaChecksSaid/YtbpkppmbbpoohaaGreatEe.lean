/- Fields are compared as package schema compares them. Conditions: terms and cases lie in memory. -/
import Derived.Test.YtbpkppmbbpoohaaGreatEa
import Derived.Test.YtbpkppmbbpoohaaGreatJa
import Derived.BigQuiet
import Derived.Lib.QuietBelow
namespace Go.Proofs.YtbpkppmbbpoohaaGreat
open Go.RowKit Go.Shelf

/-- Two fields that are equal but for the places of their lists. -/
def sameP (d e : FieldD) : Prop := (d.name = e.name ∧ d.kind = e.kind ∧ d.little = e.little ∧ d.loose = e.loose ∧ d.bits = e.bits ∧ d.low = e.low ∧ d.high = e.high ∧ d.base = e.base ∧ d.terms.length = e.terms.length ∧ d.cases.length = e.cases.length ∧ d.check = e.check ∧ d.key = e.key ∧ d.of_ = e.of_ ∧ d.tag = e.tag ∧ d.from_ = e.from_) ∧ d.terms = e.terms ∧ d.cases = e.cases
instance (d e : FieldD) : Decidable (sameP d e) := by unfold sameP; infer_instance
def outP (d e : FieldD) : Prop := d.name = e.name ∧ d.kind = e.kind ∧ d.little = e.little ∧ d.loose = e.loose ∧ d.bits = e.bits ∧ d.low = e.low ∧ d.high = e.high ∧ d.base = e.base ∧ d.terms.length = e.terms.length ∧ d.cases.length = e.cases.length ∧ d.check = e.check ∧ d.key = e.key ∧ d.of_ = e.of_ ∧ d.tag = e.tag ∧ d.from_ = e.from_
instance (d e : FieldD) : Decidable (outP d e) := by unfold outP; infer_instance

set_option maxRecDepth 100000 in
set_option maxHeartbeats 3200000 in
theorem eql_out (d e : FieldD) (w : World) : (binOp .eql 167 (.agg #[.string (strL d.name), .int .i64 d.kind, .bool d.little, .bool d.loose, .int .i64 d.bits, .int .i64 d.low, .int .i64 d.high, .int .i64 d.base, .int .i64 (d.terms.length : Int), .int .i64 (d.cases.length : Int), .int .i64 d.check, .int .i64 d.key, .string (strL d.of_), .string (strL d.tag), .string (strL d.from_)]) (.agg #[.string (strL e.name), .int .i64 e.kind, .bool e.little, .bool e.loose, .int .i64 e.bits, .int .i64 e.low, .int .i64 e.high, .int .i64 e.base, .int .i64 (e.terms.length : Int), .int .i64 (e.cases.length : Int), .int .i64 e.check, .int .i64 e.key, .string (strL e.of_), .string (strL e.tag), .string (strL e.from_)])).run Tryz.prog w = .ok (.bool (decide (outP d e))) w := by
  obtain ⟨na, ki, bi, li, ls, lo, hi, ba, ta, tc, T, of, tg, fr, ca, cc, CS, ch, ke⟩ := d
  obtain ⟨na2, ki2, bi2, li2, ls2, lo2, hi2, ba2, ta2, tc2, T2, of2, tg2, fr2, ca2, cc2, CS2, ch2, ke2⟩ := e
  simp only [outP]
  simp [go_sem, strL_toList]
  by_cases h0 : na = na2
  case neg => simp [h0]
  case pos =>
    by_cases h1 : ki = ki2
    case neg => simp [h0, h1]
    case pos =>
      by_cases h2 : li = li2
      case neg => simp [h0, h1, h2]
      case pos =>
        by_cases h3 : ls = ls2
        case neg => simp [h0, h1, h2, h3]
        case pos =>
          by_cases h4 : bi = bi2
          case neg => simp [h0, h1, h2, h3, h4]
          case pos =>
            by_cases h5 : lo = lo2
            case neg => simp [h0, h1, h2, h3, h4, h5]
            case pos =>
              by_cases h6 : hi = hi2
              case neg => simp [h0, h1, h2, h3, h4, h5, h6]
              case pos =>
                by_cases h7 : ba = ba2
                case neg => simp [h0, h1, h2, h3, h4, h5, h6, h7]
                case pos =>
                  by_cases h8 : T.length = T2.length
                  case neg =>
                    have hc : ¬ ((T.length : Nat) : Int) = ((T2.length : Nat) : Int) := by omega
                    simp [h0, h1, h2, h3, h4, h5, h6, h7, h8, hc]
                  case pos =>
                    by_cases h9 : CS.length = CS2.length
                    case neg =>
                      have hc : ¬ ((CS.length : Nat) : Int) = ((CS2.length : Nat) : Int) := by omega
                      simp [h0, h1, h2, h3, h4, h5, h6, h7, h8, h9, hc]
                    case pos =>
                      by_cases h10 : ch = ch2
                      case neg => simp [h0, h1, h2, h3, h4, h5, h6, h7, h8, h9, h10]
                      case pos =>
                        by_cases h11 : ke = ke2
                        case neg => simp [h0, h1, h2, h3, h4, h5, h6, h7, h8, h9, h10, h11]
                        case pos =>
                          by_cases h12 : of = of2
                          case neg => simp [h0, h1, h2, h3, h4, h5, h6, h7, h8, h9, h10, h11, h12]
                          case pos =>
                            by_cases h13 : tg = tg2
                            case neg => simp [h0, h1, h2, h3, h4, h5, h6, h7, h8, h9, h10, h11, h12, h13]
                            case pos =>
                              by_cases h14 : fr = fr2
                              case neg => simp [h0, h1, h2, h3, h4, h5, h6, h7, h8, h9, h10, h11, h12, h13, h14]
                              case pos =>
                                simp [h0, h1, h2, h3, h4, h5, h6, h7, h8, h9, h10, h11, h12, h13, h14]

set_option maxRecDepth 100000 in
set_option maxHeartbeats 12800000 in
theorem equalFields_any (d e : FieldD) (S : Nat → Prop) (w : World) (hd : FieldOk S w d) (he : FieldOk S w e) :
    Calls Tryz.prog 97 #[d.agg, e.agg] w fun x w' => x = .returned (.bool (decide (sameP d e))) ∧ Below w.heap.size w w' := by
  have HOUT := fun wx => eql_out d e wx
  obtain ⟨r1, hr1⟩ : ∃ r, decide (outP d e) = r := ⟨_, rfl⟩
  rw [hr1] at HOUT
  have hrs : decide (sameP d e) = (r1 && (decide (d.terms = e.terms) && decide (d.cases = e.cases))) := by
    rw [← hr1]
    apply Bool.eq_iff_iff.2
    simp only [Bool.and_eq_true, decide_eq_true_eq]
    unfold sameP outP
    exact Iff.rfl
  rw [hrs]
  clear hr1 hrs
  obtain ⟨na, ki, bi, li, ls, lo, hi, ba, ta, tc, T, of, tg, fr, ca, cc, CS, ch, ke⟩ := d
  obtain ⟨na2, ki2, bi2, li2, ls2, lo2, hi2, ba2, ta2, tc2, T2, of2, tg2, fr2, ca2, cc2, CS2, ch2, ke2⟩ := e
  obtain ⟨wa, hwa⟩ : ∃ wa, w.alloc (.cells #[.string (strL na), .int .i64 ki, .int .i64 bi, .bool li, .bool ls, .int .i64 lo, .int .i64 hi, .int .i64 ba, .slice ta T.length tc, .string (strL of), .string (strL tg), .string (strL fr), .slice ca CS.length cc, .int .i64 ch, .int .i64 ke] 55) = wa := ⟨_, rfl⟩
  obtain ⟨w1, hw1⟩ : ∃ w1, wa.alloc (.cells #[.string (strL na2), .int .i64 ki2, .int .i64 bi2, .bool li2, .bool ls2, .int .i64 lo2, .int .i64 hi2, .int .i64 ba2, .slice ta2 T2.length tc2, .string (strL of2), .string (strL tg2), .string (strL fr2), .slice ca2 CS2.length cc2, .int .i64 ch2, .int .i64 ke2] 55) = w1 := ⟨_, rfl⟩
  have hw : (w.alloc (.cells #[.string (strL na), .int .i64 ki, .int .i64 bi, .bool li, .bool ls, .int .i64 lo, .int .i64 hi, .int .i64 ba, .slice ta T.length tc, .string (strL of), .string (strL tg), .string (strL fr), .slice ca CS.length cc, .int .i64 ch, .int .i64 ke] 55)).alloc (.cells #[.string (strL na2), .int .i64 ki2, .int .i64 bi2, .bool li2, .bool ls2, .int .i64 lo2, .int .i64 hi2, .int .i64 ba2, .slice ta2 T2.length tc2, .string (strL of2), .string (strL tg2), .string (strL fr2), .slice ca2 CS2.length cc2, .int .i64 ch2, .int .i64 ke2] 55) = w1 := by rw [hwa, hw1]
  have ba' : Below w.heap.size w wa := by rw [← hwa]; exact below_alloc _ _
  have b1 : Below wa.heap.size wa w1 := by rw [← hw1]; exact below_alloc _ _
  have sa : wa.heap.size = w.heap.size + 1 := by rw [← hwa]; simp
  have hb1 : Below w.heap.size w w1 := ba'.trans (b1.mono (by omega))
  have fx1 : FBox w1 w.heap.size ⟨na, ki, bi, li, ls, lo, hi, ba, ta, tc, T, of, tg, fr, ca, cc, CS, ch, ke⟩ := (by rw [← hwa]; exact FBox.new w ⟨na, ki, bi, li, ls, lo, hi, ba, ta, tc, T, of, tg, fr, ca, cc, CS, ch, ke⟩ : FBox wa w.heap.size ⟨na, ki, bi, li, ls, lo, hi, ba, ta, tc, T, of, tg, fr, ca, cc, CS, ch, ke⟩).below b1 (by omega)
  have fy1 : FBox w1 (w.heap.size + 1) ⟨na2, ki2, bi2, li2, ls2, lo2, hi2, ba2, ta2, tc2, T2, of2, tg2, fr2, ca2, cc2, CS2, ch2, ke2⟩ := by rw [← hw1, ← sa]; exact FBox.new wa ⟨na2, ki2, bi2, li2, ls2, lo2, hi2, ba2, ta2, tc2, T2, of2, tg2, fr2, ca2, cc2, CS2, ch2, ke2⟩
  have T1 : Hid (∀ wx, Below w1.heap.size w1 wx → SlAt TermD.cells 2 S wx ta tc T) := Lib.hid (fun wx hb => hd.1.rest (Rest.below (S := fun _ => False) (hb1.trans (hb.mono hb1.size))) (fun _ _ e => e.elim))
  have T2' : Hid (∀ wx, Below w1.heap.size w1 wx → SlAt TermD.cells 2 S wx ta2 tc2 T2) := Lib.hid (fun wx hb => he.1.rest (Rest.below (S := fun _ => False) (hb1.trans (hb.mono hb1.size))) (fun _ _ e => e.elim))
  have C1 : Hid (∀ wx, Below w1.heap.size w1 wx → SlAt CaseD.cells 3 S wx ca cc CS) := Lib.hid (fun wx hb => hd.2.rest (Rest.below (S := fun _ => False) (hb1.trans (hb.mono hb1.size))) (fun _ _ e => e.elim))
  have C2 : Hid (∀ wx, Below w1.heap.size w1 wx → SlAt CaseD.cells 3 S wx ca2 cc2 CS2) := Lib.hid (fun wx hb => he.2.rest (Rest.below (S := fun _ => False) (hb1.trans (hb.mono hb1.size))) (fun _ _ e => e.elim))
  obtain ⟨b, eb⟩ : ∃ b, w.heap.size = b := ⟨_, rfl⟩
  rw [eb] at fx1 fy1
  have KN : Hid (∀ wx, Below w1.heap.size w1 wx → wx.cell? ⟨b, 0, none⟩ = some (.string (strL na)) ∧ wx.cell? ⟨b, 1, none⟩ = some (.int .i64 ki) ∧ wx.cell? ⟨b, 2, none⟩ = some (.int .i64 bi) ∧ wx.cell? ⟨b, 3, none⟩ = some (.bool li) ∧ wx.cell? ⟨b, 4, none⟩ = some (.bool ls) ∧ wx.cell? ⟨b, 5, none⟩ = some (.int .i64 lo) ∧ wx.cell? ⟨b, 6, none⟩ = some (.int .i64 hi) ∧ wx.cell? ⟨b, 7, none⟩ = some (.int .i64 ba) ∧ wx.cell? ⟨b, 8, none⟩ = some (.slice ta T.length tc) ∧ wx.cell? ⟨b, 9, none⟩ = some (.string (strL of)) ∧ wx.cell? ⟨b, 10, none⟩ = some (.string (strL tg)) ∧ wx.cell? ⟨b, 11, none⟩ = some (.string (strL fr)) ∧ wx.cell? ⟨b, 12, none⟩ = some (.slice ca CS.length cc) ∧ wx.cell? ⟨b, 13, none⟩ = some (.int .i64 ch) ∧ wx.cell? ⟨b, 14, none⟩ = some (.int .i64 ke) ∧ wx.cell? ⟨b + 1, 0, none⟩ = some (.string (strL na2)) ∧ wx.cell? ⟨b + 1, 1, none⟩ = some (.int .i64 ki2) ∧ wx.cell? ⟨b + 1, 2, none⟩ = some (.int .i64 bi2) ∧ wx.cell? ⟨b + 1, 3, none⟩ = some (.bool li2) ∧ wx.cell? ⟨b + 1, 4, none⟩ = some (.bool ls2) ∧ wx.cell? ⟨b + 1, 5, none⟩ = some (.int .i64 lo2) ∧ wx.cell? ⟨b + 1, 6, none⟩ = some (.int .i64 hi2) ∧ wx.cell? ⟨b + 1, 7, none⟩ = some (.int .i64 ba2) ∧ wx.cell? ⟨b + 1, 8, none⟩ = some (.slice ta2 T2.length tc2) ∧ wx.cell? ⟨b + 1, 9, none⟩ = some (.string (strL of2)) ∧ wx.cell? ⟨b + 1, 10, none⟩ = some (.string (strL tg2)) ∧ wx.cell? ⟨b + 1, 11, none⟩ = some (.string (strL fr2)) ∧ wx.cell? ⟨b + 1, 12, none⟩ = some (.slice ca2 CS2.length cc2) ∧ wx.cell? ⟨b + 1, 13, none⟩ = some (.int .i64 ch2) ∧ wx.cell? ⟨b + 1, 14, none⟩ = some (.int .i64 ke2)) := Lib.hid (fun wx hb => by
    have h1 := fx1.below hb fx1.lt
    have h2 := fy1.below hb fy1.lt
    exact ⟨h1.c0, h1.c1, h1.c2, h1.c3, h1.c4, h1.c5, h1.c6, h1.c7, h1.c8, h1.c9, h1.c10, h1.c11, h1.c12, h1.c13, h1.c14, h2.c0, h2.c1, h2.c2, h2.c3, h2.c4, h2.c5, h2.c6, h2.c7, h2.c8, h2.c9, h2.c10, h2.c11, h2.c12, h2.c13, h2.c14⟩)
  have HW := Lib.hid hw
  have EB := Lib.hid eb
  have HB1 := Lib.hid hb1
  obtain ⟨x0, x1, x2, x3, x4, x5, x6, x7, x8, x9, x10, x11, x12, x13, x14, y0, y1, y2, y3, y4, y5, y6, y7, y8, y9, y10, y11, y12, y13, y14⟩ := KN.out w1 (Below.refl _ _)
  clear hd he hwa hw1 hw ba' b1 sa hb1 fx1 fy1 eb
  have ET := fun wx h1 h2 => Lib.hid (equalT_any ta ta2 tc tc2 T T2 S wx h1 h2)
  have EC := fun wx h1 h2 => Lib.hid (equalC_any ca ca2 cc cc2 CS CS2 S wx h1 h2)
  show Calls Tryz.prog 97 #[.agg #[.string (strL na), .int .i64 ki, .int .i64 bi, .bool li, .bool ls, .int .i64 lo, .int .i64 hi, .int .i64 ba, .slice ta T.length tc, .string (strL of), .string (strL tg), .string (strL fr), .slice ca CS.length cc, .int .i64 ch, .int .i64 ke], .agg #[.string (strL na2), .int .i64 ki2, .int .i64 bi2, .bool li2, .bool ls2, .int .i64 lo2, .int .i64 hi2, .int .i64 ba2, .slice ta2 T2.length tc2, .string (strL of2), .string (strL tg2), .string (strL fr2), .slice ca2 CS2.length cc2, .int .i64 ch2, .int .i64 ke2]] w _
  dsimp only at HOUT ⊢
  obtain ⟨r2, hr2⟩ : ∃ r, decide (T = T2) = r := ⟨_, rfl⟩
  obtain ⟨r3, hr3⟩ : ∃ r, decide (CS = CS2) = r := ⟨_, rfl⟩
  rw [hr2, hr3]
  simp only [hr2] at ET
  simp only [hr3] at EC
  clear hr2 hr3
  go_enter Tryz.func97, Tryz.ntmps97
  go_upto_region 1 with fail
  rw [HW.out, EB.out]
  have kx0 := cell_regrown x0
  have kx1 := cell_regrown x1
  have kx2 := cell_regrown x2
  have kx3 := cell_regrown x3
  have kx4 := cell_regrown x4
  have kx5 := cell_regrown x5
  have kx6 := cell_regrown x6
  have kx7 := cell_regrown x7
  have kx8 := cell_regrown x8
  have kx9 := cell_regrown x9
  have kx10 := cell_regrown x10
  have kx11 := cell_regrown x11
  have kx12 := cell_regrown x12
  have kx13 := cell_regrown x13
  have kx14 := cell_regrown x14
  have ky0 := cell_regrown y0
  have ky1 := cell_regrown y1
  have ky2 := cell_regrown y2
  have ky3 := cell_regrown y3
  have ky4 := cell_regrown y4
  have ky5 := cell_regrown y5
  have ky6 := cell_regrown y6
  have ky7 := cell_regrown y7
  have ky8 := cell_regrown y8
  have ky9 := cell_regrown y9
  have ky10 := cell_regrown y10
  have ky11 := cell_regrown y11
  have ky12 := cell_regrown y12
  have ky13 := cell_regrown y13
  have ky14 := cell_regrown y14
  clear x0 x1 x2 x3 x4 x5 x6 x7 x8 x9 x10 x11 x12 x13 x14 y0 y1 y2 y3 y4 y5 y6 y7 y8 y9 y10 y11 y12 y13 y14
  cases r1
  case false =>
    refine wp_region_quiet_below (by kernel_rfl) (by kernel_rfl) ?_
    repeat (go_big_quiet_step ((first
      | (go_at_call 132; exact Calls.regrown_of (outline_any _ _ _ _ _ _ _ _ _ _ _ _ _ _ _ _ _ _ _ _))
      | (go_at_call 133; exact Calls.regrown_of ((ET _ (T1.out _ (below_regrown _ _ _)) (T2'.out _ (below_regrown _ _ _))).out))
      | (go_at_call 134; exact Calls.regrown_of ((EC _ (C1.out _ (below_regrown _ _ _)) (C2.out _ (below_regrown _ _ _))).out)))))
    refine wpQuiet_nil ?_
    rintro _ ⟨p, rfl⟩
    go_wp2_with fail
    go_ret
    exact ⟨rfl, HB1.out.trans ((below_regrown _ _ _).mono HB1.out.size)⟩
  case true =>
    cases r2
    case false =>
      refine wp_region_quiet_below (by kernel_rfl) (by kernel_rfl) ?_
      repeat (go_big_quiet_step ((first
        | (go_at_call 132; exact Calls.regrown_of (outline_any _ _ _ _ _ _ _ _ _ _ _ _ _ _ _ _ _ _ _ _))
        | (go_at_call 133; exact Calls.regrown_of ((ET _ (T1.out _ (below_regrown _ _ _)) (T2'.out _ (below_regrown _ _ _))).out))
        | (go_at_call 134; exact Calls.regrown_of ((EC _ (C1.out _ (below_regrown _ _ _)) (C2.out _ (below_regrown _ _ _))).out)))))
      refine wpQuiet_nil ?_
      rintro _ ⟨p, rfl⟩
      go_wp2_with fail
      go_ret
      exact ⟨rfl, HB1.out.trans ((below_regrown _ _ _).mono HB1.out.size)⟩
    case true =>
      cases r3
      case false =>
        refine wp_region_quiet_below (by kernel_rfl) (by kernel_rfl) ?_
        repeat (go_big_quiet_step ((first
          | (go_at_call 132; exact Calls.regrown_of (outline_any _ _ _ _ _ _ _ _ _ _ _ _ _ _ _ _ _ _ _ _))
          | (go_at_call 133; exact Calls.regrown_of ((ET _ (T1.out _ (below_regrown _ _ _)) (T2'.out _ (below_regrown _ _ _))).out))
          | (go_at_call 134; exact Calls.regrown_of ((EC _ (C1.out _ (below_regrown _ _ _)) (C2.out _ (below_regrown _ _ _))).out)))))
        refine wpQuiet_nil ?_
        rintro _ ⟨p, rfl⟩
        go_wp2_with fail
        go_ret
        exact ⟨rfl, HB1.out.trans ((below_regrown _ _ _).mono HB1.out.size)⟩
      case true =>
        refine wp_region_quiet_below (by kernel_rfl) (by kernel_rfl) ?_
        repeat (go_big_quiet_step ((first
          | (go_at_call 132; exact Calls.regrown_of (outline_any _ _ _ _ _ _ _ _ _ _ _ _ _ _ _ _ _ _ _ _))
          | (go_at_call 133; exact Calls.regrown_of ((ET _ (T1.out _ (below_regrown _ _ _)) (T2'.out _ (below_regrown _ _ _))).out))
          | (go_at_call 134; exact Calls.regrown_of ((EC _ (C1.out _ (below_regrown _ _ _)) (C2.out _ (below_regrown _ _ _))).out)))))
        refine wpQuiet_nil ?_
        rintro _ ⟨p, rfl⟩
        go_wp2_with fail
        go_ret
        exact ⟨rfl, HB1.out.trans ((below_regrown _ _ _).mono HB1.out.size)⟩
end Go.Proofs.YtbpkppmbbpoohaaGreat
