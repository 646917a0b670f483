/- Messages and definitions are compared as package schema compares them. Conditions: they lie in memory. Fields are compared as the document compares them. Conditions: terms and cases lie in memory. -/
import Derived.Test.YtbpkppmbbpoohaaGreatEe
import Derived.Test.YtbpkppmbbpoohaaGreatEf
import Derived.Test.YtbpkppmbbpoohaaGreatEa
import Derived.Test.YtbpkppmbbpoohaaGreatLk
namespace Go.Proofs.YtbpkppmbbpoohaaGreat
open Go.RowKit Go.Shelf

theorem Tryz.entEqF : ∀ args w, (callFunc 97 args).run Tryz.prog w = .ok (.enter 97 args) w := enters_of Tryz.func97 (by kernel_rfl) rfl
theorem Tryz.entEqM : ∀ args w, (callFunc 71 args).run Tryz.prog w = .ok (.enter 71 args) w := enters_of Tryz.func71 (by kernel_rfl) rfl
def sameR (d e : FieldD) : Bool := decide (sameP d e)
def sameM (m n : MsgD) : Bool := decide (m.name = n.name) && eqL sameR m.fields n.fields

set_option maxRecDepth 100000 in
set_option maxHeartbeats 3200000 in
theorem equalMessages_any (m n : MsgD) (S : Nat → Prop) (w : World) (hm : MsgOk S w m) (hn : MsgOk S w n) :
    Calls Tryz.prog 71 #[m.agg, n.agg] w fun x w' => x = .returned (.bool (sameM m n)) ∧ Below w.heap.size w w' := by
  obtain ⟨na, fa, fc, D⟩ := m
  obtain ⟨na2, fa2, fc2, D2⟩ := n
  show Calls Tryz.prog 71 #[.agg #[.string (strL na), .slice fa D.length fc], .agg #[.string (strL na2), .slice fa2 D2.length fc2]] w fun x w' => x = .returned (.bool (decide (na = na2) && eqL sameR D D2)) ∧ Below w.heap.size w w'
  obtain ⟨wa, hwa⟩ : ∃ wa, w.alloc (.cells #[.string (strL na), .slice fa D.length fc] 36) = wa := ⟨_, rfl⟩
  obtain ⟨w1, hw1⟩ : ∃ w1, wa.alloc (.cells #[.string (strL na2), .slice fa2 D2.length fc2] 36) = w1 := ⟨_, rfl⟩
  have hw : (w.alloc (.cells #[.string (strL na), .slice fa D.length fc] 36)).alloc (.cells #[.string (strL na2), .slice fa2 D2.length fc2] 36) = w1 := by rw [hwa, hw1]
  have ba : Below w.heap.size w wa := by rw [← hwa]; exact below_alloc _ _
  have b1 : Below wa.heap.size wa w1 := by rw [← hw1]; exact below_alloc _ _
  have sa : wa.heap.size = w.heap.size + 1 := by rw [← hwa]; simp
  have hb1 : Below w.heap.size w w1 := ba.trans (b1.mono (by omega))
  have x1 : w1.heap[w.heap.size]? = some (.cells #[.string (strL na), .slice fa D.length fc] 36 (0, 0)) := (b1.block _ (by omega)).trans (by rw [← hwa]; exact heap_alloc_new w _)
  have y1 : w1.heap[w.heap.size + 1]? = some (.cells #[.string (strL na2), .slice fa2 D2.length fc2] 36 (0, 0)) := by rw [← hw1, ← sa]; exact heap_alloc_new wa _
  obtain ⟨b, eb⟩ : ∃ b, w.heap.size = b := ⟨_, rfl⟩
  rw [eb] at x1 y1
  have HW := Lib.hid hw
  have EB := Lib.hid eb
  have HB1 := Lib.hid hb1
  have p0 : w1.cell? ⟨b, 0, none⟩ = some (.string (strL na)) := by simp [World.cell?, x1]
  have p1 : w1.cell? ⟨b, 1, none⟩ = some (.slice fa D.length fc) := by simp [World.cell?, x1]
  have q0 : w1.cell? ⟨b + 1, 0, none⟩ = some (.string (strL na2)) := by simp [World.cell?, y1]
  have q1 : w1.cell? ⟨b + 1, 1, none⟩ = some (.slice fa2 D2.length fc2) := by simp [World.cell?, y1]
  have k1 : FieldsAt S w1 fa fc D := FieldsAt.rest hm (Rest.below (S := fun _ => False) hb1) (fun _ _ e => e.elim)
  have k2 : FieldsAt S w1 fa2 fc2 D2 := FieldsAt.rest hn (Rest.below (S := fun _ => False) hb1) (fun _ _ e => e.elim)
  have HE := Lib.hid (eqFields 97 Tryz.entEqF sameR fa fa2 fc fc2 D D2 S w1 k1.1 k2.1 (fun d e hd he wx hb => equalFields_any d e S wx ((k1.2 d hd).rest (Rest.below (S := fun _ => False) hb) (fun _ _ e => e.elim)) ((k2.2 e he).rest (Rest.below (S := fun _ => False) hb) (fun _ _ e => e.elim))))
  obtain ⟨rv, hrv⟩ : ∃ r, eqL sameR D D2 = r := ⟨_, rfl⟩
  rw [hrv] at HE ⊢
  clear hm hn hwa hw1 hw ba b1 sa hb1 x1 y1 eb k1 k2 hrv
  go_enter Tryz.func71, Tryz.ntmps71
  go_upto_region 1 with fail
  rw [HW.out, EB.out]
  by_cases h : na = na2
  · have HX := Lib.hid h
    subst h
    go_wp2_with fail
    refine HE.out.mono ?_
    rintro x w2 ⟨rfl, hb2⟩
    have HB2 := Lib.hid (HB1.out.trans (hb2.mono HB1.out.size))
    clear hb2
    go_wp2_with fail
    go_ret
    exact ⟨by simp; try rfl, HB2.out⟩
  · have hs := text_ne h
    have HX := Lib.hid h
    clear h
    go_wp2_with fail
    go_ret
    exact ⟨by simp [HX.out]; try rfl, HB1.out⟩

/-- Two definitions that are equal but for the places of their lists. -/
def sameD (na st na2 st2 : List UInt8) (D D2 : List MsgD) : Bool := decide (na = na2) && (decide (st = st2) && eqL sameM D D2)

set_option maxRecDepth 100000 in
set_option maxHeartbeats 3200000 in
theorem equal_any (na st na2 st2 : List UInt8) (A A2 : Option Addr) (c c2 : Nat) (D D2 : List MsgD) (S : Nat → Prop) (w : World) (hm : MsgsAt S w A c D) (hn : MsgsAt S w A2 c2 D2) :
    Calls Tryz.prog 34 #[.agg #[.string (strL na), .slice A D.length c, .string (strL st)], .agg #[.string (strL na2), .slice A2 D2.length c2, .string (strL st2)]] w fun x w' => x = .returned (.bool (sameD na st na2 st2 D D2)) ∧ Below w.heap.size w w' := by
  obtain ⟨wa, hwa⟩ : ∃ wa, w.alloc (.cells #[.string (strL na), .slice A D.length c, .string (strL st)] 24) = wa := ⟨_, rfl⟩
  obtain ⟨w1, hw1⟩ : ∃ w1, wa.alloc (.cells #[.string (strL na2), .slice A2 D2.length c2, .string (strL st2)] 24) = w1 := ⟨_, rfl⟩
  have hw : (w.alloc (.cells #[.string (strL na), .slice A D.length c, .string (strL st)] 24)).alloc (.cells #[.string (strL na2), .slice A2 D2.length c2, .string (strL st2)] 24) = w1 := by rw [hwa, hw1]
  have ba : Below w.heap.size w wa := by rw [← hwa]; exact below_alloc _ _
  have b1 : Below wa.heap.size wa w1 := by rw [← hw1]; exact below_alloc _ _
  have sa : wa.heap.size = w.heap.size + 1 := by rw [← hwa]; simp
  have hb1 : Below w.heap.size w w1 := ba.trans (b1.mono (by omega))
  have x1 : w1.heap[w.heap.size]? = some (.cells #[.string (strL na), .slice A D.length c, .string (strL st)] 24 (0, 0)) := (b1.block _ (by omega)).trans (by rw [← hwa]; exact heap_alloc_new w _)
  have y1 : w1.heap[w.heap.size + 1]? = some (.cells #[.string (strL na2), .slice A2 D2.length c2, .string (strL st2)] 24 (0, 0)) := by rw [← hw1, ← sa]; exact heap_alloc_new wa _
  obtain ⟨b, eb⟩ : ∃ b, w.heap.size = b := ⟨_, rfl⟩
  rw [eb] at x1 y1
  have HW := Lib.hid hw
  have EB := Lib.hid eb
  have HB1 := Lib.hid hb1
  have p0 : w1.cell? ⟨b, 0, none⟩ = some (.string (strL na)) := by simp [World.cell?, x1]
  have p1 : w1.cell? ⟨b, 1, none⟩ = some (.slice A D.length c) := by simp [World.cell?, x1]
  have p2 : w1.cell? ⟨b, 2, none⟩ = some (.string (strL st)) := by simp [World.cell?, x1]
  have q0 : w1.cell? ⟨b + 1, 0, none⟩ = some (.string (strL na2)) := by simp [World.cell?, y1]
  have q1 : w1.cell? ⟨b + 1, 1, none⟩ = some (.slice A2 D2.length c2) := by simp [World.cell?, y1]
  have q2 : w1.cell? ⟨b + 1, 2, none⟩ = some (.string (strL st2)) := by simp [World.cell?, y1]
  have k1 : MsgsAt S w1 A c D := MsgsAt.rest hm (Rest.below (S := fun _ => False) hb1) (fun _ _ e => e.elim)
  have k2 : MsgsAt S w1 A2 c2 D2 := MsgsAt.rest hn (Rest.below (S := fun _ => False) hb1) (fun _ _ e => e.elim)
  have HE := Lib.hid (eqMsgs 71 Tryz.entEqM sameM A A2 c c2 D D2 S w1 k1.1 k2.1 (fun d e hd he wx hb => equalMessages_any d e S wx (FieldsAt.rest (k1.2 d hd) (Rest.below (S := fun _ => False) hb) (fun _ _ e => e.elim)) (FieldsAt.rest (k2.2 e he) (Rest.below (S := fun _ => False) hb) (fun _ _ e => e.elim))))
  unfold sameD
  obtain ⟨rv, hrv⟩ : ∃ r, eqL sameM D D2 = r := ⟨_, rfl⟩
  rw [hrv] at HE ⊢
  clear hm hn hwa hw1 hw ba b1 sa hb1 x1 y1 eb k1 k2 hrv
  go_enter Tryz.func34, Tryz.ntmps34
  go_upto_region 1 with fail
  rw [HW.out, EB.out]
  by_cases h : na = na2
  · subst h
    by_cases h2 : st = st2
    · subst h2
      go_wp2_with fail
      refine HE.out.mono ?_
      rintro x w2 ⟨rfl, hb2⟩
      have HB2 := Lib.hid (HB1.out.trans (hb2.mono HB1.out.size))
      clear hb2
      go_wp2_with fail
      go_ret
      exact ⟨by simp; try rfl, HB2.out⟩
    · have hs := text_ne h2
      have HX := Lib.hid h2
      clear h2
      go_wp2_with fail
      go_ret
      exact ⟨by simp [HX.out]; try rfl, HB1.out⟩
  · have hs := text_ne h
    have HX := Lib.hid h
    clear h
    go_wp2_with fail
    go_ret
    exact ⟨by simp [HX.out]; try rfl, HB1.out⟩
end Go.Proofs.YtbpkppmbbpoohaaGreat

namespace Go.Proofs.YtbpkppmbbpoohaaGreat
open Go.RowKit Go.Shelf

theorem bool_beq (a b : Bool) : (a == b) = decide (a = b) := by cases a <;> cases b <;> rfl
section
variable {o : Oper} {i j : Nat} {T U : Nat} {w : World}
theorem ex_one {i : Nat} {x y : Value} (h : ∀ ρ : Operand → Value, ρ (.tmp i) = x → (execOp ρ o).run Tryz.prog w = .ok (.value y) w) : Ex Tryz.prog o w [(i, x)] y := fun ρ h1 => h ρ (h1 (i, x) (by simp))
theorem ex_two {i j : Nat} {x x2 y : Value} (h : ∀ ρ : Operand → Value, ρ (.tmp i) = x → ρ (.tmp j) = x2 → (execOp ρ o).run Tryz.prog w = .ok (.value y) w) : Ex Tryz.prog o w [(i, x), (j, x2)] y := fun ρ h1 => h ρ (h1 (i, x) (by simp)) (h1 (j, x2) (by simp))
theorem ex_eqlS {l l2 : List UInt8} (ho : o.op = .binOp .eql T (.tmp i) (.tmp j) U) : Ex Tryz.prog o w [(i, .string (strL l)), (j, .string (strL l2))] (.bool (decide (l = l2))) := by
  refine ex_two fun ρ h0 h1 => ?_
  unfold execOp
  rw [ho]
  simp only
  rw [h0, h1]
  simp [go_sem, eqGuard]
  rw [strL_toList, strL_toList]
  by_cases h : l = l2 <;> simp [h]
theorem ex_eqlI {a b : Int} (ho : o.op = .binOp .eql T (.tmp i) (.tmp j) U) : Ex Tryz.prog o w [(i, .int .i64 a), (j, .int .i64 b)] (.bool (decide (a = b))) := by
  refine ex_two fun ρ h0 h1 => ?_
  unfold execOp
  rw [ho]
  simp only
  rw [h0, h1]
  simp [go_sem, eqGuard]
  first | rfl | exact beq_eq_decide _ _ | (apply Bool.eq_iff_iff.2; rw [beq_iff_eq, decide_eq_true_eq])
theorem ex_eqlB {a b : Bool} (ho : o.op = .binOp .eql T (.tmp i) (.tmp j) U) (hT : Tryz.prog.underlying T = some .bool) : Ex Tryz.prog o w [(i, .bool a), (j, .bool b)] (.bool (decide (a = b))) := by
  refine ex_two fun ρ h0 h1 => ?_
  unfold execOp
  rw [ho]
  simp only
  rw [h0, h1]
  simp [go_sem, eqGuard, hT]
  try rw [bool_beq]
end

/-- Two fields that are equal but for the places of their lists. -/
def sameB (d e : FieldD) : Bool := (((((((((((((decide (d.name = e.name) && decide (d.kind = e.kind)) && decide (d.bits = e.bits)) && decide (d.little = e.little)) && decide (d.loose = e.loose)) && decide (d.low = e.low)) && decide (d.high = e.high)) && (decide (d.base = e.base) && decide (d.terms = e.terms))) && decide (d.of_ = e.of_)) && decide (d.tag = e.tag)) && decide (d.from_ = e.from_)) && decide (d.cases = e.cases)) && decide (d.check = e.check)) && decide (d.key = e.key))

set_option maxRecDepth 100000 in
set_option maxHeartbeats 12800000 in
theorem sameField_any (d e : FieldD) (S : Nat → Prop) (w : World) (hd : FieldOk S w d) (he : FieldOk S w e) :
    Calls Tryz.prog 53 #[d.agg, e.agg] w fun x w' => x = .returned (.bool (sameB d e)) ∧ Below w.heap.size w w' := by
  obtain ⟨na, ki, bi, li, ls, lo, hi, ba, ta, tc, T, of, tg, fr, ca, cc, CS, ch, ke⟩ := d
  obtain ⟨na2, ki2, bi2, li2, ls2, lo2, hi2, ba2, ta2, tc2, T2, of2, tg2, fr2, ca2, cc2, CS2, ch2, ke2⟩ := e
  obtain ⟨RR, hRR⟩ : ∃ r, sameB ⟨na, ki, bi, li, ls, lo, hi, ba, ta, tc, T, of, tg, fr, ca, cc, CS, ch, ke⟩ ⟨na2, ki2, bi2, li2, ls2, lo2, hi2, ba2, ta2, tc2, T2, of2, tg2, fr2, ca2, cc2, CS2, ch2, ke2⟩ = r := ⟨_, rfl⟩
  rw [hRR]
  unfold sameB at hRR
  dsimp only at hRR
  obtain ⟨wa, hwa⟩ : ∃ wa, w.alloc (.cells #[.string (strL na), .int .i64 ki, .int .i64 bi, .bool li, .bool ls, .int .i64 lo, .int .i64 hi, .int .i64 ba, .slice ta T.length tc, .string (strL of), .string (strL tg), .string (strL fr), .slice ca CS.length cc, .int .i64 ch, .int .i64 ke] 55) = wa := ⟨_, rfl⟩
  obtain ⟨w1, hw1⟩ : ∃ w1, wa.alloc (.cells #[.string (strL na2), .int .i64 ki2, .int .i64 bi2, .bool li2, .bool ls2, .int .i64 lo2, .int .i64 hi2, .int .i64 ba2, .slice ta2 T2.length tc2, .string (strL of2), .string (strL tg2), .string (strL fr2), .slice ca2 CS2.length cc2, .int .i64 ch2, .int .i64 ke2] 55) = w1 := ⟨_, rfl⟩
  have hw : (w.alloc (.cells #[.string (strL na), .int .i64 ki, .int .i64 bi, .bool li, .bool ls, .int .i64 lo, .int .i64 hi, .int .i64 ba, .slice ta T.length tc, .string (strL of), .string (strL tg), .string (strL fr), .slice ca CS.length cc, .int .i64 ch, .int .i64 ke] 55)).alloc (.cells #[.string (strL na2), .int .i64 ki2, .int .i64 bi2, .bool li2, .bool ls2, .int .i64 lo2, .int .i64 hi2, .int .i64 ba2, .slice ta2 T2.length tc2, .string (strL of2), .string (strL tg2), .string (strL fr2), .slice ca2 CS2.length cc2, .int .i64 ch2, .int .i64 ke2] 55) = w1 := by rw [hwa, hw1]
  have ba' : Below w.heap.size w wa := by rw [← hwa]; exact below_alloc _ _
  have b1 : Below wa.heap.size wa w1 := by rw [← hw1]; exact below_alloc _ _
  have sa : wa.heap.size = w.heap.size + 1 := by rw [← hwa]; simp
  have hb1 : Below w.heap.size w w1 := ba'.trans (b1.mono (by omega))
  have x1 : FBox w1 w.heap.size ⟨na, ki, bi, li, ls, lo, hi, ba, ta, tc, T, of, tg, fr, ca, cc, CS, ch, ke⟩ := (by rw [← hwa]; exact FBox.new w ⟨na, ki, bi, li, ls, lo, hi, ba, ta, tc, T, of, tg, fr, ca, cc, CS, ch, ke⟩ : FBox wa w.heap.size ⟨na, ki, bi, li, ls, lo, hi, ba, ta, tc, T, of, tg, fr, ca, cc, CS, ch, ke⟩).below b1 (by omega)
  have y1 : FBox w1 (w.heap.size + 1) ⟨na2, ki2, bi2, li2, ls2, lo2, hi2, ba2, ta2, tc2, T2, of2, tg2, fr2, ca2, cc2, CS2, ch2, ke2⟩ := by rw [← hw1, ← sa]; exact FBox.new wa ⟨na2, ki2, bi2, li2, ls2, lo2, hi2, ba2, ta2, tc2, T2, of2, tg2, fr2, ca2, cc2, CS2, ch2, ke2⟩
  have T1 : Hid (∀ wx, Below w1.heap.size w1 wx → SlAt TermD.cells 2 S wx ta tc T) := Lib.hid (fun wx hb => hd.1.rest (Rest.below (S := fun _ => False) (hb1.trans (hb.mono hb1.size))) (fun _ _ e => e.elim))
  have T2' : Hid (∀ wx, Below w1.heap.size w1 wx → SlAt TermD.cells 2 S wx ta2 tc2 T2) := Lib.hid (fun wx hb => he.1.rest (Rest.below (S := fun _ => False) (hb1.trans (hb.mono hb1.size))) (fun _ _ e => e.elim))
  have C1 : Hid (∀ wx, Below w1.heap.size w1 wx → SlAt CaseD.cells 3 S wx ca cc CS) := Lib.hid (fun wx hb => hd.2.rest (Rest.below (S := fun _ => False) (hb1.trans (hb.mono hb1.size))) (fun _ _ e => e.elim))
  have C2 : Hid (∀ wx, Below w1.heap.size w1 wx → SlAt CaseD.cells 3 S wx ca2 cc2 CS2) := Lib.hid (fun wx hb => he.2.rest (Rest.below (S := fun _ => False) (hb1.trans (hb.mono hb1.size))) (fun _ _ e => e.elim))
  obtain ⟨b, eb⟩ : ∃ b, w.heap.size = b := ⟨_, rfl⟩
  rw [eb] at x1 y1
  have KB : Hid (∀ wx, Below w1.heap.size w1 wx → FBox wx b ⟨na, ki, bi, li, ls, lo, hi, ba, ta, tc, T, of, tg, fr, ca, cc, CS, ch, ke⟩ ∧ FBox wx (b + 1) ⟨na2, ki2, bi2, li2, ls2, lo2, hi2, ba2, ta2, tc2, T2, of2, tg2, fr2, ca2, cc2, CS2, ch2, ke2⟩) := Lib.hid (fun wx hb => ⟨x1.below hb x1.lt, y1.below hb y1.lt⟩)
  have HW := Lib.hid hw
  have EB := Lib.hid eb
  have HB1 := Lib.hid hb1
  have HRR := Lib.hid hRR
  clear hd he hwa hw1 hw ba' b1 sa hb1 x1 y1 eb hRR
  show Calls Tryz.prog 53 #[.agg #[.string (strL na), .int .i64 ki, .int .i64 bi, .bool li, .bool ls, .int .i64 lo, .int .i64 hi, .int .i64 ba, .slice ta T.length tc, .string (strL of), .string (strL tg), .string (strL fr), .slice ca CS.length cc, .int .i64 ch, .int .i64 ke], .agg #[.string (strL na2), .int .i64 ki2, .int .i64 bi2, .bool li2, .bool ls2, .int .i64 lo2, .int .i64 hi2, .int .i64 ba2, .slice ta2 T2.length tc2, .string (strL of2), .string (strL tg2), .string (strL fr2), .slice ca2 CS2.length cc2, .int .i64 ch2, .int .i64 ke2]] w _
  go_enter Tryz.func53, Tryz.ntmps53
  go_upto_region 1 with fail
  rw [HW.out, EB.out]
  refine wp_region_lit ?_
  have hbx : Below w1.heap.size w1 w1 := Below.refl _ _
  -- na
  have cp0 : w1.cell? ⟨b, 0, none⟩ = some (.string (strL na)) := (KB.out w1 hbx).1.c0
  have cq0 : w1.cell? ⟨b + 1, 0, none⟩ = some (.string (strL na2)) := (KB.out w1 hbx).2.c0
  refine link_first (n := 101) (x := .pointer (some ⟨b, 0, none⟩)) (y := .pointer (some ⟨b + 1, 0, none⟩)) (p := 4) (D := []) (s := decide (na = na2)) (q2 := .pointer (some ⟨b, 0, none⟩)) (q3 := .pointer (some ⟨b + 1, 0, none⟩)) (u := .string (strL na)) (v := .string (strL na2)) rfl rfl rfl rfl (by decide) (by decide) rfl rfl rfl rfl rfl rfl rfl rfl rfl rfl (ex_one fun ρ h0 => by unfold execOp; simp only; rw [h0]; simp [go_sem]) (ex_one fun ρ h0 => by unfold execOp; simp only; rw [h0]; simp [go_sem, cp0]) (ex_one fun ρ h0 => by unfold execOp; simp only; rw [h0]; simp [go_sem]) (ex_one fun ρ h0 => by unfold execOp; simp only; rw [h0]; simp [go_sem, cq0]) (ex_eqlS rfl) rfl rfl rfl ?_
  intro a1 ch1
  clear cp0 cq0
  -- ki
  have cp1 : w1.cell? ⟨b, 1, none⟩ = some (.int .i64 ki) := (KB.out w1 hbx).1.c1
  have cq1 : w1.cell? ⟨b + 1, 1, none⟩ = some (.int .i64 ki2) := (KB.out w1 hbx).2.c1
  refine link_eql (p := 10) (s := decide (ki = ki2)) (q2 := .pointer (some ⟨b, 1, none⟩)) (q3 := .pointer (some ⟨b + 1, 1, none⟩)) (u := .int .i64 ki) (v := .int .i64 ki2) ch1 (by decide) (by decide) rfl rfl rfl rfl rfl rfl rfl rfl rfl rfl rfl (ex_one fun ρ h0 => by unfold execOp; simp only; rw [h0]; simp [go_sem]) (ex_one fun ρ h0 => by unfold execOp; simp only; rw [h0]; simp [go_sem, cp1]) (ex_one fun ρ h0 => by unfold execOp; simp only; rw [h0]; simp [go_sem]) (ex_one fun ρ h0 => by unfold execOp; simp only; rw [h0]; simp [go_sem, cq1]) (ex_eqlI rfl) rfl rfl rfl rfl rfl rfl ?_
  clear ch1
  intro a2 ch2
  clear cp1 cq1
  -- bi
  have cp2 : w1.cell? ⟨b, 2, none⟩ = some (.int .i64 bi) := (KB.out w1 hbx).1.c2
  have cq2 : w1.cell? ⟨b + 1, 2, none⟩ = some (.int .i64 bi2) := (KB.out w1 hbx).2.c2
  refine link_eql (p := 17) (s := decide (bi = bi2)) (q2 := .pointer (some ⟨b, 2, none⟩)) (q3 := .pointer (some ⟨b + 1, 2, none⟩)) (u := .int .i64 bi) (v := .int .i64 bi2) ch2 (by decide) (by decide) rfl rfl rfl rfl rfl rfl rfl rfl rfl rfl rfl (ex_one fun ρ h0 => by unfold execOp; simp only; rw [h0]; simp [go_sem]) (ex_one fun ρ h0 => by unfold execOp; simp only; rw [h0]; simp [go_sem, cp2]) (ex_one fun ρ h0 => by unfold execOp; simp only; rw [h0]; simp [go_sem]) (ex_one fun ρ h0 => by unfold execOp; simp only; rw [h0]; simp [go_sem, cq2]) (ex_eqlI rfl) rfl rfl rfl rfl rfl rfl ?_
  clear ch2
  intro a3 ch3
  clear cp2 cq2
  -- li
  have cp3 : w1.cell? ⟨b, 3, none⟩ = some (.bool li) := (KB.out w1 hbx).1.c3
  have cq3 : w1.cell? ⟨b + 1, 3, none⟩ = some (.bool li2) := (KB.out w1 hbx).2.c3
  refine link_eql (p := 24) (s := decide (li = li2)) (q2 := .pointer (some ⟨b, 3, none⟩)) (q3 := .pointer (some ⟨b + 1, 3, none⟩)) (u := .bool li) (v := .bool li2) ch3 (by decide) (by decide) rfl rfl rfl rfl rfl rfl rfl rfl rfl rfl rfl (ex_one fun ρ h0 => by unfold execOp; simp only; rw [h0]; simp [go_sem]) (ex_one fun ρ h0 => by unfold execOp; simp only; rw [h0]; simp [go_sem, cp3]) (ex_one fun ρ h0 => by unfold execOp; simp only; rw [h0]; simp [go_sem]) (ex_one fun ρ h0 => by unfold execOp; simp only; rw [h0]; simp [go_sem, cq3]) (ex_eqlB rfl (by kernel_rfl)) rfl rfl rfl rfl rfl rfl ?_
  clear ch3
  intro a4 ch4
  clear cp3 cq3
  -- ls
  have cp4 : w1.cell? ⟨b, 4, none⟩ = some (.bool ls) := (KB.out w1 hbx).1.c4
  have cq4 : w1.cell? ⟨b + 1, 4, none⟩ = some (.bool ls2) := (KB.out w1 hbx).2.c4
  refine link_eql (p := 31) (s := decide (ls = ls2)) (q2 := .pointer (some ⟨b, 4, none⟩)) (q3 := .pointer (some ⟨b + 1, 4, none⟩)) (u := .bool ls) (v := .bool ls2) ch4 (by decide) (by decide) rfl rfl rfl rfl rfl rfl rfl rfl rfl rfl rfl (ex_one fun ρ h0 => by unfold execOp; simp only; rw [h0]; simp [go_sem]) (ex_one fun ρ h0 => by unfold execOp; simp only; rw [h0]; simp [go_sem, cp4]) (ex_one fun ρ h0 => by unfold execOp; simp only; rw [h0]; simp [go_sem]) (ex_one fun ρ h0 => by unfold execOp; simp only; rw [h0]; simp [go_sem, cq4]) (ex_eqlB rfl (by kernel_rfl)) rfl rfl rfl rfl rfl rfl ?_
  clear ch4
  intro a5 ch5
  clear cp4 cq4
  -- lo
  have cp5 : w1.cell? ⟨b, 5, none⟩ = some (.int .i64 lo) := (KB.out w1 hbx).1.c5
  have cq5 : w1.cell? ⟨b + 1, 5, none⟩ = some (.int .i64 lo2) := (KB.out w1 hbx).2.c5
  refine link_eql (p := 38) (s := decide (lo = lo2)) (q2 := .pointer (some ⟨b, 5, none⟩)) (q3 := .pointer (some ⟨b + 1, 5, none⟩)) (u := .int .i64 lo) (v := .int .i64 lo2) ch5 (by decide) (by decide) rfl rfl rfl rfl rfl rfl rfl rfl rfl rfl rfl (ex_one fun ρ h0 => by unfold execOp; simp only; rw [h0]; simp [go_sem]) (ex_one fun ρ h0 => by unfold execOp; simp only; rw [h0]; simp [go_sem, cp5]) (ex_one fun ρ h0 => by unfold execOp; simp only; rw [h0]; simp [go_sem]) (ex_one fun ρ h0 => by unfold execOp; simp only; rw [h0]; simp [go_sem, cq5]) (ex_eqlI rfl) rfl rfl rfl rfl rfl rfl ?_
  clear ch5
  intro a6 ch6
  clear cp5 cq5
  -- hi
  have cp6 : w1.cell? ⟨b, 6, none⟩ = some (.int .i64 hi) := (KB.out w1 hbx).1.c6
  have cq6 : w1.cell? ⟨b + 1, 6, none⟩ = some (.int .i64 hi2) := (KB.out w1 hbx).2.c6
  refine link_eql (p := 45) (s := decide (hi = hi2)) (q2 := .pointer (some ⟨b, 6, none⟩)) (q3 := .pointer (some ⟨b + 1, 6, none⟩)) (u := .int .i64 hi) (v := .int .i64 hi2) ch6 (by decide) (by decide) rfl rfl rfl rfl rfl rfl rfl rfl rfl rfl rfl (ex_one fun ρ h0 => by unfold execOp; simp only; rw [h0]; simp [go_sem]) (ex_one fun ρ h0 => by unfold execOp; simp only; rw [h0]; simp [go_sem, cp6]) (ex_one fun ρ h0 => by unfold execOp; simp only; rw [h0]; simp [go_sem]) (ex_one fun ρ h0 => by unfold execOp; simp only; rw [h0]; simp [go_sem, cq6]) (ex_eqlI rfl) rfl rfl rfl rfl rfl rfl ?_
  clear ch6
  intro a7 ch7
  clear cp6 cq6
  -- S
  have cp7 : w1.cell? ⟨b, 7, none⟩ = some (.int .i64 ba) := (KB.out w1 hbx).1.c7
  have cp8 : w1.cell? ⟨b, 8, none⟩ = some (.slice ta T.length tc) := (KB.out w1 hbx).1.c8
  have cq7 : w1.cell? ⟨b + 1, 7, none⟩ = some (.int .i64 ba2) := (KB.out w1 hbx).2.c7
  have cq8 : w1.cell? ⟨b + 1, 8, none⟩ = some (.slice ta2 T2.length tc2) := (KB.out w1 hbx).2.c8
  refine link_call (p := 52) (s := (decide (ba = ba2) && decide (T = T2))) (f := 85) (q2 := .pointer (some ⟨b, 7, none⟩)) (q3 := .pointer (some ⟨b + 1, 7, none⟩)) (u := .agg #[.int .i64 ba, .slice ta T.length tc]) (v := .agg #[.int .i64 ba2, .slice ta2 T2.length tc2]) ch7 (by decide) (by decide) rfl rfl rfl rfl rfl rfl rfl rfl rfl rfl rfl (ex_one fun ρ h0 => by unfold execOp; simp only; rw [h0]; simp [go_sem]) (ex_one fun ρ h0 => by unfold execOp; simp only; rw [h0]; simp [go_sem, cp7, cp8]) (ex_one fun ρ h0 => by unfold execOp; simp only; rw [h0]; simp [go_sem]) (ex_one fun ρ h0 => by unfold execOp; simp only; rw [h0]; simp [go_sem, cq7, cq8]) (fun ρ h0 h1 h2 => by unfold execOp; simp [go_sem, resolve, h0, h1, h2]) (sameS_any ba ba2 ta ta2 tc tc2 T T2 S w1 (T1.out w1 hbx) (T2'.out w1 hbx)) rfl rfl rfl rfl rfl rfl ?_
  clear ch7
  intro a8 wS hbwS ch8
  have hwS : Below w1.heap.size w1 wS := hbx.trans (hbwS.mono hbx.size)
  clear cp7 cp8 cq7 cq8
  -- of
  have cp9 : wS.cell? ⟨b, 9, none⟩ = some (.string (strL of)) := (KB.out wS hwS).1.c9
  have cq9 : wS.cell? ⟨b + 1, 9, none⟩ = some (.string (strL of2)) := (KB.out wS hwS).2.c9
  refine link_eql (p := 59) (s := decide (of = of2)) (q2 := .pointer (some ⟨b, 9, none⟩)) (q3 := .pointer (some ⟨b + 1, 9, none⟩)) (u := .string (strL of)) (v := .string (strL of2)) ch8 (by decide) (by decide) rfl rfl rfl rfl rfl rfl rfl rfl rfl rfl rfl (ex_one fun ρ h0 => by unfold execOp; simp only; rw [h0]; simp [go_sem]) (ex_one fun ρ h0 => by unfold execOp; simp only; rw [h0]; simp [go_sem, cp9]) (ex_one fun ρ h0 => by unfold execOp; simp only; rw [h0]; simp [go_sem]) (ex_one fun ρ h0 => by unfold execOp; simp only; rw [h0]; simp [go_sem, cq9]) (ex_eqlS rfl) rfl rfl rfl rfl rfl rfl ?_
  clear ch8
  intro a9 ch9
  clear cp9 cq9
  -- tg
  have cp10 : wS.cell? ⟨b, 10, none⟩ = some (.string (strL tg)) := (KB.out wS hwS).1.c10
  have cq10 : wS.cell? ⟨b + 1, 10, none⟩ = some (.string (strL tg2)) := (KB.out wS hwS).2.c10
  refine link_eql (p := 66) (s := decide (tg = tg2)) (q2 := .pointer (some ⟨b, 10, none⟩)) (q3 := .pointer (some ⟨b + 1, 10, none⟩)) (u := .string (strL tg)) (v := .string (strL tg2)) ch9 (by decide) (by decide) rfl rfl rfl rfl rfl rfl rfl rfl rfl rfl rfl (ex_one fun ρ h0 => by unfold execOp; simp only; rw [h0]; simp [go_sem]) (ex_one fun ρ h0 => by unfold execOp; simp only; rw [h0]; simp [go_sem, cp10]) (ex_one fun ρ h0 => by unfold execOp; simp only; rw [h0]; simp [go_sem]) (ex_one fun ρ h0 => by unfold execOp; simp only; rw [h0]; simp [go_sem, cq10]) (ex_eqlS rfl) rfl rfl rfl rfl rfl rfl ?_
  clear ch9
  intro a10 ch10
  clear cp10 cq10
  -- fr
  have cp11 : wS.cell? ⟨b, 11, none⟩ = some (.string (strL fr)) := (KB.out wS hwS).1.c11
  have cq11 : wS.cell? ⟨b + 1, 11, none⟩ = some (.string (strL fr2)) := (KB.out wS hwS).2.c11
  refine link_eql (p := 73) (s := decide (fr = fr2)) (q2 := .pointer (some ⟨b, 11, none⟩)) (q3 := .pointer (some ⟨b + 1, 11, none⟩)) (u := .string (strL fr)) (v := .string (strL fr2)) ch10 (by decide) (by decide) rfl rfl rfl rfl rfl rfl rfl rfl rfl rfl rfl (ex_one fun ρ h0 => by unfold execOp; simp only; rw [h0]; simp [go_sem]) (ex_one fun ρ h0 => by unfold execOp; simp only; rw [h0]; simp [go_sem, cp11]) (ex_one fun ρ h0 => by unfold execOp; simp only; rw [h0]; simp [go_sem]) (ex_one fun ρ h0 => by unfold execOp; simp only; rw [h0]; simp [go_sem, cq11]) (ex_eqlS rfl) rfl rfl rfl rfl rfl rfl ?_
  clear ch10
  intro a11 ch11
  clear cp11 cq11
  -- C
  have cp12 : wS.cell? ⟨b, 12, none⟩ = some (.slice ca CS.length cc) := (KB.out wS hwS).1.c12
  have cq12 : wS.cell? ⟨b + 1, 12, none⟩ = some (.slice ca2 CS2.length cc2) := (KB.out wS hwS).2.c12
  refine link_call (p := 80) (s := decide (CS = CS2)) (f := 86) (q2 := .pointer (some ⟨b, 12, none⟩)) (q3 := .pointer (some ⟨b + 1, 12, none⟩)) (u := .slice ca CS.length cc) (v := .slice ca2 CS2.length cc2) ch11 (by decide) (by decide) rfl rfl rfl rfl rfl rfl rfl rfl rfl rfl rfl (ex_one fun ρ h0 => by unfold execOp; simp only; rw [h0]; simp [go_sem]) (ex_one fun ρ h0 => by unfold execOp; simp only; rw [h0]; simp [go_sem, cp12]) (ex_one fun ρ h0 => by unfold execOp; simp only; rw [h0]; simp [go_sem]) (ex_one fun ρ h0 => by unfold execOp; simp only; rw [h0]; simp [go_sem, cq12]) (fun ρ h0 h1 h2 => by unfold execOp; simp [go_sem, resolve, h0, h1, h2]) (sameC_any ca ca2 cc cc2 CS CS2 S wS (C1.out wS hwS) (C2.out wS hwS)) rfl rfl rfl rfl rfl rfl ?_
  clear ch11
  intro a12 wC hbwC ch12
  have hwC : Below w1.heap.size w1 wC := hwS.trans (hbwC.mono hwS.size)
  clear cp12 cq12
  -- ch
  have cp13 : wC.cell? ⟨b, 13, none⟩ = some (.int .i64 ch) := (KB.out wC hwC).1.c13
  have cq13 : wC.cell? ⟨b + 1, 13, none⟩ = some (.int .i64 ch2) := (KB.out wC hwC).2.c13
  refine link_eql (p := 87) (s := decide (ch = ch2)) (q2 := .pointer (some ⟨b, 13, none⟩)) (q3 := .pointer (some ⟨b + 1, 13, none⟩)) (u := .int .i64 ch) (v := .int .i64 ch2) ch12 (by decide) (by decide) rfl rfl rfl rfl rfl rfl rfl rfl rfl rfl rfl (ex_one fun ρ h0 => by unfold execOp; simp only; rw [h0]; simp [go_sem]) (ex_one fun ρ h0 => by unfold execOp; simp only; rw [h0]; simp [go_sem, cp13]) (ex_one fun ρ h0 => by unfold execOp; simp only; rw [h0]; simp [go_sem]) (ex_one fun ρ h0 => by unfold execOp; simp only; rw [h0]; simp [go_sem, cq13]) (ex_eqlI rfl) rfl rfl rfl rfl rfl rfl ?_
  clear ch12
  intro a13 ch13
  clear cp13 cq13
  -- ke
  have cp14 : wC.cell? ⟨b, 14, none⟩ = some (.int .i64 ke) := (KB.out wC hwC).1.c14
  have cq14 : wC.cell? ⟨b + 1, 14, none⟩ = some (.int .i64 ke2) := (KB.out wC hwC).2.c14
  refine link_last (p := 94) (s := decide (ke = ke2)) (q2 := .pointer (some ⟨b, 14, none⟩)) (q3 := .pointer (some ⟨b + 1, 14, none⟩)) (u := .int .i64 ke) (v := .int .i64 ke2) ch13 (by decide) (by decide) rfl rfl rfl rfl rfl rfl rfl rfl rfl rfl rfl (ex_one fun ρ h0 => by unfold execOp; simp only; rw [h0]; simp [go_sem]) (ex_one fun ρ h0 => by unfold execOp; simp only; rw [h0]; simp [go_sem, cp14]) (ex_one fun ρ h0 => by unfold execOp; simp only; rw [h0]; simp [go_sem]) (ex_one fun ρ h0 => by unfold execOp; simp only; rw [h0]; simp [go_sem, cq14]) (ex_eqlI rfl) rfl rfl rfl rfl rfl rfl ?_
  clear ch13
  intro a14 hz h4 hdf
  clear cp14 cq14
  refine wpList_nil ?_
  rw [HRR.out] at h4
  rename_i Q9 K9 hK9
  dsimp only [Exit.then]
  refine hK9 _ _ ?_
  apply wp_ret
  refine bodyPost_ret (v := .bool RR) ?_ hdf ⟨rfl, HB1.out.trans (hwC.mono HB1.out.size)⟩
  simp [results, Tryz.results53, go_sem, h4]
end Go.Proofs.YtbpkppmbbpoohaaGreat
