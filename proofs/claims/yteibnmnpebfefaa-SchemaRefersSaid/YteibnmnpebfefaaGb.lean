/- The conditions of the kinds that are of numbers alone. Conditions: the examination lies in memory. -/
import Derived.Test.YteibnmnpebfefaaGa
namespace Go.Proofs.Yteibnmnpebfefaa
open Go.RowKit Go.Shelf

theorem demand_any (x kr kk n cc : Nat) (m f : Int) (A : Option Addr) (b : Bool) (c : Int) (w : World) (h : ExAt w x m f kr A n cc kk) : Calls Try.prog 93 #[.pointer (some ⟨x, 0, none⟩), .bool b, .int .i64 c] w fun e w' => e = doE (ifR b c) m f ∧ Below w.heap.size w w' := by
  cases b with
  | true => exact (demand_ok _ c w).mono fun e w' ⟨h1, h2⟩ => ⟨h1, by rw [h2]; exact Below.refl _ _⟩
  | false => exact demand_bad x kr kk n cc m f A c w h

def belowR (lim : Int) (d : FieldD) : Option Int := ifR (decide (0 ≤ d.low) && decide (d.low ≤ d.high) && decide (d.high < lim)) 7

section
variable (x kr kk n cc : Nat) (m f : Int) (A : Option Addr) (d : FieldD) (w : World)
set_option maxRecDepth 100000 in
set_option maxHeartbeats 1600000 in
theorem below_any (lim : Int) (hx : ExAt w x m f kr A n cc kk) : Calls Try.prog 104 #[.pointer (some ⟨x, 0, none⟩), .int .i64 lim, d.agg] w fun e w' => e = doE (belowR lim d) m f ∧ Below w.heap.size w w' := by
  unfold FieldD.agg
  have hal := below_alloc w (.cells #[.string (strL d.name), .int .i64 d.kind, .int .i64 d.bits, .bool d.little, .bool d.loose, .int .i64 d.low, .int .i64 d.high, .int .i64 d.base, .slice d.ta d.terms.length d.tc, .string (strL d.of_), .string (strL d.tag), .string (strL d.from_), .slice d.ca d.cases.length d.cc, .int .i64 d.check, .int .i64 d.key] 28)
  have hbx := FBox.new w d
  have hx1 := hx.below hal hx.lt
  obtain ⟨b, eb⟩ : ∃ b, w.heap.size = b := ⟨_, rfl⟩
  obtain ⟨w1, hw1⟩ : ∃ w1, w.alloc (.cells #[.string (strL d.name), .int .i64 d.kind, .int .i64 d.bits, .bool d.little, .bool d.loose, .int .i64 d.low, .int .i64 d.high, .int .i64 d.base, .slice d.ta d.terms.length d.tc, .string (strL d.of_), .string (strL d.tag), .string (strL d.from_), .slice d.ca d.cases.length d.cc, .int .i64 d.check, .int .i64 d.key] 28) = w1 := ⟨_, rfl⟩
  rw [hw1] at hal hbx hx1
  rw [eb] at hbx
  have HW := Lib.hid hw1
  have EB := Lib.hid eb
  have HAL := Lib.hid hal
  have HBX := Lib.hid hbx
  have HX := Lib.hid hx1
  clear hal hbx hx1 eb hw1 hx
  have y5 := HBX.out.c5
  have y6 := HBX.out.c6
  have HD := fun b => Lib.hid (demand_any x kr kk n cc m f A b 7 w1 HX.out)
  obtain ⟨R, hR⟩ : ∃ R, belowR lim d = R := ⟨_, rfl⟩
  rw [hR]
  have HR := Lib.hid hR
  clear hR
  by_cases hc : 0 ≤ d.low ∧ d.low ≤ d.high ∧ d.high < lim
  · obtain ⟨h1, h2, h3⟩ := hc
    have hRn : R = none := by rw [← HR.out]; simp [belowR, ifR, h1, h2, h3]
    have HRN := Lib.hid hRn
    have HD := Lib.hid (HD true).out
    unfold ifR doE at HD
    simp only [if_true] at HD
    clear hRn
    go_enter Try.func104, Try.ntmps104
    go_upto_region 1 with fail
    rw [HW.out, EB.out]
    go_wp2_with fail
    refine HD.out.mono ?_
    rintro e w2 ⟨rfl, hb2⟩
    have HB2 := Lib.hid (HAL.out.trans (hb2.mono HAL.out.size))
    clear hb2
    go_wp2_with fail
    go_end0
    exact ⟨by rw [HRN.out]; rfl, HB2.out⟩
  · have hRn : R = some 7 := by
      rw [← HR.out]
      unfold belowR ifR
      rw [if_neg]
      simp only [Bool.and_eq_true, decide_eq_true_eq]
      exact fun h => hc ⟨h.1.1, h.1.2, h.2⟩
    have HRN := Lib.hid hRn
    have HD := Lib.hid (HD false).out
    unfold ifR doE flawE at HD
    simp only [Bool.false_eq_true, if_false] at HD
    have hcs : ¬ 0 ≤ d.low ∨ (0 ≤ d.low ∧ ¬ d.low ≤ d.high) ∨ (0 ≤ d.low ∧ d.low ≤ d.high ∧ ¬ d.high < lim) := by omega
    clear hRn hc
    rcases hcs with h1 | ⟨h1, h2⟩ | ⟨h1, h2, h3⟩
    all_goals
      go_enter Try.func104, Try.ntmps104
      go_upto_region 1 with fail
      rw [HW.out, EB.out]
      go_wp2_with fail
      refine HD.out.mono ?_
      rintro e w2 ⟨rfl, hb2⟩
      exact ⟨rfl, by rw [HRN.out]; rfl, HAL.out.trans (hb2.mono HAL.out.size)⟩
end
end Go.Proofs.Yteibnmnpebfefaa
