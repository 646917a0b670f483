/- The document's answers on a field: Number, HasValue, Range, Case. Conditions: the cases lie in memory. -/
import Derived.Test.YteibnmnpebfefaaJj
import Derived.Test.YteibnmnpebfefaaIe
import Derived.BigQuiet
namespace Go.Proofs.Yteibnmnpebfefaa
open Go.RowKit Go.Shelf

theorem numB_eq (d : FieldD) : numB d = (decide (1 ≤ d.kind) && decide (d.kind ≤ 3)) := by
  rw [Bool.eq_iff_iff]; simp [numB]; omega

set_option maxRecDepth 100000 in
set_option maxHeartbeats 1600000 in
theorem refNumber_any (d : FieldD) (w : World) : Calls Try.prog 14 #[d.agg] w fun e w' => e = .returned (.bool (numB d)) ∧ Below w.heap.size w w' := by
  unfold FieldD.agg
  have hal := below_alloc w (.cells #[.string (strL d.name), .int .i64 d.kind, .int .i64 d.bits, .bool d.little, .bool d.loose, .int .i64 d.low, .int .i64 d.high, .int .i64 d.base, .slice d.ta d.terms.length d.tc, .string (strL d.of_), .string (strL d.tag), .string (strL d.from_), .slice d.ca d.cases.length d.cc, .int .i64 d.check, .int .i64 d.key] 28)
  have hbx := FBox.new w d
  obtain ⟨b, eb⟩ : ∃ b, w.heap.size = b := ⟨_, rfl⟩
  obtain ⟨w1, hw1⟩ : ∃ w1, w.alloc (.cells #[.string (strL d.name), .int .i64 d.kind, .int .i64 d.bits, .bool d.little, .bool d.loose, .int .i64 d.low, .int .i64 d.high, .int .i64 d.base, .slice d.ta d.terms.length d.tc, .string (strL d.of_), .string (strL d.tag), .string (strL d.from_), .slice d.ca d.cases.length d.cc, .int .i64 d.check, .int .i64 d.key] 28) = w1 := ⟨_, rfl⟩
  rw [hw1] at hal hbx
  rw [eb] at hbx
  have HW := Lib.hid hw1
  have EB := Lib.hid eb
  have HAL := Lib.hid hal
  have y1 := hbx.c1
  obtain ⟨s1, e1⟩ : ∃ s, decide (1 ≤ d.kind) = s := ⟨_, rfl⟩
  obtain ⟨s2, e2⟩ : ∃ s, decide (d.kind ≤ 3) = s := ⟨_, rfl⟩
  have hr : numB d = (s1 && s2) := by rw [numB_eq, e1, e2]
  rw [hr]
  clear hal hbx eb hw1 hr
  cases s1 <;> cases s2
  all_goals
    go_enter Try.func14, Try.ntmps14
    go_upto_region 1 with fail
    rw [HW.out, EB.out]
    go_wp2_with fail
    go_ret
    exact ⟨rfl, HAL.out⟩

set_option maxRecDepth 100000 in
set_option maxHeartbeats 1600000 in
theorem refHasvalue_any (d : FieldD) (w : World) : Calls Try.prog 16 #[d.agg] w fun e w' => e = .returned (.bool (hasvB d)) ∧ Below w.heap.size w w' := by
  unfold FieldD.agg
  have hal := below_alloc w (.cells #[.string (strL d.name), .int .i64 d.kind, .int .i64 d.bits, .bool d.little, .bool d.loose, .int .i64 d.low, .int .i64 d.high, .int .i64 d.base, .slice d.ta d.terms.length d.tc, .string (strL d.of_), .string (strL d.tag), .string (strL d.from_), .slice d.ca d.cases.length d.cc, .int .i64 d.check, .int .i64 d.key] 28)
  have hbx := FBox.new w d
  obtain ⟨b, eb⟩ : ∃ b, w.heap.size = b := ⟨_, rfl⟩
  obtain ⟨w1, hw1⟩ : ∃ w1, w.alloc (.cells #[.string (strL d.name), .int .i64 d.kind, .int .i64 d.bits, .bool d.little, .bool d.loose, .int .i64 d.low, .int .i64 d.high, .int .i64 d.base, .slice d.ta d.terms.length d.tc, .string (strL d.of_), .string (strL d.tag), .string (strL d.from_), .slice d.ca d.cases.length d.cc, .int .i64 d.check, .int .i64 d.key] 28) = w1 := ⟨_, rfl⟩
  rw [hw1] at hal hbx
  rw [eb] at hbx
  have HW := Lib.hid hw1
  have EB := Lib.hid eb
  have HAL := Lib.hid hal
  have y1 := hbx.c1
  obtain ⟨s2, e2⟩ : ∃ s, (d.kind == 2) = s := ⟨_, rfl⟩
  obtain ⟨s10, e10⟩ : ∃ s, (d.kind == 10) = s := ⟨_, rfl⟩
  obtain ⟨s11, e11⟩ : ∃ s, (d.kind == 11) = s := ⟨_, rfl⟩
  obtain ⟨R, hR⟩ : ∃ R, hasvB d = R := ⟨_, rfl⟩
  have hr : R = (!s2 && !s10 && !s11) := by rw [← hR]; unfold hasvB; rw [e2, e10, e11]
  rw [hR]
  have HR := Lib.hid hr
  have f2 : (d.kind != 2) = !s2 := by rw [← e2]; rfl
  have f10 : (d.kind != 10) = !s10 := by rw [← e10]; rfl
  have f11 : (d.kind != 11) = !s11 := by rw [← e11]; rfl
  clear hal hbx eb hw1 hR hr
  cases s2
  · cases s10
    · cases s11
      all_goals
        go_enter Try.func16, Try.ntmps16
        go_upto_region 1 with fail
        rw [HW.out, EB.out]
        go_wp2_with fail
        go_ret
        exact ⟨ret_bool HR.out.symm, HAL.out⟩
    · go_enter Try.func16, Try.ntmps16
      go_upto_region 1 with fail
      rw [HW.out, EB.out]
      go_wp2_with fail
      go_ret
      exact ⟨ret_bool HR.out.symm, HAL.out⟩
  · go_enter Try.func16, Try.ntmps16
    go_upto_region 1 with fail
    rw [HW.out, EB.out]
    go_wp2_with fail
    go_ret
    exact ⟨ret_bool HR.out.symm, HAL.out⟩

set_option maxRecDepth 100000 in
set_option maxHeartbeats 1600000 in
theorem refRange_any (d : FieldD) (w : World) : Calls Try.prog 17 #[d.agg] w fun e w' => e = .returned (.tuple #[.int .i64 (ranP d).1, .int .i64 (ranP d).2]) ∧ Below w.heap.size w w' := by
  unfold FieldD.agg
  have hal := below_alloc w (.cells #[.string (strL d.name), .int .i64 d.kind, .int .i64 d.bits, .bool d.little, .bool d.loose, .int .i64 d.low, .int .i64 d.high, .int .i64 d.base, .slice d.ta d.terms.length d.tc, .string (strL d.of_), .string (strL d.tag), .string (strL d.from_), .slice d.ca d.cases.length d.cc, .int .i64 d.check, .int .i64 d.key] 28)
  have hbx := FBox.new w d
  obtain ⟨b, eb⟩ : ∃ b, w.heap.size = b := ⟨_, rfl⟩
  obtain ⟨w1, hw1⟩ : ∃ w1, w.alloc (.cells #[.string (strL d.name), .int .i64 d.kind, .int .i64 d.bits, .bool d.little, .bool d.loose, .int .i64 d.low, .int .i64 d.high, .int .i64 d.base, .slice d.ta d.terms.length d.tc, .string (strL d.of_), .string (strL d.tag), .string (strL d.from_), .slice d.ca d.cases.length d.cc, .int .i64 d.check, .int .i64 d.key] 28) = w1 := ⟨_, rfl⟩
  rw [hw1] at hal hbx
  rw [eb] at hbx
  have HW := Lib.hid hw1
  have EB := Lib.hid eb
  have HAL := Lib.hid hal
  have y1 := hbx.c1
  have y5 := hbx.c5
  have y6 := hbx.c6
  obtain ⟨⟨a, c⟩, hR⟩ : ∃ R, ranP d = R := ⟨_, rfl⟩
  rw [hR]
  have HR := Lib.hid hR
  obtain ⟨s2, e2⟩ : ∃ s, (d.kind == 2) = s := ⟨_, rfl⟩
  clear hal hbx eb hw1 hR
  cases s2
  · have hR : (d.low, d.high) = (a, c) := by
      have := HR.out
      unfold ranP at this
      rwa [e2, if_neg (by simp)] at this
    simp only [Prod.mk.injEq] at hR
    obtain ⟨rfl, rfl⟩ := hR
    clear HR
    go_enter Try.func17, Try.ntmps17
    go_upto_region 1 with fail
    rw [HW.out, EB.out]
    go_wp2_with fail
    go_quiet (fail)
    go_wp2_with fail
    go_ret2
    exact ⟨rfl, HAL.out.trans ((below_drewN _ _).mono HAL.out.size)⟩
  · have hR : (d.low, d.low) = (a, c) := by
      have := HR.out
      unfold ranP at this
      rwa [e2, if_pos rfl] at this
    simp only [Prod.mk.injEq] at hR
    obtain ⟨rfl, rfl⟩ := hR
    clear HR
    go_enter Try.func17, Try.ntmps17
    go_upto_region 1 with fail
    rw [HW.out, EB.out]
    go_wp2_with fail
    go_quiet (fail)
    go_wp2_with fail
    go_ret2
    exact ⟨rfl, HAL.out.trans ((below_drewN _ _).mono HAL.out.size)⟩

set_option maxRecDepth 100000 in
set_option maxHeartbeats 1600000 in
theorem refCase_any (d : FieldD) (s : Int) (S : Nat → Prop) (w : World) (h : SlAt CaseD.cells 3 S w d.ca d.cc d.cases) :
    Calls Try.prog 12 #[d.agg, .int .i64 s] w fun e w' => e = .returned (.int .i64 (idxOf (fun c : CaseD => inB s c.lo c.hi) d.cases)) ∧ Below w.heap.size w w' := by
  have hl : d.cases.length ≤ 9223372036854775807 := Nat.le_trans h.1 h.2.1
  unfold FieldD.agg
  have hal := below_alloc w (.cells #[.string (strL d.name), .int .i64 d.kind, .int .i64 d.bits, .bool d.little, .bool d.loose, .int .i64 d.low, .int .i64 d.high, .int .i64 d.base, .slice d.ta d.terms.length d.tc, .string (strL d.of_), .string (strL d.tag), .string (strL d.from_), .slice d.ca d.cases.length d.cc, .int .i64 d.check, .int .i64 d.key] 28)
  have hbx := FBox.new w d
  have h1 := h.below hal
  obtain ⟨b, eb⟩ : ∃ b, w.heap.size = b := ⟨_, rfl⟩
  obtain ⟨w1, hw1⟩ : ∃ w1, w.alloc (.cells #[.string (strL d.name), .int .i64 d.kind, .int .i64 d.bits, .bool d.little, .bool d.loose, .int .i64 d.low, .int .i64 d.high, .int .i64 d.base, .slice d.ta d.terms.length d.tc, .string (strL d.of_), .string (strL d.tag), .string (strL d.from_), .slice d.ca d.cases.length d.cc, .int .i64 d.check, .int .i64 d.key] 28) = w1 := ⟨_, rfl⟩
  rw [hw1] at hal hbx h1
  rw [eb] at hbx
  have HW := Lib.hid hw1
  have EB := Lib.hid eb
  have HAL := Lib.hid hal
  have y1 := hbx.c12
  have H := Lib.hid h1
  obtain ⟨R, hR⟩ : ∃ R, idxOf (fun c : CaseD => inB s c.lo c.hi) d.cases = R := ⟨_, rfl⟩
  rw [hR]
  have HR := Lib.hid hR
  clear hal hbx eb hw1 h h1 hR
  go_enter Try.func12, Try.ntmps12
  go_upto_region 1 with fail
  rw [HW.out, EB.out]
  go_wp2_with fail
  go_loop [5] (fun x5 => ∃ i : Nat, i ≤ d.cases.length ∧ x5 = .int .i64 ((i : Nat) : Int) ∧ ∀ x ∈ d.cases.take i, inB s x.lo x.hi = false) (fun x5 => d.cases.length - (intOf x5).toNat)
  case atStart => exact ⟨0, Nat.zero_le _, rfl, by simp⟩
  case round =>
    obtain ⟨i, hi, rfl, hb⟩ := hrel
    have HB := Lib.hid hb
    clear hb
    by_cases hlt : i < d.cases.length
    · obtain ⟨c, hc⟩ : ∃ c, d.cases[i]? = some c := ⟨_, List.getElem?_eq_getElem hlt⟩
      obtain ⟨g, o, hA, hx⟩ := H.out.at_ hc
      have y2 := y1
      rw [hA] at y2
      have x0 : w1.cell? ⟨g, o + i * 3, none⟩ = some (.int .i64 c.lo) := hx 0 _ rfl
      have x1 : w1.cell? ⟨g, o + i * 3 + 1, none⟩ = some (.int .i64 c.hi) := hx 1 _ rfl
      have HC := Lib.hid hc
      clear hA hx hc y1
      by_cases h1 : c.lo ≤ s
      · have e1 : decide (c.lo ≤ s) = true := by simpa using h1
        by_cases h2 : s ≤ c.hi
        · have e2 : decide (s ≤ c.hi) = true := by simpa using h2
          have hRi : R = ((i : Nat) : Int) := by rw [← HR.out]; exact idx_hit HC.out HB.out (by show inB s c.lo c.hi = true; simp [inB, h1, h2])
          have HRI := Lib.hid hRi
          clear hRi h1 h2
          go_wp2_with fail
          go_ret
          exact ⟨ret_int HRI.out.symm, HAL.out⟩
        · have e2 : decide (s ≤ c.hi) = false := by simpa using h2
          have HN := Lib.hid (take_none (p := fun c : CaseD => inB s c.lo c.hi) HC.out HB.out (by show inB s c.lo c.hi = false; simp [inB, h2]))
          clear h1 h2
          go_wp2_with fail
          go_round
          case rel => exact ⟨i + 1, by omega, by go_num, HN.out⟩
          case measure => simp [intOf]; omega
      · have e1 : decide (c.lo ≤ s) = false := by simpa using h1
        have HN := Lib.hid (take_none (p := fun c : CaseD => inB s c.lo c.hi) HC.out HB.out (by show inB s c.lo c.hi = false; simp [inB, h1]))
        clear h1
        go_wp2_with fail
        go_round
        case rel => exact ⟨i + 1, by omega, by go_num, HN.out⟩
        case measure => simp [intOf]; omega
    · obtain rfl : i = d.cases.length := by omega
      have hRi : R = -1 := by rw [← HR.out]; refine idx_miss ?_; have := HB.out; rwa [List.take_length] at this
      have HRI := Lib.hid hRi
      clear hRi
      go_wp2_with fail
      go_ret
      exact ⟨ret_int HRI.out.symm, HAL.out⟩
end Go.Proofs.Yteibnmnpebfefaa
