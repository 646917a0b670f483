/- The conditions of the kinds with one demand: until, headers, pad. Conditions: the examination lies in memory. -/
import Derived.Test.YteibnmnpebfefaaGb
namespace Go.Proofs.Yteibnmnpebfefaa
open Go.RowKit Go.Shelf

def headersR (d : FieldD) : Option Int := ifR (inB d.high 2 1048576) 7
set_option maxRecDepth 100000 in
set_option maxHeartbeats 1600000 in
theorem headers_any (x kr kk n cc : Nat) (m f : Int) (A : Option Addr) (d : FieldD) (w : World) (hx : ExAt w x m f kr A n cc kk) : Calls Try.prog 86 #[.pointer (some ⟨x, 0, none⟩), d.agg] w fun e w' => e = doE (headersR d) m f ∧ Below w.heap.size w w' := by
  unfold FieldD.agg
  have hal := below_alloc w (.cells #[.string (strL d.name), .int .i64 d.kind, .int .i64 d.bits, .bool d.little, .bool d.loose, .int .i64 d.low, .int .i64 d.high, .int .i64 d.base, .slice d.ta d.terms.length d.tc, .string (strL d.of_), .string (strL d.tag), .string (strL d.from_), .slice d.ca d.cases.length d.cc, .int .i64 d.check, .int .i64 d.key] 28)
  have hbx := FBox.new w d
  have hx1 := hx.below hal hx.lt
  obtain ⟨b, eb⟩ : ∃ b, w.heap.size = b := ⟨_, rfl⟩
  obtain ⟨w1, hw1⟩ : ∃ w1, w.alloc (.cells #[.string (strL d.name), .int .i64 d.kind, .int .i64 d.bits, .bool d.little, .bool d.loose, .int .i64 d.low, .int .i64 d.high, .int .i64 d.base, .slice d.ta d.terms.length d.tc, .string (strL d.of_), .string (strL d.tag), .string (strL d.from_), .slice d.ca d.cases.length d.cc, .int .i64 d.check, .int .i64 d.key] 28) = w1 := ⟨_, rfl⟩
  rw [hw1] at hal hbx hx1
  rw [eb] at hbx
  have HW := Lib.hid hw1
  have EB := Lib.hid eb
  have HAL := Lib.hid hal
  have HBX := Lib.hid hbx
  have HX := Lib.hid hx1
  clear hal hbx hx1 eb hw1 hx
  have y6 := HBX.out.c6
  have HD := fun b => Lib.hid (demand_any x kr kk n cc m f A b 7 w1 HX.out)
  obtain ⟨R, hR⟩ : ∃ R, headersR d = R := ⟨_, rfl⟩
  rw [hR]
  have HR := Lib.hid hR
  clear hR
  have HI := fun w => Lib.hid (withinS d.high 2 1048576 w)
  cases hc : inB d.high 2 1048576 <;> rw [hc] at HI

  · have hRn : R = some 7 := by rw [← HR.out]; unfold headersR ifR; rw [hc]; rfl
    have HRN := Lib.hid hRn
    clear hRn hc
    have HD := Lib.hid (HD false).out
    unfold ifR doE flawE at HD
    simp only [Bool.false_eq_true, if_false] at HD
    go_enter Try.func86, Try.ntmps86
    go_upto_region 1 with fail
    rw [HW.out, EB.out]
    go_wp2_with (go_at_call 41; refine ((HI _).out).mono ?_; rintro e w' ⟨rfl, rfl⟩)
    refine HD.out.mono ?_
    rintro e w2 ⟨rfl, hb2⟩
    exact ⟨rfl, by rw [HRN.out]; rfl, HAL.out.trans (hb2.mono HAL.out.size)⟩
  · have hRn : R = none := by rw [← HR.out]; unfold headersR ifR; rw [hc]; rfl
    have HRN := Lib.hid hRn
    clear hRn hc
    have HD := Lib.hid (HD true).out
    unfold ifR doE at HD
    simp only [if_true] at HD
    go_enter Try.func86, Try.ntmps86
    go_upto_region 1 with fail
    rw [HW.out, EB.out]
    go_wp2_with (go_at_call 41; refine ((HI _).out).mono ?_; rintro e w' ⟨rfl, rfl⟩)
    refine HD.out.mono ?_
    rintro e w2 ⟨rfl, hb2⟩
    have HB2 := Lib.hid (HAL.out.trans (hb2.mono HAL.out.size))
    clear hb2
    go_wp2_with fail
    go_end0
    exact ⟨by rw [HRN.out]; rfl, HB2.out⟩

def untilR (d : FieldD) : Option Int := ifR (inB d.low 0 255 && inB d.high 0 1048576) 7
set_option maxRecDepth 100000 in
set_option maxHeartbeats 1600000 in
theorem until_any (x kr kk n cc : Nat) (m f : Int) (A : Option Addr) (d : FieldD) (w : World) (hx : ExAt w x m f kr A n cc kk) : Calls Try.prog 85 #[.pointer (some ⟨x, 0, none⟩), d.agg] w fun e w' => e = doE (untilR d) m f ∧ Below w.heap.size w w' := by
  unfold FieldD.agg
  have hal := below_alloc w (.cells #[.string (strL d.name), .int .i64 d.kind, .int .i64 d.bits, .bool d.little, .bool d.loose, .int .i64 d.low, .int .i64 d.high, .int .i64 d.base, .slice d.ta d.terms.length d.tc, .string (strL d.of_), .string (strL d.tag), .string (strL d.from_), .slice d.ca d.cases.length d.cc, .int .i64 d.check, .int .i64 d.key] 28)
  have hbx := FBox.new w d
  have hx1 := hx.below hal hx.lt
  obtain ⟨b, eb⟩ : ∃ b, w.heap.size = b := ⟨_, rfl⟩
  obtain ⟨w1, hw1⟩ : ∃ w1, w.alloc (.cells #[.string (strL d.name), .int .i64 d.kind, .int .i64 d.bits, .bool d.little, .bool d.loose, .int .i64 d.low, .int .i64 d.high, .int .i64 d.base, .slice d.ta d.terms.length d.tc, .string (strL d.of_), .string (strL d.tag), .string (strL d.from_), .slice d.ca d.cases.length d.cc, .int .i64 d.check, .int .i64 d.key] 28) = w1 := ⟨_, rfl⟩
  rw [hw1] at hal hbx hx1
  rw [eb] at hbx
  have HW := Lib.hid hw1
  have EB := Lib.hid eb
  have HAL := Lib.hid hal
  have HBX := Lib.hid hbx
  have HX := Lib.hid hx1
  clear hal hbx hx1 eb hw1 hx
  have y5 := HBX.out.c5
  have y6 := HBX.out.c6
  have HD := fun b => Lib.hid (demand_any x kr kk n cc m f A b 7 w1 HX.out)
  obtain ⟨R, hR⟩ : ∃ R, untilR d = R := ⟨_, rfl⟩
  rw [hR]
  have HR := Lib.hid hR
  clear hR
  have HI := fun w => Lib.hid (withinS d.low 0 255 w)
  have HJ := fun w => Lib.hid (withinS d.high 0 1048576 w)
  cases hc : inB d.low 0 255 <;> rw [hc] at HI

  · have hRn : R = some 7 := by rw [← HR.out]; unfold untilR ifR; rw [hc]; rfl
    have HRN := Lib.hid hRn
    clear hRn hc HJ
    have HD := Lib.hid (HD false).out
    unfold ifR doE flawE at HD
    simp only [Bool.false_eq_true, if_false] at HD
    go_enter Try.func85, Try.ntmps85
    go_upto_region 1 with fail
    rw [HW.out, EB.out]
    go_wp2_with (go_at_call 41; refine ((HI _).out).mono ?_; rintro e w' ⟨rfl, rfl⟩)
    refine HD.out.mono ?_
    rintro e w2 ⟨rfl, hb2⟩
    exact ⟨rfl, by rw [HRN.out]; rfl, HAL.out.trans (hb2.mono HAL.out.size)⟩
  · cases hc2 : inB d.high 0 1048576 <;> rw [hc2] at HJ
    · have hRn : R = some 7 := by rw [← HR.out]; unfold untilR ifR; rw [hc, hc2]; rfl
      have HRN := Lib.hid hRn
      clear hRn hc hc2
      have HD := Lib.hid (HD false).out
      unfold ifR doE flawE at HD
      simp only [Bool.false_eq_true, if_false] at HD
      go_enter Try.func85, Try.ntmps85
      go_upto_region 1 with fail
      rw [HW.out, EB.out]
      go_wp2_with (first | (go_at_call 41; with_reducible refine ((HI _).out).mono ?_; rintro e w' ⟨rfl, rfl⟩) | (go_at_call 41; with_reducible refine ((HJ _).out).mono ?_; rintro e w' ⟨rfl, rfl⟩))
      refine HD.out.mono ?_
      rintro e w2 ⟨rfl, hb2⟩
      exact ⟨rfl, by rw [HRN.out]; rfl, HAL.out.trans (hb2.mono HAL.out.size)⟩
    · have hRn : R = none := by rw [← HR.out]; unfold untilR ifR; rw [hc, hc2]; rfl
      have HRN := Lib.hid hRn
      clear hRn hc hc2
      have HD := Lib.hid (HD true).out
      unfold ifR doE at HD
      simp only [if_true] at HD
      go_enter Try.func85, Try.ntmps85
      go_upto_region 1 with fail
      rw [HW.out, EB.out]
      go_wp2_with (first | (go_at_call 41; with_reducible refine ((HI _).out).mono ?_; rintro e w' ⟨rfl, rfl⟩) | (go_at_call 41; with_reducible refine ((HJ _).out).mono ?_; rintro e w' ⟨rfl, rfl⟩))
      refine HD.out.mono ?_
      rintro e w2 ⟨rfl, hb2⟩
      have HB2 := Lib.hid (HAL.out.trans (hb2.mono HAL.out.size))
      clear hb2
      go_wp2_with fail
      go_end0
      exact ⟨by rw [HRN.out]; rfl, HB2.out⟩

def padR (d : FieldD) : Option Int := ifR (d.bits == 2 || d.bits == 4 || inB d.bits 8 512 && d.bits % 8 == 0) 6
set_option maxRecDepth 100000 in
set_option maxHeartbeats 1600000 in
theorem pad_any (x kr kk n cc : Nat) (m f : Int) (A : Option Addr) (d : FieldD) (w : World) (hx : ExAt w x m f kr A n cc kk) : Calls Try.prog 90 #[.pointer (some ⟨x, 0, none⟩), d.agg] w fun e w' => e = doE (padR d) m f ∧ Below w.heap.size w w' := by
  unfold FieldD.agg
  have hal := below_alloc w (.cells #[.string (strL d.name), .int .i64 d.kind, .int .i64 d.bits, .bool d.little, .bool d.loose, .int .i64 d.low, .int .i64 d.high, .int .i64 d.base, .slice d.ta d.terms.length d.tc, .string (strL d.of_), .string (strL d.tag), .string (strL d.from_), .slice d.ca d.cases.length d.cc, .int .i64 d.check, .int .i64 d.key] 28)
  have hbx := FBox.new w d
  have hx1 := hx.below hal hx.lt
  obtain ⟨b, eb⟩ : ∃ b, w.heap.size = b := ⟨_, rfl⟩
  obtain ⟨w1, hw1⟩ : ∃ w1, w.alloc (.cells #[.string (strL d.name), .int .i64 d.kind, .int .i64 d.bits, .bool d.little, .bool d.loose, .int .i64 d.low, .int .i64 d.high, .int .i64 d.base, .slice d.ta d.terms.length d.tc, .string (strL d.of_), .string (strL d.tag), .string (strL d.from_), .slice d.ca d.cases.length d.cc, .int .i64 d.check, .int .i64 d.key] 28) = w1 := ⟨_, rfl⟩
  rw [hw1] at hal hbx hx1
  rw [eb] at hbx
  have HW := Lib.hid hw1
  have EB := Lib.hid eb
  have HAL := Lib.hid hal
  have HBX := Lib.hid hbx
  have HX := Lib.hid hx1
  clear hal hbx hx1 eb hw1 hx
  have y2 := HBX.out.c2
  have HD := fun b => Lib.hid (demand_any x kr kk n cc m f A b 6 w1 HX.out)
  obtain ⟨R, hR⟩ : ∃ R, padR d = R := ⟨_, rfl⟩
  rw [hR]
  have HR := Lib.hid hR
  clear hR
  have HI := fun w => Lib.hid (withinS d.bits 8 512 w)
  by_cases h2 : d.bits = 2

  · have hRn : R = none := by rw [← HR.out]; unfold padR ifR; simp [h2]
    have e2 : (d.bits == 2) = true := by simp [h2]
    have HRN := Lib.hid hRn
    clear hRn h2 HI
    have HD := Lib.hid (HD true).out
    unfold ifR doE at HD
    simp only [if_true] at HD
    go_enter Try.func90, Try.ntmps90
    go_upto_region 1 with fail
    rw [HW.out, EB.out]
    go_wp2_with fail
    refine HD.out.mono ?_
    rintro e w2 ⟨rfl, hb2⟩
    have HB2 := Lib.hid (HAL.out.trans (hb2.mono HAL.out.size))
    clear hb2
    go_wp2_with fail
    go_end0
    exact ⟨by rw [HRN.out]; rfl, HB2.out⟩
  · have e2 : (d.bits == 2) = false := by simp [h2]
    by_cases h4 : d.bits = 4
    · have hRn : R = none := by rw [← HR.out]; unfold padR ifR; simp [h4]
      have e4 : (d.bits == 4) = true := by simp [h4]
      have HRN := Lib.hid hRn
      clear hRn h2 h4 HI
      have HD := Lib.hid (HD true).out
      unfold ifR doE at HD
      simp only [if_true] at HD
      go_enter Try.func90, Try.ntmps90
      go_upto_region 1 with fail
      rw [HW.out, EB.out]
      go_wp2_with fail
      refine HD.out.mono ?_
      rintro e w2 ⟨rfl, hb2⟩
      have HB2 := Lib.hid (HAL.out.trans (hb2.mono HAL.out.size))
      clear hb2
      go_wp2_with fail
      go_end0
      exact ⟨by rw [HRN.out]; rfl, HB2.out⟩
    · have e4 : (d.bits == 4) = false := by simp [h4]
      cases hc : inB d.bits 8 512 <;> rw [hc] at HI
      · have hRn : R = some 6 := by rw [← HR.out]; unfold padR ifR; rw [e2, e4, hc]; rfl
        have HRN := Lib.hid hRn
        clear hRn h2 h4 hc
        have HD := Lib.hid (HD false).out
        unfold ifR doE flawE at HD
        simp only [Bool.false_eq_true, if_false] at HD
        go_enter Try.func90, Try.ntmps90
        go_upto_region 1 with fail
        rw [HW.out, EB.out]
        go_wp2_with (go_at_call 41; refine ((HI _).out).mono ?_; rintro e w' ⟨rfl, rfl⟩)
        refine HD.out.mono ?_
        rintro e w2 ⟨rfl, hb2⟩
        exact ⟨rfl, by rw [HRN.out]; rfl, HAL.out.trans (hb2.mono HAL.out.size)⟩
      · have hb : 8 ≤ d.bits ∧ d.bits ≤ 512 := by simpa [inB] using hc
        obtain ⟨hb1, hb2⟩ := hb
        obtain ⟨r, hr⟩ : ∃ r, d.bits % 8 = r := ⟨_, rfl⟩
        have hrt : Int.tmod d.bits 8 = r := by rw [← hr]; exact Int.tmod_eq_emod_of_nonneg (by omega)
        by_cases h0 : r = 0
        · have hRn : R = none := by rw [← HR.out]; unfold padR ifR; rw [e2, e4, hc, hr, h0]; rfl
          have e0 : (r == 0) = true := by simp [h0]
          have HRN := Lib.hid hRn
          clear hRn h2 h4 hc h0
          have HD := Lib.hid (HD true).out
          unfold ifR doE at HD
          simp only [if_true] at HD
          go_enter Try.func90, Try.ntmps90
          go_upto_region 1 with fail
          rw [HW.out, EB.out]
          go_wp2_with (go_at_call 41; refine ((HI _).out).mono ?_; rintro e w' ⟨rfl, rfl⟩)
          refine HD.out.mono ?_
          rintro e w2 ⟨rfl, hb2⟩
          have HB2 := Lib.hid (HAL.out.trans (hb2.mono HAL.out.size))
          clear hb2
          go_wp2_with fail
          go_end0
          exact ⟨by rw [HRN.out]; rfl, HB2.out⟩
        · have hRn : R = some 6 := by rw [← HR.out]; unfold padR ifR; rw [e2, e4, hc, hr]; simp [h0]
          have e0 : (r == 0) = false := by simp [h0]
          have HRN := Lib.hid hRn
          clear hRn h2 h4 hc h0
          have HD := Lib.hid (HD false).out
          unfold ifR doE flawE at HD
          simp only [Bool.false_eq_true, if_false] at HD
          go_enter Try.func90, Try.ntmps90
          go_upto_region 1 with fail
          rw [HW.out, EB.out]
          go_wp2_with (go_at_call 41; refine ((HI _).out).mono ?_; rintro e w' ⟨rfl, rfl⟩)
          refine HD.out.mono ?_
          rintro e w2 ⟨rfl, hb2⟩
          exact ⟨rfl, by rw [HRN.out]; rfl, HAL.out.trans (hb2.mono HAL.out.size)⟩
end Go.Proofs.Yteibnmnpebfefaa
