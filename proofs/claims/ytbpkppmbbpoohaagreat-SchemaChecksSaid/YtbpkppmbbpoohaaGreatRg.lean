/- The iterator of a slice of texts, for a body that knows which text it is given. Conditions: the texts lie in memory, and the body of the loop leaves them as they are. The conditions of the kinds that are of numbers alone. Conditions: the examination lies in memory. The conditions of the kinds with one demand: until, headers, pad. Conditions: the examination lies in memory. -/
import Derived.Test.YtbpkppmbbpoohaaGreatRf
import Derived.Test.YtbpkppmbbpoohaaGreatGa
namespace Go.Proofs.YtbpkppmbbpoohaaGreat
open Go.RowKit Go.Shelf
attribute [local go_sem] Oper.semAt_some

theorem Tryz.entVals : ∀ args w, (callFunc 101 args).run Tryz.prog w = .ok (.enter 101 args) w := enters_of Tryz.func101 (by kernel_rfl) rfl

set_option maxRecDepth 100000 in
set_option maxHeartbeats 1600000 in
theorem strs_at (n : Nat) (hn : 1 ≤ n) (l qb c : Nat) (S : Nat → Prop) (A : Option Addr) (D : List (List UInt8)) (J Jx : List (List UInt8) → World → Prop) (hJ : ∀ pre W W', J pre W → Below W.heap.size W W' → J pre W') (hDl : D.length ≤ 9223372036854775807)
    (hJS : ∀ pre W, J pre W → SlAt strCells 1 S W A c D)
    (hY : ∀ pre x W, J pre W → pre ++ [x] <+: D → YieldAt Fence.wide (n - 1) Tryz.prog l #[.string (strL x)] W fun e W' =>
      (e = .returned (.bool true) ∧ J (pre ++ [x]) W') ∨ (e = .returned (.bool false) ∧ Jx (pre ++ [x]) W'))
    (W : World) (hq : W.cell? ⟨qb, 0, none⟩ = some (.slice A D.length c)) (h0 : J [] W) :
    CallsIn Fence.wide n Tryz.prog 101 #[.func (.yield l) #[] #[], .pointer (some ⟨qb, 0, none⟩)] W fun e W' => (∃ v, e = .returned v) ∧
      (J D W' ∨ (∃ pre : List (List UInt8), pre <+: D ∧ Jx pre W')) := by
  have HS := Lib.hid (hJS _ _ h0)
  have HJS := Lib.hid hJS
  have H0 := Lib.hid h0
  have HY := Lib.hid hY
  have HJ := Lib.hid hJ
  have hcap := HS.out.2.1
  clear h0 hJS hY hJ
  refine callsIn_of_wp Tryz.func101 rfl trivial ?_ rfl
  simp only [Tryz.ntmps101, List.size_toArray, List.length_cons, List.length_nil, Nat.reduceAdd, Nat.reduceSub, Array.replicate_succ, Array.replicate_zero, List.push_toArray, List.append_toArray, List.nil_append, List.cons_append]
  gi_wp2_with fail
  gi_loopw [7] (fun x7 wr => ∃ k : Nat, k ≤ D.length ∧ x7 = .int .i64 ((k : Nat) : Int) ∧ J (D.take k) wr) (fun x7 _ => D.length - (intOf x7).toNat)
  case atStart => exact ⟨0, Nat.zero_le _, rfl, H0.out⟩
  case round =>
    obtain ⟨k, hk, rfl, hJk⟩ := hrel
    have hSk := HJS.out _ _ hJk
    by_cases hlt : k < D.length
    · obtain ⟨d, hd⟩ : ∃ d, D[k]? = some d := ⟨_, List.getElem?_eq_getElem hlt⟩
      have htk : D.take (k + 1) = D.take k ++ [d] := (drop_of hd).2
      obtain ⟨g, o, rfl, hx⟩ := hSk.at_ hd
      have y0 : wr.cell? ⟨g, o + k, none⟩ = some (.string (strL d)) := by have := hx 0 (.string (strL d)) rfl; simpa using this
      obtain ⟨fn, tmps, assign, body, hy, hR⟩ := HY.out _ d wr hJk (by rw [← htk]; exact List.take_prefix _ _)
      have HR := Lib.hid hR
      have HTK := Lib.hid htk
      have hlti : ((k : Nat) : Int) < ((D.length : Nat) : Int) := by omega
      clear htk hx hd hJk hSk hR
      gi_wp2_with fail
      refine HR.out.mono ?_
      rintro e W3 (⟨rfl, hJ3⟩ | ⟨rfl, hJx3⟩)
      · have HJ3 := Lib.hid hJ3
        clear hJ3
        gi_wp2
        go_roundw
        case rel => exact ⟨k + 1, by omega, by go_num, by rw [HTK.out]; exact HJ3.out⟩
        case measure => simp [intOf]; omega
      · have HJ3 := Lib.hid hJx3
        clear hJx3
        gi_wp2
        refine bodyPost_ret (results_none rfl _ _ _) rfl ?_
        refine ⟨⟨_, rfl⟩, .inr ⟨D.take (k + 1), List.take_prefix _ _, ?_⟩⟩
        rw [HTK.out]; exact HJ3.out
    · have HJk := Lib.hid hJk
      clear hJk hSk
      obtain rfl : k = D.length := by omega
      gi_wp2
      go_end0
      exact ⟨⟨_, rfl⟩, .inl (by have := HJk.out; rwa [List.take_length] at this)⟩
end Go.Proofs.YtbpkppmbbpoohaaGreat

namespace Go.Proofs.YtbpkppmbbpoohaaGreat
open Go.RowKit Go.Shelf

theorem demand_any (x kr kk n cc : Nat) (m f : Int) (A : Option Addr) (b : Bool) (c : Int) (w : World) (h : ExAt w x m f kr A n cc kk) : Calls Tryz.prog 115 #[.pointer (some ⟨x, 0, none⟩), .bool b, .int .i64 c] w fun e w' => e = doE (ifR b c) m f ∧ Below w.heap.size w w' := by
  cases b with
  | true => exact (demand_ok _ c w).mono fun e w' ⟨h1, h2⟩ => ⟨h1, by rw [h2]; exact Below.refl _ _⟩
  | false => exact demand_bad x kr kk n cc m f A c w h

def belowR (lim : Int) (d : FieldD) : Option Int := ifR (decide (0 ≤ d.low) && decide (d.low ≤ d.high) && decide (d.high < lim)) 7

section
variable (x kr kk n cc : Nat) (m f : Int) (A : Option Addr) (d : FieldD) (w : World)
set_option maxRecDepth 100000 in
set_option maxHeartbeats 1600000 in
theorem below_any (lim : Int) (hx : ExAt w x m f kr A n cc kk) : Calls Tryz.prog 135 #[.pointer (some ⟨x, 0, none⟩), .int .i64 lim, d.agg] w fun e w' => e = doE (belowR lim d) m f ∧ Below w.heap.size w w' := by
  unfold FieldD.agg
  have hal := below_alloc w (.cells #[.string (strL d.name), .int .i64 d.kind, .int .i64 d.bits, .bool d.little, .bool d.loose, .int .i64 d.low, .int .i64 d.high, .int .i64 d.base, .slice d.ta d.terms.length d.tc, .string (strL d.of_), .string (strL d.tag), .string (strL d.from_), .slice d.ca d.cases.length d.cc, .int .i64 d.check, .int .i64 d.key] 55)
  have hbx := FBox.new w d
  have hx1 := hx.below hal hx.lt
  obtain ⟨b, eb⟩ : ∃ b, w.heap.size = b := ⟨_, rfl⟩
  obtain ⟨w1, hw1⟩ : ∃ w1, w.alloc (.cells #[.string (strL d.name), .int .i64 d.kind, .int .i64 d.bits, .bool d.little, .bool d.loose, .int .i64 d.low, .int .i64 d.high, .int .i64 d.base, .slice d.ta d.terms.length d.tc, .string (strL d.of_), .string (strL d.tag), .string (strL d.from_), .slice d.ca d.cases.length d.cc, .int .i64 d.check, .int .i64 d.key] 55) = w1 := ⟨_, rfl⟩
  rw [hw1] at hal hbx hx1
  rw [eb] at hbx
  have HW := Lib.hid hw1
  have EB := Lib.hid eb
  have HAL := Lib.hid hal
  have HBX := Lib.hid hbx
  have HX := Lib.hid hx1
  clear hal hbx hx1 eb hw1 hx
  have y5 := HBX.out.c5
  have y6 := HBX.out.c6
  have HD := fun b => Lib.hid (demand_any x kr kk n cc m f A b 7 w1 HX.out)
  obtain ⟨R, hR⟩ : ∃ R, belowR lim d = R := ⟨_, rfl⟩
  rw [hR]
  have HR := Lib.hid hR
  clear hR
  by_cases hc : 0 ≤ d.low ∧ d.low ≤ d.high ∧ d.high < lim
  · obtain ⟨h1, h2, h3⟩ := hc
    have hRn : R = none := by rw [← HR.out]; simp [belowR, ifR, h1, h2, h3]
    have HRN := Lib.hid hRn
    have HD := Lib.hid (HD true).out
    unfold ifR doE at HD
    simp only [if_true] at HD
    clear hRn
    go_enter Tryz.func135, Tryz.ntmps135
    go_upto_region 1 with fail
    rw [HW.out, EB.out]
    go_wp2_with fail
    refine HD.out.mono ?_
    rintro e w2 ⟨rfl, hb2⟩
    have HB2 := Lib.hid (HAL.out.trans (hb2.mono HAL.out.size))
    clear hb2
    go_wp2_with fail
    go_end0
    exact ⟨by rw [HRN.out]; rfl, HB2.out⟩
  · have hRn : R = some 7 := by
      rw [← HR.out]
      unfold belowR ifR
      rw [if_neg]
      simp only [Bool.and_eq_true, decide_eq_true_eq]
      exact fun h => hc ⟨h.1.1, h.1.2, h.2⟩
    have HRN := Lib.hid hRn
    have HD := Lib.hid (HD false).out
    unfold ifR doE flawE at HD
    simp only [Bool.false_eq_true, if_false] at HD
    have hcs : ¬ 0 ≤ d.low ∨ (0 ≤ d.low ∧ ¬ d.low ≤ d.high) ∨ (0 ≤ d.low ∧ d.low ≤ d.high ∧ ¬ d.high < lim) := by omega
    clear hRn hc
    rcases hcs with h1 | ⟨h1, h2⟩ | ⟨h1, h2, h3⟩
    all_goals
      go_enter Tryz.func135, Tryz.ntmps135
      go_upto_region 1 with fail
      rw [HW.out, EB.out]
      go_wp2_with fail
      refine HD.out.mono ?_
      rintro e w2 ⟨rfl, hb2⟩
      exact ⟨rfl, by rw [HRN.out]; rfl, HAL.out.trans (hb2.mono HAL.out.size)⟩
end
end Go.Proofs.YtbpkppmbbpoohaaGreat

namespace Go.Proofs.YtbpkppmbbpoohaaGreat
open Go.RowKit Go.Shelf

def headersR (d : FieldD) : Option Int := ifR (inB d.high 2 1048576) 7
set_option maxRecDepth 100000 in
set_option maxHeartbeats 1600000 in
theorem headers_any (x kr kk n cc : Nat) (m f : Int) (A : Option Addr) (d : FieldD) (w : World) (hx : ExAt w x m f kr A n cc kk) : Calls Tryz.prog 108 #[.pointer (some ⟨x, 0, none⟩), d.agg] w fun e w' => e = doE (headersR d) m f ∧ Below w.heap.size w w' := by
  unfold FieldD.agg
  have hal := below_alloc w (.cells #[.string (strL d.name), .int .i64 d.kind, .int .i64 d.bits, .bool d.little, .bool d.loose, .int .i64 d.low, .int .i64 d.high, .int .i64 d.base, .slice d.ta d.terms.length d.tc, .string (strL d.of_), .string (strL d.tag), .string (strL d.from_), .slice d.ca d.cases.length d.cc, .int .i64 d.check, .int .i64 d.key] 55)
  have hbx := FBox.new w d
  have hx1 := hx.below hal hx.lt
  obtain ⟨b, eb⟩ : ∃ b, w.heap.size = b := ⟨_, rfl⟩
  obtain ⟨w1, hw1⟩ : ∃ w1, w.alloc (.cells #[.string (strL d.name), .int .i64 d.kind, .int .i64 d.bits, .bool d.little, .bool d.loose, .int .i64 d.low, .int .i64 d.high, .int .i64 d.base, .slice d.ta d.terms.length d.tc, .string (strL d.of_), .string (strL d.tag), .string (strL d.from_), .slice d.ca d.cases.length d.cc, .int .i64 d.check, .int .i64 d.key] 55) = w1 := ⟨_, rfl⟩
  rw [hw1] at hal hbx hx1
  rw [eb] at hbx
  have HW := Lib.hid hw1
  have EB := Lib.hid eb
  have HAL := Lib.hid hal
  have HBX := Lib.hid hbx
  have HX := Lib.hid hx1
  clear hal hbx hx1 eb hw1 hx
  have y6 := HBX.out.c6
  have HD := fun b => Lib.hid (demand_any x kr kk n cc m f A b 7 w1 HX.out)
  obtain ⟨R, hR⟩ : ∃ R, headersR d = R := ⟨_, rfl⟩
  rw [hR]
  have HR := Lib.hid hR
  clear hR
  have HI := fun w => Lib.hid (withinS d.high 2 1048576 w)
  cases hc : inB d.high 2 1048576 <;> rw [hc] at HI

  · have hRn : R = some 7 := by rw [← HR.out]; unfold headersR ifR; rw [hc]; rfl
    have HRN := Lib.hid hRn
    clear hRn hc
    have HD := Lib.hid (HD false).out
    unfold ifR doE flawE at HD
    simp only [Bool.false_eq_true, if_false] at HD
    go_enter Tryz.func108, Tryz.ntmps108
    go_upto_region 1 with fail
    rw [HW.out, EB.out]
    go_wp2_with (go_at_call 102; refine ((HI _).out).mono ?_; rintro e w' ⟨rfl, rfl⟩)
    refine HD.out.mono ?_
    rintro e w2 ⟨rfl, hb2⟩
    exact ⟨rfl, by rw [HRN.out]; rfl, HAL.out.trans (hb2.mono HAL.out.size)⟩
  · have hRn : R = none := by rw [← HR.out]; unfold headersR ifR; rw [hc]; rfl
    have HRN := Lib.hid hRn
    clear hRn hc
    have HD := Lib.hid (HD true).out
    unfold ifR doE at HD
    simp only [if_true] at HD
    go_enter Tryz.func108, Tryz.ntmps108
    go_upto_region 1 with fail
    rw [HW.out, EB.out]
    go_wp2_with (go_at_call 102; refine ((HI _).out).mono ?_; rintro e w' ⟨rfl, rfl⟩)
    refine HD.out.mono ?_
    rintro e w2 ⟨rfl, hb2⟩
    have HB2 := Lib.hid (HAL.out.trans (hb2.mono HAL.out.size))
    clear hb2
    go_wp2_with fail
    go_end0
    exact ⟨by rw [HRN.out]; rfl, HB2.out⟩

def untilR (d : FieldD) : Option Int := ifR (inB d.low 0 255 && inB d.high 0 1048576) 7
set_option maxRecDepth 100000 in
set_option maxHeartbeats 1600000 in
theorem until_any (x kr kk n cc : Nat) (m f : Int) (A : Option Addr) (d : FieldD) (w : World) (hx : ExAt w x m f kr A n cc kk) : Calls Tryz.prog 107 #[.pointer (some ⟨x, 0, none⟩), d.agg] w fun e w' => e = doE (untilR d) m f ∧ Below w.heap.size w w' := by
  unfold FieldD.agg
  have hal := below_alloc w (.cells #[.string (strL d.name), .int .i64 d.kind, .int .i64 d.bits, .bool d.little, .bool d.loose, .int .i64 d.low, .int .i64 d.high, .int .i64 d.base, .slice d.ta d.terms.length d.tc, .string (strL d.of_), .string (strL d.tag), .string (strL d.from_), .slice d.ca d.cases.length d.cc, .int .i64 d.check, .int .i64 d.key] 55)
  have hbx := FBox.new w d
  have hx1 := hx.below hal hx.lt
  obtain ⟨b, eb⟩ : ∃ b, w.heap.size = b := ⟨_, rfl⟩
  obtain ⟨w1, hw1⟩ : ∃ w1, w.alloc (.cells #[.string (strL d.name), .int .i64 d.kind, .int .i64 d.bits, .bool d.little, .bool d.loose, .int .i64 d.low, .int .i64 d.high, .int .i64 d.base, .slice d.ta d.terms.length d.tc, .string (strL d.of_), .string (strL d.tag), .string (strL d.from_), .slice d.ca d.cases.length d.cc, .int .i64 d.check, .int .i64 d.key] 55) = w1 := ⟨_, rfl⟩
  rw [hw1] at hal hbx hx1
  rw [eb] at hbx
  have HW := Lib.hid hw1
  have EB := Lib.hid eb
  have HAL := Lib.hid hal
  have HBX := Lib.hid hbx
  have HX := Lib.hid hx1
  clear hal hbx hx1 eb hw1 hx
  have y5 := HBX.out.c5
  have y6 := HBX.out.c6
  have HD := fun b => Lib.hid (demand_any x kr kk n cc m f A b 7 w1 HX.out)
  obtain ⟨R, hR⟩ : ∃ R, untilR d = R := ⟨_, rfl⟩
  rw [hR]
  have HR := Lib.hid hR
  clear hR
  have HI := fun w => Lib.hid (withinS d.low 0 255 w)
  have HJ := fun w => Lib.hid (withinS d.high 0 1048576 w)
  cases hc : inB d.low 0 255 <;> rw [hc] at HI

  · have hRn : R = some 7 := by rw [← HR.out]; unfold untilR ifR; rw [hc]; rfl
    have HRN := Lib.hid hRn
    clear hRn hc HJ
    have HD := Lib.hid (HD false).out
    unfold ifR doE flawE at HD
    simp only [Bool.false_eq_true, if_false] at HD
    go_enter Tryz.func107, Tryz.ntmps107
    go_upto_region 1 with fail
    rw [HW.out, EB.out]
    go_wp2_with (go_at_call 102; refine ((HI _).out).mono ?_; rintro e w' ⟨rfl, rfl⟩)
    refine HD.out.mono ?_
    rintro e w2 ⟨rfl, hb2⟩
    exact ⟨rfl, by rw [HRN.out]; rfl, HAL.out.trans (hb2.mono HAL.out.size)⟩
  · cases hc2 : inB d.high 0 1048576 <;> rw [hc2] at HJ
    · have hRn : R = some 7 := by rw [← HR.out]; unfold untilR ifR; rw [hc, hc2]; rfl
      have HRN := Lib.hid hRn
      clear hRn hc hc2
      have HD := Lib.hid (HD false).out
      unfold ifR doE flawE at HD
      simp only [Bool.false_eq_true, if_false] at HD
      go_enter Tryz.func107, Tryz.ntmps107
      go_upto_region 1 with fail
      rw [HW.out, EB.out]
      go_wp2_with (first | (go_at_call 102; with_reducible refine ((HI _).out).mono ?_; rintro e w' ⟨rfl, rfl⟩) | (go_at_call 102; with_reducible refine ((HJ _).out).mono ?_; rintro e w' ⟨rfl, rfl⟩))
      refine HD.out.mono ?_
      rintro e w2 ⟨rfl, hb2⟩
      exact ⟨rfl, by rw [HRN.out]; rfl, HAL.out.trans (hb2.mono HAL.out.size)⟩
    · have hRn : R = none := by rw [← HR.out]; unfold untilR ifR; rw [hc, hc2]; rfl
      have HRN := Lib.hid hRn
      clear hRn hc hc2
      have HD := Lib.hid (HD true).out
      unfold ifR doE at HD
      simp only [if_true] at HD
      go_enter Tryz.func107, Tryz.ntmps107
      go_upto_region 1 with fail
      rw [HW.out, EB.out]
      go_wp2_with (first | (go_at_call 102; with_reducible refine ((HI _).out).mono ?_; rintro e w' ⟨rfl, rfl⟩) | (go_at_call 102; with_reducible refine ((HJ _).out).mono ?_; rintro e w' ⟨rfl, rfl⟩))
      refine HD.out.mono ?_
      rintro e w2 ⟨rfl, hb2⟩
      have HB2 := Lib.hid (HAL.out.trans (hb2.mono HAL.out.size))
      clear hb2
      go_wp2_with fail
      go_end0
      exact ⟨by rw [HRN.out]; rfl, HB2.out⟩

def padR (d : FieldD) : Option Int := ifR (d.bits == 2 || d.bits == 4 || inB d.bits 8 512 && d.bits % 8 == 0) 6
set_option maxRecDepth 100000 in
set_option maxHeartbeats 1600000 in
theorem pad_any (x kr kk n cc : Nat) (m f : Int) (A : Option Addr) (d : FieldD) (w : World) (hx : ExAt w x m f kr A n cc kk) : Calls Tryz.prog 112 #[.pointer (some ⟨x, 0, none⟩), d.agg] w fun e w' => e = doE (padR d) m f ∧ Below w.heap.size w w' := by
  unfold FieldD.agg
  have hal := below_alloc w (.cells #[.string (strL d.name), .int .i64 d.kind, .int .i64 d.bits, .bool d.little, .bool d.loose, .int .i64 d.low, .int .i64 d.high, .int .i64 d.base, .slice d.ta d.terms.length d.tc, .string (strL d.of_), .string (strL d.tag), .string (strL d.from_), .slice d.ca d.cases.length d.cc, .int .i64 d.check, .int .i64 d.key] 55)
  have hbx := FBox.new w d
  have hx1 := hx.below hal hx.lt
  obtain ⟨b, eb⟩ : ∃ b, w.heap.size = b := ⟨_, rfl⟩
  obtain ⟨w1, hw1⟩ : ∃ w1, w.alloc (.cells #[.string (strL d.name), .int .i64 d.kind, .int .i64 d.bits, .bool d.little, .bool d.loose, .int .i64 d.low, .int .i64 d.high, .int .i64 d.base, .slice d.ta d.terms.length d.tc, .string (strL d.of_), .string (strL d.tag), .string (strL d.from_), .slice d.ca d.cases.length d.cc, .int .i64 d.check, .int .i64 d.key] 55) = w1 := ⟨_, rfl⟩
  rw [hw1] at hal hbx hx1
  rw [eb] at hbx
  have HW := Lib.hid hw1
  have EB := Lib.hid eb
  have HAL := Lib.hid hal
  have HBX := Lib.hid hbx
  have HX := Lib.hid hx1
  clear hal hbx hx1 eb hw1 hx
  have y2 := HBX.out.c2
  have HD := fun b => Lib.hid (demand_any x kr kk n cc m f A b 6 w1 HX.out)
  obtain ⟨R, hR⟩ : ∃ R, padR d = R := ⟨_, rfl⟩
  rw [hR]
  have HR := Lib.hid hR
  clear hR
  have HI := fun w => Lib.hid (withinS d.bits 8 512 w)
  by_cases h2 : d.bits = 2

  · have hRn : R = none := by rw [← HR.out]; unfold padR ifR; simp [h2]
    have e2 : (d.bits == 2) = true := by simp [h2]
    have HRN := Lib.hid hRn
    clear hRn h2 HI
    have HD := Lib.hid (HD true).out
    unfold ifR doE at HD
    simp only [if_true] at HD
    go_enter Tryz.func112, Tryz.ntmps112
    go_upto_region 1 with fail
    rw [HW.out, EB.out]
    go_wp2_with fail
    refine HD.out.mono ?_
    rintro e w2 ⟨rfl, hb2⟩
    have HB2 := Lib.hid (HAL.out.trans (hb2.mono HAL.out.size))
    clear hb2
    go_wp2_with fail
    go_end0
    exact ⟨by rw [HRN.out]; rfl, HB2.out⟩
  · have e2 : (d.bits == 2) = false := by simp [h2]
    by_cases h4 : d.bits = 4
    · have hRn : R = none := by rw [← HR.out]; unfold padR ifR; simp [h4]
      have e4 : (d.bits == 4) = true := by simp [h4]
      have HRN := Lib.hid hRn
      clear hRn h2 h4 HI
      have HD := Lib.hid (HD true).out
      unfold ifR doE at HD
      simp only [if_true] at HD
      go_enter Tryz.func112, Tryz.ntmps112
      go_upto_region 1 with fail
      rw [HW.out, EB.out]
      go_wp2_with fail
      refine HD.out.mono ?_
      rintro e w2 ⟨rfl, hb2⟩
      have HB2 := Lib.hid (HAL.out.trans (hb2.mono HAL.out.size))
      clear hb2
      go_wp2_with fail
      go_end0
      exact ⟨by rw [HRN.out]; rfl, HB2.out⟩
    · have e4 : (d.bits == 4) = false := by simp [h4]
      cases hc : inB d.bits 8 512 <;> rw [hc] at HI
      · have hRn : R = some 6 := by rw [← HR.out]; unfold padR ifR; rw [e2, e4, hc]; rfl
        have HRN := Lib.hid hRn
        clear hRn h2 h4 hc
        have HD := Lib.hid (HD false).out
        unfold ifR doE flawE at HD
        simp only [Bool.false_eq_true, if_false] at HD
        go_enter Tryz.func112, Tryz.ntmps112
        go_upto_region 1 with fail
        rw [HW.out, EB.out]
        go_wp2_with (go_at_call 102; refine ((HI _).out).mono ?_; rintro e w' ⟨rfl, rfl⟩)
        refine HD.out.mono ?_
        rintro e w2 ⟨rfl, hb2⟩
        exact ⟨rfl, by rw [HRN.out]; rfl, HAL.out.trans (hb2.mono HAL.out.size)⟩
      · have hb : 8 ≤ d.bits ∧ d.bits ≤ 512 := by simpa [inB] using hc
        obtain ⟨hb1, hb2⟩ := hb
        obtain ⟨r, hr⟩ : ∃ r, d.bits % 8 = r := ⟨_, rfl⟩
        have hrt : Int.tmod d.bits 8 = r := by rw [← hr]; exact Int.tmod_eq_emod_of_nonneg (by omega)
        by_cases h0 : r = 0
        · have hRn : R = none := by rw [← HR.out]; unfold padR ifR; rw [e2, e4, hc, hr, h0]; rfl
          have e0 : (r == 0) = true := by simp [h0]
          have HRN := Lib.hid hRn
          clear hRn h2 h4 hc h0
          have HD := Lib.hid (HD true).out
          unfold ifR doE at HD
          simp only [if_true] at HD
          go_enter Tryz.func112, Tryz.ntmps112
          go_upto_region 1 with fail
          rw [HW.out, EB.out]
          go_wp2_with (go_at_call 102; refine ((HI _).out).mono ?_; rintro e w' ⟨rfl, rfl⟩)
          refine HD.out.mono ?_
          rintro e w2 ⟨rfl, hb2⟩
          have HB2 := Lib.hid (HAL.out.trans (hb2.mono HAL.out.size))
          clear hb2
          go_wp2_with fail
          go_end0
          exact ⟨by rw [HRN.out]; rfl, HB2.out⟩
        · have hRn : R = some 6 := by rw [← HR.out]; unfold padR ifR; rw [e2, e4, hc, hr]; simp [h0]
          have e0 : (r == 0) = false := by simp [h0]
          have HRN := Lib.hid hRn
          clear hRn h2 h4 hc h0
          have HD := Lib.hid (HD false).out
          unfold ifR doE flawE at HD
          simp only [Bool.false_eq_true, if_false] at HD
          go_enter Tryz.func112, Tryz.ntmps112
          go_upto_region 1 with fail
          rw [HW.out, EB.out]
          go_wp2_with (go_at_call 102; refine ((HI _).out).mono ?_; rintro e w' ⟨rfl, rfl⟩)
          refine HD.out.mono ?_
          rintro e w2 ⟨rfl, hb2⟩
          exact ⟨rfl, by rw [HRN.out]; rfl, HAL.out.trans (hb2.mono HAL.out.size)⟩
end Go.Proofs.YtbpkppmbbpoohaaGreat
