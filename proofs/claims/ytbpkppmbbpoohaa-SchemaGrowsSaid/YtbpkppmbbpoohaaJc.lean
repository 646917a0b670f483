/- The names to which a field refers that is not a choice. No conditions. -/
import Derived.Test.YtbpkppmbbpoohaaJa
namespace Go.Proofs.Ytbpkppmbbpoohaa
open Go.RowKit Go.Shelf

def targB (d : FieldD) : List (List UInt8) := if d.kind == 9 then d.cases.map (·.of_) else if d.kind == 7 || d.kind == 8 || d.kind == 12 then [d.of_] else []

theorem slAt_one {W : World} {base : Nat} {s : List UInt8} {t : TypeId} (h : base ≤ W.heap.size) : SlAt strCells 1 (fun i => i < base) (W.alloc (.cells #[.string (strL s)] t)) (some ⟨W.heap.size, 0, none⟩) 1 [s] := by
  refine ⟨Nat.le_refl _, by omega, fun i d hi => ?_⟩
  have h0 : i = 0 := by
    have := (List.getElem?_eq_some_iff.1 hi).1
    simp at this; omega
  subst h0
  simp only [List.getElem?_cons_zero, Option.some.injEq] at hi
  subst hi
  refine ⟨W.heap.size, 0, rfl, by show ¬ W.heap.size < base; omega, fun j u hu => ?_⟩
  have h0 : j = 0 := by
    have := (List.getElem?_eq_some_iff.1 hu).1
    simp [strCells] at this; omega
  subst h0
  simp only [strCells, List.getElem?_cons_zero, Option.some.injEq] at hu
  subst hu
  simp
theorem slAt_none {W : World} {S : Nat → Prop} {A : Option Addr} : SlAt strCells 1 S W A 0 [] := ⟨Nat.le_refl _, by omega, fun i d hi => by simp at hi⟩

set_option maxRecDepth 100000 in
set_option maxHeartbeats 1600000 in
theorem targets_any (d : FieldD) (w : World) (h9 : d.kind ≠ 9) : Calls Try.prog 52 #[d.agg] w fun e w' => ∃ A c, e = .returned (.slice A (targB d).length c) ∧ SlAt strCells 1 (fun i => i < w.heap.size) w' A c (targB d) ∧ Below w.heap.size w w' := by
  unfold FieldD.agg
  have hal := below_alloc w (.cells #[.string (strL d.name), .int .i64 d.kind, .int .i64 d.bits, .bool d.little, .bool d.loose, .int .i64 d.low, .int .i64 d.high, .int .i64 d.base, .slice d.ta d.terms.length d.tc, .string (strL d.of_), .string (strL d.tag), .string (strL d.from_), .slice d.ca d.cases.length d.cc, .int .i64 d.check, .int .i64 d.key] 28)
  have hbx := FBox.new w d
  obtain ⟨b, eb⟩ : ∃ b, w.heap.size = b := ⟨_, rfl⟩
  obtain ⟨w1, hw1⟩ : ∃ w1, w.alloc (.cells #[.string (strL d.name), .int .i64 d.kind, .int .i64 d.bits, .bool d.little, .bool d.loose, .int .i64 d.low, .int .i64 d.high, .int .i64 d.base, .slice d.ta d.terms.length d.tc, .string (strL d.of_), .string (strL d.tag), .string (strL d.from_), .slice d.ca d.cases.length d.cc, .int .i64 d.check, .int .i64 d.key] 28) = w1 := ⟨_, rfl⟩
  rw [hw1] at hal hbx
  rw [eb] at hbx
  have HW := Lib.hid hw1
  have EB := Lib.hid eb
  have HAL := Lib.hid hal
  have y1 := hbx.c1
  have y8 := hbx.c9
  have e9 : (d.kind == 9) = false := by simpa using h9
  obtain ⟨s7, e7⟩ : ∃ s, (d.kind == 7) = s := ⟨_, rfl⟩
  obtain ⟨s8, e8⟩ : ∃ s, (d.kind == 8) = s := ⟨_, rfl⟩
  obtain ⟨s12, e12⟩ : ∃ s, (d.kind == 12) = s := ⟨_, rfl⟩
  have hr : targB d = if s7 || s8 || s12 then [d.of_] else [] := by unfold targB; rw [e9, e7, e8, e12]; rfl
  obtain ⟨N, hN⟩ : ∃ N, targB d = N := ⟨_, rfl⟩
  rw [hN] at hr ⊢
  have HR := Lib.hid hr
  have ONE := Lib.hid (fun t => slAt_one (W := w1) (base := w.heap.size) (s := d.of_) (t := t) hal.size)
  have HBN := Lib.hid (fun o => hal.trans ((below_alloc w1 o).mono hal.size))
  clear hal hbx eb hw1 hN hr h9
  cases s7
  · cases s8
    · cases s12
      · have hn : N = [] := HR.out
        subst hn
        go_enter Try.func52, Try.ntmps52
        go_upto_region 1 with fail
        rw [HW.out, EB.out]
        go_wp2_with fail
        go_ret
        exact ⟨none, 0, rfl, slAt_none, HAL.out⟩
      · have hn : N = [d.of_] := HR.out
        subst hn
        go_enter Try.func52, Try.ntmps52
        go_upto_region 1 with fail
        rw [HW.out, EB.out]
        go_wp2_with fail
        go_ret
        exact ⟨_, 1, rfl, ONE.out _, HBN.out _⟩
    · have hn : N = [d.of_] := HR.out
      subst hn
      go_enter Try.func52, Try.ntmps52
      go_upto_region 1 with fail
      rw [HW.out, EB.out]
      go_wp2_with fail
      go_ret
      exact ⟨_, 1, rfl, ONE.out _, HBN.out _⟩
  · have hn : N = [d.of_] := HR.out
    subst hn
    go_enter Try.func52, Try.ntmps52
    go_upto_region 1 with fail
    rw [HW.out, EB.out]
    go_wp2_with fail
    go_ret
    exact ⟨_, 1, rfl, ONE.out _, HBN.out _⟩
end Go.Proofs.Ytbpkppmbbpoohaa
