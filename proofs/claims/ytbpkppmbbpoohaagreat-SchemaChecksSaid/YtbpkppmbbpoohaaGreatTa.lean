/- The targets of a field: every kind. Conditions: the cases lie in memory, few enough. -/
import Derived.Test.YtbpkppmbbpoohaaGreatCc
import Derived.Test.YtbpkppmbbpoohaaGreatVf
namespace Go.Proofs.YtbpkppmbbpoohaaGreat
open Go.RowKit Go.Shelf

theorem Tryz.infoStrD : (Tryz.prog.info? 9).map (fun i => (i.zero, i.size, i.bytes)) = some (some (.string ⟨#[]⟩), 1, 16) := by kernel_rfl
theorem Tryz.entTarg : ∀ args w, (callFunc 100 args).run Tryz.prog w = .ok (.enter 100 args) w := enters_of Tryz.func100 (by kernel_rfl) rfl

set_option maxRecDepth 100000 in
set_option maxHeartbeats 800000 in
theorem targ1_any (d : CaseD) (w : World) : Calls Tryz.prog 100 #[d.agg] w fun e w' => e = .returned (.string (strL d.of_)) ∧ Below w.heap.size w w' := by
  unfold CaseD.agg
  have hal := below_alloc w (.cells #[.int .i64 d.lo, .int .i64 d.hi, .string (strL d.of_)] 65)
  have HAL := Lib.hid hal
  clear hal
  go_enter Tryz.func100, Tryz.ntmps100
  go_wp2_with fail
  go_ret
  exact ⟨rfl, HAL.out⟩

set_option maxRecDepth 100000 in
set_option maxHeartbeats 3200000 in
theorem replacedS (A : Option Addr) (c : Nat) (D : List CaseD) (S : Nat → Prop) (w : World) (h : SlAt CaseD.cells 3 S w A c D) (hn : D.length ≤ 1000000) :
    Calls Tryz.prog 99 #[.slice A D.length c, .func (.func 100) #[] #[]] w fun e w' => ∃ D' : List (List UInt8), e = .returned (.slice (some ⟨w.heap.size, 0, none⟩) D.length D.length) ∧ D' = D.map (·.of_) ∧ w'.ownsRow w.heap.size 9 1 (.slice (some ⟨w.heap.size, 0, none⟩) D.length D.length) D.length (D'.flatMap strCells) ∧ Below w.heap.size w w' := by
  obtain ⟨i0, hi0, hz0, hz1, hz2⟩ := info_parts Tryz.infoStrD
  have INF := Lib.hid (And.intro hi0 (And.intro hz0 (And.intro hz1 hz2)))
  have HBY := Lib.hid (show i0.bytes * D.length ≤ 281474976710656 by rw [hz2]; omega)
  have H := Lib.hid h
  obtain ⟨g0, eg0⟩ : ∃ g0, w.heap.size = g0 := ⟨_, rfl⟩
  rw [eg0]
  have EG := Lib.hid eg0
  clear hi0 hz0 hz1 hz2 h eg0
  go_enter Tryz.func99, Tryz.ntmps99
  go_upto_region 1 with fail
  go_wp2_with (refine wpList_make_full w rfl _ _ 94 rfl w.heap.size 9 i0 _ 1 Tryz.underlying94 INF.out.1 INF.out.2.1 INF.out.2.2.1 .i64 .i64 ((D.length : Nat) : Int) ((D.length : Nat) : Int) D.length rfl rfl rfl rfl HBY.out (by unfold maxLen; omega) (Nat.le_refl _) ?_; intro w1 hown hgrow; have HO1 := Lib.hid hown; have HG1 := Lib.hid hgrow; clear hown hgrow)
  rw [EG.out]
  go_loopw [13] (fun x13 wr => ∃ i : Nat, i ≤ D.length ∧ x13 = .int .i64 ((i : Nat) : Int) ∧ ∃ D' : List (List UInt8), D' = (D.take i).map (·.of_) ∧ Half strCells 1 9 (fun _ _ _ => True) w wr g0 D.length (D.map (·.of_)) D') (fun x13 _ => D.length - (intOf x13).toNat)
  case atStart =>
    have ho := HO1.out
    refine ⟨0, Nat.zero_le _, rfl, [], by simp, ?_, fun j d d' _ hd' => by simp at hd', ?_⟩
    · rcases ho.2 with ⟨e, _⟩ | ⟨g, cap, cur, e, _, hh, _, _, hs, _⟩
      · cases e
      · simp only [Value.slice.injEq, Option.some.injEq, Addr.mk.injEq, and_true, true_and] at e
        obtain ⟨e1, e2⟩ := e
        rw [← e1, EG.out] at hh
        rw [← e2] at hs
        exact ⟨cur, hh, hs, fun j d hd => by simp at hd⟩
    · have hb : Below w.heap.size w w1 := (Below.refl _ _).grown HG1.out (Nat.le_refl _) (fun k e => by cases e)
      rw [EG.out] at hb
      exact hb
  case round =>
    obtain ⟨i, hi, rfl, D', hD', hf⟩ := hrel
    have HF := Lib.hid hf
    have ED := Lib.hid hD'
    have LD := Lib.hid (show D'.length = i by rw [hD', List.length_map, List.length_take]; omega)
    clear hf hD' HO1 HG1
    by_cases hlt : i < D.length
    · obtain ⟨d, hd⟩ : ∃ d, D[i]? = some d := ⟨_, List.getElem?_eq_getElem hlt⟩
      have hbw : Below w.heap.size w wr := by rw [EG.out]; exact HF.out.bel
      obtain ⟨g, o, rfl, hx⟩ := (H.out.rest (Rest.below hbw) (fun _ _ e => e)).at_ hd
      have x0 : wr.cell? ⟨g, o + i * 3, none⟩ = some (.int .i64 d.lo) := hx 0 _ rfl
      have x1 : wr.cell? ⟨g, o + i * 3 + 1, none⟩ = some (.int .i64 d.hi) := hx 1 _ rfl
      have x2 : wr.cell? ⟨g, o + i * 3 + 2, none⟩ = some (.string (strL d.of_)) := hx 2 _ rfl
      have hal := below_alloc wr (.cells #[.int .i64 d.lo, .int .i64 d.hi, .string (strL d.of_)] 65)
      have hbx : (wr.alloc (.cells #[.int .i64 d.lo, .int .i64 d.hi, .string (strL d.of_)] 65)).heap[wr.heap.size]? = some (.cells #[.int .i64 d.lo, .int .i64 d.hi, .string (strL d.of_)] 65 (0, 0)) := heap_alloc_new wr _
      obtain ⟨tb, etb⟩ : ∃ tb, wr.heap.size = tb := ⟨_, rfl⟩
      obtain ⟨w2, hw2⟩ : ∃ w2, wr.alloc (.cells #[.int .i64 d.lo, .int .i64 d.hi, .string (strL d.of_)] 65) = w2 := ⟨_, rfl⟩
      rw [hw2] at hal hbx
      rw [etb] at hbx
      have q0 : w2.cell? ⟨tb, 0, none⟩ = some (.int .i64 d.lo) := by simp [World.cell?, hbx]
      have q1 : w2.cell? ⟨tb, 1, none⟩ = some (.int .i64 d.hi) := by simp [World.cell?, hbx]
      have q2 : w2.cell? ⟨tb, 2, none⟩ = some (.string (strL d.of_)) := by simp [World.cell?, hbx]
      have HC := Lib.hid (targ1_any d w2)
      have eg := Tryz.entTarg
      unfold CaseD.agg at HC
      have W2 := Lib.hid hw2
      have ETB := Lib.hid etb
      have HAL := Lib.hid hal
      have HDT := Lib.hid (drop_of hd).2
      have HD := Lib.hid hd
      clear hx hbx hal hw2 etb hd hbw
      go_upto_region 5 with fail
      rw [W2.out, ETB.out]
      clear x0 x1 x2
      go_wp2_with fail
      refine HC.out.mono ?_
      rintro e w3 ⟨rfl, hb3⟩
      clear HC q0 q1 q2
      have hf3 := HF.out.later (wx := w3) (fun _ _ _ => trivial) (HAL.out.trans (hb3.mono HAL.out.size))
      have HF3 := Lib.hid hf3
      clear hb3 hf3
      obtain ⟨u0, hu0⟩ := (HF3.out.cellAt i 0 hlt (by omega)).1
      rw [Nat.mul_one, Nat.add_zero] at hu0
      have hfr := (HF3.out.cellAt i 0 hlt (by omega)).2
      dsimp only
      go_wp2_with fail
      have hst := HF3.out.store (fun _ => rfl) d.of_ d.of_ (by rw [LD.out, List.getElem?_map, HD.out]; rfl) (by rw [LD.out]; exact hlt) trivial (fun _ _ _ => trivial)
      rw [LD.out, Nat.mul_one] at hst
      obtain ⟨w4, hw4⟩ : ∃ w4, w3.setCell ⟨g0, i, none⟩ (.string (strL d.of_)) = w4 := ⟨_, rfl⟩
      have he : setsAt w3 g0 i (strCells d.of_) = w4 := hw4
      rw [he] at hst
      rw [hw4]
      have HS4 := Lib.hid hst
      have ED4 := Lib.hid (show D' ++ [d.of_] = (D.take (i + 1)).map (·.of_) by rw [HDT.out, List.map_append, ← ED.out]; rfl)
      clear hst he hw4 hfr hu0
      go_roundw
      case rel => exact ⟨i + 1, by omega, by go_num, D' ++ [d.of_], ED4.out, HS4.out⟩
      case measure => simp [intOf]; omega
    · obtain rfl : i = D.length := by omega
      go_wp2_with fail
      go_ret
      have e := ED.out
      rw [List.take_length] at e
      exact ⟨D', rfl, e, HF.out.own (fun _ => rfl) LD.out hn, HF.out.bel⟩

set_option maxRecDepth 100000 in
set_option maxHeartbeats 1600000 in
theorem targets_all (d : FieldD) (S : Nat → Prop) (w : World) (h : SlAt CaseD.cells 3 S w d.ca d.cc d.cases) (hn : d.cases.length ≤ 1000000) : Calls Tryz.prog 74 #[d.agg] w fun e w' => ∃ A c, e = .returned (.slice A (targB d).length c) ∧ SlAt strCells 1 (fun i => i < w.heap.size) w' A c (targB d) ∧ Below w.heap.size w w' := by
  by_cases h9 : d.kind = 9
  · unfold FieldD.agg
    have hal := below_alloc w (.cells #[.string (strL d.name), .int .i64 d.kind, .int .i64 d.bits, .bool d.little, .bool d.loose, .int .i64 d.low, .int .i64 d.high, .int .i64 d.base, .slice d.ta d.terms.length d.tc, .string (strL d.of_), .string (strL d.tag), .string (strL d.from_), .slice d.ca d.cases.length d.cc, .int .i64 d.check, .int .i64 d.key] 55)
    have hbx := FBox.new w d
    have hs := h.below hal
    obtain ⟨b, eb⟩ : ∃ b, w.heap.size = b := ⟨_, rfl⟩
    obtain ⟨w1, hw1⟩ : ∃ w1, w.alloc (.cells #[.string (strL d.name), .int .i64 d.kind, .int .i64 d.bits, .bool d.little, .bool d.loose, .int .i64 d.low, .int .i64 d.high, .int .i64 d.base, .slice d.ta d.terms.length d.tc, .string (strL d.of_), .string (strL d.tag), .string (strL d.from_), .slice d.ca d.cases.length d.cc, .int .i64 d.check, .int .i64 d.key] 55) = w1 := ⟨_, rfl⟩
    rw [hw1] at hal hbx hs
    rw [eb] at hbx
    have HR := Lib.hid (replacedS d.ca d.cc d.cases S w1 hs hn)
    have HW := Lib.hid hw1
    have EB := Lib.hid eb
    have HAL := Lib.hid hal
    have y1 := hbx.c1
    have y12 := hbx.c12
    have e9 : (d.kind == 9) = true := by simpa using h9
    have e7 : (d.kind == 7) = false := by rw [h9]; rfl
    have e8 : (d.kind == 8) = false := by rw [h9]; rfl
    have e12 : (d.kind == 12) = false := by rw [h9]; rfl
    have HT := Lib.hid (show targB d = d.cases.map (·.of_) by unfold targB; rw [e9]; rfl)
    clear hal hbx eb hw1 h hs hn h9
    go_enter Tryz.func74, Tryz.ntmps74
    go_upto_region 1 with fail
    rw [HW.out, EB.out]
    go_wp2_with fail
    refine HR.out.mono ?_
    rintro e w2 ⟨D', rfl, hD', ho, hb2⟩
    have hl : (targB d).length = d.cases.length := by rw [HT.out, List.length_map]
    have ho' : w2.ownsRow w1.heap.size 9 1 (.slice (some ⟨w1.heap.size, 0, none⟩) (targB d).length d.cases.length) (targB d).length ((targB d).flatMap strCells) := by rw [hl, HT.out, ← hD']; exact ho
    have hs := slAt_own (cf := strCells) (s := 1) (fun _ => rfl) ho'
    have HS := Lib.hid (show SlAt strCells 1 (fun i => i < w.heap.size) w2 (some ⟨w1.heap.size, 0, none⟩) d.cases.length (targB d) from ⟨hs.1, hs.2.1, fun i e he => by
      obtain ⟨g, o, e1, e2, e3⟩ := hs.2.2 i e he
      have := HAL.out.size
      exact ⟨g, o, e1, by show ¬ g < w.heap.size; have h2 : ¬ g < w1.heap.size := e2; omega, e3⟩⟩)
    have HL := Lib.hid hl
    have HB2 := Lib.hid (HAL.out.trans (hb2.mono HAL.out.size))
    clear hb2 ho ho' hs hl hD'
    go_wp2_with fail
    go_ret
    refine ⟨some ⟨w1.heap.size, 0, none⟩, d.cases.length, ?_, HS.out, HB2.out⟩
    rw [HL.out]
    rfl
  · exact targets_any d w h9
end Go.Proofs.YtbpkppmbbpoohaaGreat
