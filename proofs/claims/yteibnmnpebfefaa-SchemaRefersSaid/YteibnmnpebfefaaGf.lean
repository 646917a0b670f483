/- The ranges of the numbers among fields. Conditions: the fields lie in memory. -/
import Derived.Test.YteibnmnpebfefaaGe
namespace Go.Proofs.Yteibnmnpebfefaa
open Go.RowKit Go.Shelf

def ranV (p : Int × Int) : Value := .agg #[.int .i64 p.1, .int .i64 p.2]
def ranStep (E : Ents) (d : FieldD) : Ents := if numB d then setE E d.name (ranV (ranP d)) else E
def ransE (D : List FieldD) : Ents := D.foldl ranStep []
theorem ransE_snoc (D : List FieldD) (d : FieldD) : ransE (D ++ [d]) = ranStep (ransE D) d := by simp [ransE, List.foldl_append]

/-- A message in a block of its own. -/
theorem msgbox (w : World) (x0 x1 : Value) : (w.alloc (.cells #[x0, x1] 50)).heap[w.heap.size]? = some (.cells #[x0, x1] 50 (0, 0)) := heap_alloc_new w _

set_option maxRecDepth 100000 in
set_option maxHeartbeats 3200000 in
theorem ranges_any (nm : List UInt8) (A : Option Addr) (c : Nat) (D : List FieldD) (S : Nat → Prop) (w : World) (h : SlAt FieldD.cells 15 S w A c D) :
    Calls Try.prog 23 #[.agg #[.string (strL nm), .slice A D.length c]] w fun e w' => ∃ r, e = .returned (.map (some r)) ∧ w.heap.size ≤ r ∧ MapAt w' r (ransE D) ∧ Below w.heap.size w w' := by
  have hl : D.length ≤ 9223372036854775807 := Nat.le_trans h.1 h.2.1
  have hal := below_alloc w (.cells #[.string (strL nm), .slice A D.length c] 50)
  have hbx := msgbox w (.string (strL nm)) (.slice A D.length c)
  have h1 := h.below hal
  obtain ⟨b, eb⟩ : ∃ b, w.heap.size = b := ⟨_, rfl⟩
  obtain ⟨w1, hw1⟩ : ∃ w1, w.alloc (.cells #[.string (strL nm), .slice A D.length c] 50) = w1 := ⟨_, rfl⟩
  rw [hw1] at hal hbx h1
  rw [eb] at hbx
  have hbl : b < w1.heap.size := (Array.getElem?_eq_some_iff.1 hbx).1
  have KEEP : Hid (∀ wx, Below w1.heap.size w1 wx → wx.cell? ⟨b, 0, none⟩ = some (.string (strL nm)) ∧ wx.cell? ⟨b, 1, none⟩ = some (.slice A D.length c)) := Lib.hid (fun wx hb => by
    have := (hb.block b hbl).trans hbx
    exact ⟨by simp [World.cell?, this], by simp [World.cell?, this]⟩)
  have hm0 := MapAt.new w1
  have hb2 := below_alloc w1 (.map #[] 0)
  have hmk := run_makeMap_plain (P := Try.prog) w1 53
  obtain ⟨r, er⟩ : ∃ r, w1.heap.size = r := ⟨_, rfl⟩
  obtain ⟨w2, hw2⟩ : ∃ w2, w1.alloc (.map #[] 0) = w2 := ⟨_, rfl⟩
  rw [hw2] at hm0 hb2 hmk
  rw [er] at hm0 hmk
  obtain ⟨z0, z1⟩ := KEEP.out w2 hb2
  have HW := Lib.hid hw1
  have HW2 := Lib.hid hw2
  have EB := Lib.hid eb
  have ER := Lib.hid er
  have HAL := Lib.hid hal
  have H1 := Lib.hid h1
  have HM0 := Lib.hid hm0
  have HB2 := Lib.hid hb2
  clear h hw1 hw2 eb er hal hbx h1 hbl hm0 hb2
  go_enter Try.func23, Try.ntmps23
  go_upto_region 1 with fail
  rw [HW.out, EB.out]
  go_wp2_with fail
  clear z0 z1 hmk
  go_loopw [12] (fun x12 wr => ∃ i : Nat, i ≤ D.length ∧ x12 = .int .i64 ((i : Nat) : Int) ∧ MapAt wr r (ransE (D.take i)) ∧ Below w1.heap.size w1 wr) (fun x12 _ => D.length - (intOf x12).toNat)
  case atStart => exact ⟨0, Nat.zero_le _, rfl, HM0.out, HB2.out⟩
  case round =>
    obtain ⟨i, hi, rfl, hm, hbw⟩ := hrel
    have HM := Lib.hid hm
    have HBW := Lib.hid hbw
    clear hm hbw HM0 HB2
    by_cases hlt : i < D.length
    · obtain ⟨d, hd⟩ : ∃ d, D[i]? = some d := ⟨_, List.getElem?_eq_getElem hlt⟩
      obtain ⟨g, o, rfl, hx⟩ := (H1.out.rest (Rest.below HBW.out) (fun _ _ e => e)).at_ hd
      have x0 : wr.cell? ⟨g, o + i * 15, none⟩ = some (.string (strL d.name)) := hx 0 _ rfl
      have x1 : wr.cell? ⟨g, o + i * 15 + 1, none⟩ = some (.int .i64 d.kind) := hx 1 _ rfl
      have x2 : wr.cell? ⟨g, o + i * 15 + 2, none⟩ = some (.int .i64 d.bits) := hx 2 _ rfl
      have x3 : wr.cell? ⟨g, o + i * 15 + 3, none⟩ = some (.bool d.little) := hx 3 _ rfl
      have x4 : wr.cell? ⟨g, o + i * 15 + 4, none⟩ = some (.bool d.loose) := hx 4 _ rfl
      have x5 : wr.cell? ⟨g, o + i * 15 + 5, none⟩ = some (.int .i64 d.low) := hx 5 _ rfl
      have x6 : wr.cell? ⟨g, o + i * 15 + 6, none⟩ = some (.int .i64 d.high) := hx 6 _ rfl
      have x7 : wr.cell? ⟨g, o + i * 15 + 7, none⟩ = some (.int .i64 d.base) := hx 7 _ rfl
      have x8 : wr.cell? ⟨g, o + i * 15 + 8, none⟩ = some (.slice d.ta d.terms.length d.tc) := hx 8 _ rfl
      have x9 : wr.cell? ⟨g, o + i * 15 + 9, none⟩ = some (.string (strL d.of_)) := hx 9 _ rfl
      have x10 : wr.cell? ⟨g, o + i * 15 + 10, none⟩ = some (.string (strL d.tag)) := hx 10 _ rfl
      have x11 : wr.cell? ⟨g, o + i * 15 + 11, none⟩ = some (.string (strL d.from_)) := hx 11 _ rfl
      have x12 : wr.cell? ⟨g, o + i * 15 + 12, none⟩ = some (.slice d.ca d.cases.length d.cc) := hx 12 _ rfl
      have x13 : wr.cell? ⟨g, o + i * 15 + 13, none⟩ = some (.int .i64 d.check) := hx 13 _ rfl
      have x14 : wr.cell? ⟨g, o + i * 15 + 14, none⟩ = some (.int .i64 d.key) := hx 14 _ rfl
      have HDT := Lib.hid (drop_of hd).2
      have hal5 := below_alloc wr (.cells #[.string (strL d.name), .int .i64 d.kind, .int .i64 d.bits, .bool d.little, .bool d.loose, .int .i64 d.low, .int .i64 d.high, .int .i64 d.base, .slice d.ta d.terms.length d.tc, .string (strL d.of_), .string (strL d.tag), .string (strL d.from_), .slice d.ca d.cases.length d.cc, .int .i64 d.check, .int .i64 d.key] 28)
      have hbx5 := FBox.new wr d
      obtain ⟨tb, etb⟩ : ∃ tb, wr.heap.size = tb := ⟨_, rfl⟩
      obtain ⟨w5, hw5⟩ : ∃ w5, wr.alloc (.cells #[.string (strL d.name), .int .i64 d.kind, .int .i64 d.bits, .bool d.little, .bool d.loose, .int .i64 d.low, .int .i64 d.high, .int .i64 d.base, .slice d.ta d.terms.length d.tc, .string (strL d.of_), .string (strL d.tag), .string (strL d.from_), .slice d.ca d.cases.length d.cc, .int .i64 d.check, .int .i64 d.key] 28) = w5 := ⟨_, rfl⟩
      rw [hw5] at hal5 hbx5
      rw [etb] at hbx5
      have y0 := hbx5.c0
      have y1 := hbx5.c1
      have y2 := hbx5.c2
      have y3 := hbx5.c3
      have y4 := hbx5.c4
      have y5 := hbx5.c5
      have y6 := hbx5.c6
      have y7 := hbx5.c7
      have y8 := hbx5.c8
      have y9 := hbx5.c9
      have y10 := hbx5.c10
      have y11 := hbx5.c11
      have y12 := hbx5.c12
      have y13 := hbx5.c13
      have y14 := hbx5.c14
      have HRA := range_any d w5
      unfold FieldD.agg at HRA
      obtain ⟨lo, hlo⟩ : ∃ lo, (if numB d then (ranP d).1 else 0) = lo := ⟨_, rfl⟩
      obtain ⟨hg, hhg⟩ : ∃ hg, (if numB d then (ranP d).2 else 0) = hg := ⟨_, rfl⟩
      rw [hlo, hhg] at HRA
      have HRA := Lib.hid HRA
      have HX5 := Lib.hid hbx5
      have W5 := Lib.hid hw5
      have ETB := Lib.hid etb
      have B5 := Lib.hid (HBW.out.trans (hal5.mono HBW.out.size))
      have M5 := Lib.hid (HM.out.below hal5 HM.out.lt)
      have RLT := Lib.hid (show r < w5.heap.size from Nat.lt_of_lt_of_le HM.out.lt hal5.size)
      clear hd hx hal5 hbx5 etb hw5
      go_upto_region 5 with fail
      rw [W5.out, ETB.out]
      clear x0 x1 x2 x3 x4 x5 x6 x7 x8 x9 x10 x11 x12 x13 x14
      cases hn : numB d with
      | false =>
        rw [hn] at HRA
        simp only [Bool.false_eq_true, if_false] at HRA
        have hst : ransE (D.take (i + 1)) = ransE (D.take i) := by rw [HDT.out, ransE_snoc]; unfold ranStep; rw [hn]; rfl
        have HST := Lib.hid hst
        clear hn hst hlo hhg
        go_wp2_with fail
        refine HRA.out.mono ?_
        rintro e w6 ⟨rfl, hb6⟩
        have hal7 := below_alloc w6 (.cells #[.int .i64 lo, .int .i64 hg] 31)
        obtain ⟨w7, hw7⟩ : ∃ w7, w6.alloc (.cells #[.int .i64 lo, .int .i64 hg] 31) = w7 := ⟨_, rfl⟩
        rw [hw7] at hal7
        have B57 := Lib.hid (hb6.trans (hal7.mono hb6.size))
        have W7 := Lib.hid hw7
        clear hb6 hal7 hw7 y0 y1 y2 y3 y4 y5 y6 y7 y8 y9 y10 y11 y12 y13 y14
        go_upto_region 6 with fail
        rw [W7.out]
        go_wp2_with fail
        go_roundw
        case rel => exact ⟨i + 1, by omega, by go_num, by rw [HST.out]; exact M5.out.below B57.out RLT.out, B5.out.trans (B57.out.mono B5.out.size)⟩
        case measure => simp [intOf]; omega
      | true =>
        rw [hn] at HRA
        simp only [if_true] at HRA
        have hst : ransE (D.take (i + 1)) = setE (ransE (D.take i)) d.name (.agg #[.int .i64 lo, .int .i64 hg]) := by
          rw [HDT.out, ransE_snoc]
          unfold ranStep ranV
          rw [← hlo, ← hhg, hn]
          rfl
        have HST := Lib.hid hst
        clear hn hst hlo hhg
        go_wp2_with fail
        refine HRA.out.mono ?_
        rintro e w6 ⟨rfl, hb6⟩
        have hal7 := below_alloc w6 (.cells #[.int .i64 lo, .int .i64 hg] 31)
        have hp7 := PBox.new w6 lo hg
        obtain ⟨pb, epb⟩ : ∃ pb, w6.heap.size = pb := ⟨_, rfl⟩
        obtain ⟨w7, hw7⟩ : ∃ w7, w6.alloc (.cells #[.int .i64 lo, .int .i64 hg] 31) = w7 := ⟨_, rfl⟩
        rw [hw7] at hal7 hp7
        rw [epb] at hp7
        have hb57 := hb6.trans (hal7.mono hb6.size)
        have hx7 := HX5.out.below hb57 HX5.out.lt
        have k0 := hx7.c0
        have p0 := hp7.c0
        have p1 := hp7.c1
        obtain ⟨w8, hrun, hm8, hr8⟩ := run_store (P := Try.prog) Try.underlying53 Try.ustr (M5.out.below hb57 RLT.out) d.name (.agg #[.int .i64 lo, .int .i64 hg])
        have B57 := Lib.hid hb57
        have W7 := Lib.hid hw7
        have EPB := Lib.hid epb
        have M8 := Lib.hid hm8
        have R8 := Lib.hid hr8
        have B58 := Lib.hid ((B5.out.trans (hb57.mono B5.out.size)).trans (hr8.toBelow w1.heap.size (Nat.le_trans B5.out.size hb57.size) (fun k hk e => by have := ER.out; omega)))
        clear hb6 hal7 hw7 hp7 epb hb57 hx7 hm8 hr8 y0 y1 y2 y3 y4 y5 y6 y7 y8 y9 y10 y11 y12 y13 y14
        go_upto_region 6 with fail
        rw [W7.out, EPB.out]
        go_wp2_with fail
        go_roundw
        case rel => exact ⟨i + 1, by omega, by go_num, by rw [HST.out]; exact M8.out, B58.out⟩
        case measure => simp [intOf]; omega
    · obtain rfl : i = D.length := by omega
      have hm := HM.out
      rw [List.take_length] at hm
      have HM2 := Lib.hid hm
      clear hm
      go_wp2_with fail
      go_ret
      exact ⟨r, rfl, by have := ER.out; have := HAL.out.size; omega, HM2.out, HAL.out.trans (HBW.out.mono HAL.out.size)⟩
end Go.Proofs.Yteibnmnpebfefaa
