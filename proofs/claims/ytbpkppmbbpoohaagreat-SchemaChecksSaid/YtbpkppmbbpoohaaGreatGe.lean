/- Which fields are numbers, and their ranges. Conditions: the fields lie in memory. The ranges of the numbers among fields. Conditions: the fields lie in memory. examine: a valid size whose fields all have allowed ranges has no fault. Conditions: the terms and the ranges lie in memory. -/
import Derived.Test.YtbpkppmbbpoohaaGreatGd
import Derived.Test.YtbpkppmbbpoohaaGreatRg
namespace Go.Proofs.YtbpkppmbbpoohaaGreat
open Go.RowKit Go.Shelf

def numB (d : FieldD) : Bool := d.kind == 1 || d.kind == 2 || d.kind == 3
/-- The range of a number. -/
def ranP (d : FieldD) : Int × Int := if d.kind == 2 then (d.low, d.low) else (d.low, d.high)

/-- A range in a block of its own. -/
structure PBox (W : World) (b : Nat) (x y : Int) : Prop where
  blk : W.heap[b]? = some (.cells #[.int .i64 x, .int .i64 y] 80 (0, 0))
section
variable {W W' : World} {b : Nat} {x y : Int}
theorem PBox.lt (h : PBox W b x y) : b < W.heap.size := (Array.getElem?_eq_some_iff.1 h.blk).1
theorem PBox.new (W : World) (x y : Int) : PBox (W.alloc (.cells #[.int .i64 x, .int .i64 y] 80)) W.heap.size x y := ⟨heap_alloc_new W _⟩
theorem PBox.below {n : Nat} (h : PBox W b x y) (hb : Below n W W') (hn : b < n) : PBox W' b x y := ⟨(hb.block b hn).trans h.blk⟩
theorem PBox.c0 (h : PBox W b x y) : W.cell? ⟨b, 0, none⟩ = some (.int .i64 x) := by simp [World.cell?, h.blk]
theorem PBox.c1 (h : PBox W b x y) : W.cell? ⟨b, 1, none⟩ = some (.int .i64 y) := by simp [World.cell?, h.blk]
theorem PBox.fr (h : PBox W b x y) (o : Nat) : W.frozen? ⟨b, o, none⟩ = false := by simp [World.frozen?, h.blk]
theorem PBox.set (h : PBox W b x y) (u v : Int) : PBox ((W.setCell ⟨b, 0, none⟩ (.int .i64 u)).setCell ⟨b, 1, none⟩ (.int .i64 v)) b u v := ⟨heap_setCell_same _ b 1 _ 80 _ (heap_setCell_same W b 0 _ 80 (.int .i64 u) h.blk)⟩
end

set_option maxRecDepth 100000 in
set_option maxHeartbeats 1600000 in
theorem number_any (d : FieldD) (w : World) : Calls Tryz.prog 66 #[d.agg] w fun e w' => e = .returned (.bool (numB d)) ∧ Below w.heap.size w w' := by
  unfold FieldD.agg
  have hal := below_alloc w (.cells #[.string (strL d.name), .int .i64 d.kind, .int .i64 d.bits, .bool d.little, .bool d.loose, .int .i64 d.low, .int .i64 d.high, .int .i64 d.base, .slice d.ta d.terms.length d.tc, .string (strL d.of_), .string (strL d.tag), .string (strL d.from_), .slice d.ca d.cases.length d.cc, .int .i64 d.check, .int .i64 d.key] 55)
  have hbx := FBox.new w d
  obtain ⟨b, eb⟩ : ∃ b, w.heap.size = b := ⟨_, rfl⟩
  obtain ⟨w1, hw1⟩ : ∃ w1, w.alloc (.cells #[.string (strL d.name), .int .i64 d.kind, .int .i64 d.bits, .bool d.little, .bool d.loose, .int .i64 d.low, .int .i64 d.high, .int .i64 d.base, .slice d.ta d.terms.length d.tc, .string (strL d.of_), .string (strL d.tag), .string (strL d.from_), .slice d.ca d.cases.length d.cc, .int .i64 d.check, .int .i64 d.key] 55) = w1 := ⟨_, rfl⟩
  rw [hw1] at hal hbx
  rw [eb] at hbx
  have HW := Lib.hid hw1
  have EB := Lib.hid eb
  have HAL := Lib.hid hal
  have y1 := hbx.c1
  obtain ⟨s1, e1⟩ : ∃ s, (d.kind == 1) = s := ⟨_, rfl⟩
  obtain ⟨s2, e2⟩ : ∃ s, (d.kind == 2) = s := ⟨_, rfl⟩
  obtain ⟨s3, e3⟩ : ∃ s, (d.kind == 3) = s := ⟨_, rfl⟩
  obtain ⟨R, hR⟩ : ∃ R, numB d = R := ⟨_, rfl⟩
  have hr : R = (s1 || s2 || s3) := by rw [← hR]; unfold numB; rw [e1, e2, e3]
  rw [hR]
  have HR := Lib.hid hr
  clear hal hbx eb hw1 hR hr
  cases s1
  · cases s2
    · cases s3
      all_goals
        go_enter Tryz.func66, Tryz.ntmps66
        go_upto_region 1 with fail
        rw [HW.out, EB.out]
        go_wp2_with fail
        go_ret
        exact ⟨ret_bool HR.out.symm, HAL.out⟩
    · go_enter Tryz.func66, Tryz.ntmps66
      go_upto_region 1 with fail
      rw [HW.out, EB.out]
      go_wp2_with fail
      go_ret
      exact ⟨ret_bool HR.out.symm, HAL.out⟩
  · go_enter Tryz.func66, Tryz.ntmps66
    go_upto_region 1 with fail
    rw [HW.out, EB.out]
    go_wp2_with fail
    go_ret
    exact ⟨ret_bool HR.out.symm, HAL.out⟩

set_option maxRecDepth 100000 in
set_option maxHeartbeats 3200000 in
theorem range_any (d : FieldD) (w : World) : Calls Tryz.prog 77 #[d.agg] w fun e w' => e = .returned (.tuple #[.agg #[.int .i64 (if numB d then (ranP d).1 else 0), .int .i64 (if numB d then (ranP d).2 else 0)], .int .i64 (if numB d then 0 else 2)]) ∧ Below w.heap.size w w' := by
  have HN := fun wx => Lib.hid (number_any d wx)
  unfold FieldD.agg at HN ⊢
  have hal0 := below_alloc w (.cells #[.string (strL d.name), .int .i64 d.kind, .int .i64 d.bits, .bool d.little, .bool d.loose, .int .i64 d.low, .int .i64 d.high, .int .i64 d.base, .slice d.ta d.terms.length d.tc, .string (strL d.of_), .string (strL d.tag), .string (strL d.from_), .slice d.ca d.cases.length d.cc, .int .i64 d.check, .int .i64 d.key] 55)
  have hbx0 := FBox.new w d
  obtain ⟨wa, hwa⟩ : ∃ wa, w.alloc (.cells #[.string (strL d.name), .int .i64 d.kind, .int .i64 d.bits, .bool d.little, .bool d.loose, .int .i64 d.low, .int .i64 d.high, .int .i64 d.base, .slice d.ta d.terms.length d.tc, .string (strL d.of_), .string (strL d.tag), .string (strL d.from_), .slice d.ca d.cases.length d.cc, .int .i64 d.check, .int .i64 d.key] 55) = wa := ⟨_, rfl⟩
  rw [hwa] at hal0 hbx0
  have hal1 := below_alloc wa (.cells #[.int .i64 0, .int .i64 0] 80)
  have hp := PBox.new wa 0 0
  have hbx := hbx0.below hal1 hbx0.lt
  have hal := hal0.trans (hal1.mono hal0.size)
  have hpb : wa.heap.size = w.heap.size + 1 := by rw [← hwa]; simp
  obtain ⟨w1, hw1⟩ : ∃ w1, wa.alloc (.cells #[.int .i64 0, .int .i64 0] 80) = w1 := ⟨_, rfl⟩
  rw [hw1] at hp hbx hal
  rw [hpb] at hp
  have hw : (w.alloc (.cells #[.string (strL d.name), .int .i64 d.kind, .int .i64 d.bits, .bool d.little, .bool d.loose, .int .i64 d.low, .int .i64 d.high, .int .i64 d.base, .slice d.ta d.terms.length d.tc, .string (strL d.of_), .string (strL d.tag), .string (strL d.from_), .slice d.ca d.cases.length d.cc, .int .i64 d.check, .int .i64 d.key] 55)).alloc (.cells #[.int .i64 0, .int .i64 0] 80) = w1 := by rw [hwa, hw1]
  obtain ⟨b, eb⟩ : ∃ b, w.heap.size = b := ⟨_, rfl⟩
  rw [eb] at hp hbx
  have KB : Hid (∀ wx, Below w1.heap.size w1 wx → FBox wx b d ∧ PBox wx (b + 1) 0 0) := Lib.hid (fun wx hb => ⟨hbx.below hb hbx.lt, hp.below hb hp.lt⟩)
  have HW := Lib.hid hw
  have EB := Lib.hid eb
  have HAL := Lib.hid hal
  have y0 := hbx.c0
  have y1 := hbx.c1
  have y2 := hbx.c2
  have y3 := hbx.c3
  have y4 := hbx.c4
  have y5 := hbx.c5
  have y6 := hbx.c6
  have y7 := hbx.c7
  have y8 := hbx.c8
  have y9 := hbx.c9
  have y10 := hbx.c10
  have y11 := hbx.c11
  have y12 := hbx.c12
  have y13 := hbx.c13
  have y14 := hbx.c14
  clear hal0 hbx0 hwa hal1 hp hbx hal hpb hw1 hw eb
  have hend : ∀ wx u v, Below w1.heap.size w1 wx → PBox ((wx.setCell ⟨b + 1, 0, none⟩ (.int .i64 u)).setCell ⟨b + 1, 1, none⟩ (.int .i64 v)) (b + 1) u v ∧ Below w.heap.size w ((wx.setCell ⟨b + 1, 0, none⟩ (.int .i64 u)).setCell ⟨b + 1, 1, none⟩ (.int .i64 v)) := fun wx u v hb => ⟨(KB.out wx hb).2.set u v, ((HAL.out.trans (hb.mono HAL.out.size)).setCell (p := ⟨b + 1, 0, none⟩) (by show w.heap.size ≤ b + 1; have := EB.out; omega) _).setCell (p := ⟨b + 1, 1, none⟩) (by show w.heap.size ≤ b + 1; have := EB.out; omega) _⟩
  have HE := Lib.hid hend
  clear hend
  cases hn : numB d with
  | false =>
    rw [hn] at HN
    simp only [Bool.false_eq_true, if_false]
    clear hn
    go_enter Tryz.func77, Tryz.ntmps77
    go_upto_region 1 with fail
    rw [HW.out, EB.out]
    go_wp2_with fail
    refine ((HN _).out).mono ?_
    rintro e w2 ⟨rfl, hb2⟩
    have hp2 := (KB.out w2 hb2).2
    have p0 := hp2.c0
    have p1 := hp2.c1
    have p2 := hp2.fr 0
    have p3 := hp2.fr 1
    obtain ⟨hs1, hs2⟩ := HE.out w2 0 0 hb2
    have HS2 := Lib.hid hs2
    have HS1 := Lib.hid hs1
    clear hb2 hp2 hs1 hs2 y0 y1 y2 y3 y4 y5 y6 y7 y8 y9 y10 y11 y12 y13 y14
    go_wp2_with fail
    have q0 := HS1.out.c0
    have q1 := HS1.out.c1
    refine bodyPost_ret (by simp [results, Tryz.results77, go_sem, *]; try rfl) rfl ?_
    exact ⟨rfl, HS2.out⟩
  | true =>
    rw [hn] at HN
    simp only [if_true]
    obtain ⟨s2, e2⟩ : ∃ s, (d.kind == 2) = s := ⟨_, rfl⟩
    unfold ranP
    rw [e2]
    clear hn
    cases s2
    all_goals
      simp only [Bool.false_eq_true, if_false, if_true]
      go_enter Tryz.func77, Tryz.ntmps77
      go_upto_region 1 with fail
      rw [HW.out, EB.out]
      go_wp2_with fail
      refine ((HN _).out).mono ?_
      rintro e w2 ⟨rfl, hb2⟩
      have hk2 := (KB.out w2 hb2).1
      have z1 := hk2.c1
      have z5 := hk2.c5
      have z6 := hk2.c6
      have hp2 := (KB.out w2 hb2).2
      have p0 := hp2.c0
      have p1 := hp2.c1
      have p2 := hp2.fr 0
      have p3 := hp2.fr 1
      have HSS := fun u v => Lib.hid (HE.out w2 u v hb2)
      clear hb2 hp2 hk2 y0 y1 y2 y3 y4 y5 y6 y7 y8 y9 y10 y11 y12 y13 y14
      go_wp2_with fail
      first
        | (have q0 := (HSS d.low d.low).out.1.c0
           have q1 := (HSS d.low d.low).out.1.c1
           refine bodyPost_ret (by simp [results, Tryz.results77, go_sem, *]; try rfl) rfl ?_
           exact ⟨rfl, (HSS d.low d.low).out.2⟩)
        | (have q0 := (HSS d.low d.high).out.1.c0
           have q1 := (HSS d.low d.high).out.1.c1
           refine bodyPost_ret (by simp [results, Tryz.results77, go_sem, *]; try rfl) rfl ?_
           exact ⟨rfl, (HSS d.low d.high).out.2⟩)
end Go.Proofs.YtbpkppmbbpoohaaGreat

namespace Go.Proofs.YtbpkppmbbpoohaaGreat
open Go.RowKit Go.Shelf

def ranV (p : Int × Int) : Value := .agg #[.int .i64 p.1, .int .i64 p.2]
def ranStep (E : Ents) (d : FieldD) : Ents := if numB d then setE E d.name (ranV (ranP d)) else E
def ransE (D : List FieldD) : Ents := D.foldl ranStep []
theorem ransE_snoc (D : List FieldD) (d : FieldD) : ransE (D ++ [d]) = ranStep (ransE D) d := by simp [ransE, List.foldl_append]

/-- A message in a block of its own. -/
theorem msgbox (w : World) (x0 x1 : Value) : (w.alloc (.cells #[x0, x1] 36)).heap[w.heap.size]? = some (.cells #[x0, x1] 36 (0, 0)) := heap_alloc_new w _

set_option maxRecDepth 100000 in
set_option maxHeartbeats 3200000 in
theorem ranges_any (nm : List UInt8) (A : Option Addr) (c : Nat) (D : List FieldD) (S : Nat → Prop) (w : World) (h : SlAt FieldD.cells 15 S w A c D) :
    Calls Tryz.prog 40 #[.agg #[.string (strL nm), .slice A D.length c]] w fun e w' => ∃ r, e = .returned (.map (some r)) ∧ w.heap.size ≤ r ∧ MapAt w' r (ransE D) ∧ Below w.heap.size w w' := by
  have hl : D.length ≤ 9223372036854775807 := Nat.le_trans h.1 h.2.1
  have hal := below_alloc w (.cells #[.string (strL nm), .slice A D.length c] 36)
  have hbx := msgbox w (.string (strL nm)) (.slice A D.length c)
  have h1 := h.below hal
  obtain ⟨b, eb⟩ : ∃ b, w.heap.size = b := ⟨_, rfl⟩
  obtain ⟨w1, hw1⟩ : ∃ w1, w.alloc (.cells #[.string (strL nm), .slice A D.length c] 36) = w1 := ⟨_, rfl⟩
  rw [hw1] at hal hbx h1
  rw [eb] at hbx
  have hbl : b < w1.heap.size := (Array.getElem?_eq_some_iff.1 hbx).1
  have KEEP : Hid (∀ wx, Below w1.heap.size w1 wx → wx.cell? ⟨b, 0, none⟩ = some (.string (strL nm)) ∧ wx.cell? ⟨b, 1, none⟩ = some (.slice A D.length c)) := Lib.hid (fun wx hb => by
    have := (hb.block b hbl).trans hbx
    exact ⟨by simp [World.cell?, this], by simp [World.cell?, this]⟩)
  have hm0 := MapAt.new w1
  have hb2 := below_alloc w1 (.map #[] 0)
  have hmk := run_makeMap_plain (P := Tryz.prog) w1 77
  obtain ⟨r, er⟩ : ∃ r, w1.heap.size = r := ⟨_, rfl⟩
  obtain ⟨w2, hw2⟩ : ∃ w2, w1.alloc (.map #[] 0) = w2 := ⟨_, rfl⟩
  rw [hw2] at hm0 hb2 hmk
  rw [er] at hm0 hmk
  obtain ⟨z0, z1⟩ := KEEP.out w2 hb2
  have HW := Lib.hid hw1
  have HW2 := Lib.hid hw2
  have EB := Lib.hid eb
  have ER := Lib.hid er
  have HAL := Lib.hid hal
  have H1 := Lib.hid h1
  have HM0 := Lib.hid hm0
  have HB2 := Lib.hid hb2
  clear h hw1 hw2 eb er hal hbx h1 hbl hm0 hb2
  go_enter Tryz.func40, Tryz.ntmps40
  go_upto_region 1 with fail
  rw [HW.out, EB.out]
  go_wp2_with fail
  clear z0 z1 hmk
  go_loopw [12] (fun x12 wr => ∃ i : Nat, i ≤ D.length ∧ x12 = .int .i64 ((i : Nat) : Int) ∧ MapAt wr r (ransE (D.take i)) ∧ Below w1.heap.size w1 wr) (fun x12 _ => D.length - (intOf x12).toNat)
  case atStart => exact ⟨0, Nat.zero_le _, rfl, HM0.out, HB2.out⟩
  case round =>
    obtain ⟨i, hi, rfl, hm, hbw⟩ := hrel
    have HM := Lib.hid hm
    have HBW := Lib.hid hbw
    clear hm hbw HM0 HB2
    by_cases hlt : i < D.length
    · obtain ⟨d, hd⟩ : ∃ d, D[i]? = some d := ⟨_, List.getElem?_eq_getElem hlt⟩
      obtain ⟨g, o, rfl, hx⟩ := (H1.out.rest (Rest.below HBW.out) (fun _ _ e => e)).at_ hd
      have x0 : wr.cell? ⟨g, o + i * 15, none⟩ = some (.string (strL d.name)) := hx 0 _ rfl
      have x1 : wr.cell? ⟨g, o + i * 15 + 1, none⟩ = some (.int .i64 d.kind) := hx 1 _ rfl
      have x2 : wr.cell? ⟨g, o + i * 15 + 2, none⟩ = some (.int .i64 d.bits) := hx 2 _ rfl
      have x3 : wr.cell? ⟨g, o + i * 15 + 3, none⟩ = some (.bool d.little) := hx 3 _ rfl
      have x4 : wr.cell? ⟨g, o + i * 15 + 4, none⟩ = some (.bool d.loose) := hx 4 _ rfl
      have x5 : wr.cell? ⟨g, o + i * 15 + 5, none⟩ = some (.int .i64 d.low) := hx 5 _ rfl
      have x6 : wr.cell? ⟨g, o + i * 15 + 6, none⟩ = some (.int .i64 d.high) := hx 6 _ rfl
      have x7 : wr.cell? ⟨g, o + i * 15 + 7, none⟩ = some (.int .i64 d.base) := hx 7 _ rfl
      have x8 : wr.cell? ⟨g, o + i * 15 + 8, none⟩ = some (.slice d.ta d.terms.length d.tc) := hx 8 _ rfl
      have x9 : wr.cell? ⟨g, o + i * 15 + 9, none⟩ = some (.string (strL d.of_)) := hx 9 _ rfl
      have x10 : wr.cell? ⟨g, o + i * 15 + 10, none⟩ = some (.string (strL d.tag)) := hx 10 _ rfl
      have x11 : wr.cell? ⟨g, o + i * 15 + 11, none⟩ = some (.string (strL d.from_)) := hx 11 _ rfl
      have x12 : wr.cell? ⟨g, o + i * 15 + 12, none⟩ = some (.slice d.ca d.cases.length d.cc) := hx 12 _ rfl
      have x13 : wr.cell? ⟨g, o + i * 15 + 13, none⟩ = some (.int .i64 d.check) := hx 13 _ rfl
      have x14 : wr.cell? ⟨g, o + i * 15 + 14, none⟩ = some (.int .i64 d.key) := hx 14 _ rfl
      have HDT := Lib.hid (drop_of hd).2
      have hal5 := below_alloc wr (.cells #[.string (strL d.name), .int .i64 d.kind, .int .i64 d.bits, .bool d.little, .bool d.loose, .int .i64 d.low, .int .i64 d.high, .int .i64 d.base, .slice d.ta d.terms.length d.tc, .string (strL d.of_), .string (strL d.tag), .string (strL d.from_), .slice d.ca d.cases.length d.cc, .int .i64 d.check, .int .i64 d.key] 55)
      have hbx5 := FBox.new wr d
      obtain ⟨tb, etb⟩ : ∃ tb, wr.heap.size = tb := ⟨_, rfl⟩
      obtain ⟨w5, hw5⟩ : ∃ w5, wr.alloc (.cells #[.string (strL d.name), .int .i64 d.kind, .int .i64 d.bits, .bool d.little, .bool d.loose, .int .i64 d.low, .int .i64 d.high, .int .i64 d.base, .slice d.ta d.terms.length d.tc, .string (strL d.of_), .string (strL d.tag), .string (strL d.from_), .slice d.ca d.cases.length d.cc, .int .i64 d.check, .int .i64 d.key] 55) = w5 := ⟨_, rfl⟩
      rw [hw5] at hal5 hbx5
      rw [etb] at hbx5
      have y0 := hbx5.c0
      have y1 := hbx5.c1
      have y2 := hbx5.c2
      have y3 := hbx5.c3
      have y4 := hbx5.c4
      have y5 := hbx5.c5
      have y6 := hbx5.c6
      have y7 := hbx5.c7
      have y8 := hbx5.c8
      have y9 := hbx5.c9
      have y10 := hbx5.c10
      have y11 := hbx5.c11
      have y12 := hbx5.c12
      have y13 := hbx5.c13
      have y14 := hbx5.c14
      have HRA := range_any d w5
      unfold FieldD.agg at HRA
      obtain ⟨lo, hlo⟩ : ∃ lo, (if numB d then (ranP d).1 else 0) = lo := ⟨_, rfl⟩
      obtain ⟨hg, hhg⟩ : ∃ hg, (if numB d then (ranP d).2 else 0) = hg := ⟨_, rfl⟩
      rw [hlo, hhg] at HRA
      have HRA := Lib.hid HRA
      have HX5 := Lib.hid hbx5
      have W5 := Lib.hid hw5
      have ETB := Lib.hid etb
      have B5 := Lib.hid (HBW.out.trans (hal5.mono HBW.out.size))
      have M5 := Lib.hid (HM.out.below hal5 HM.out.lt)
      have RLT := Lib.hid (show r < w5.heap.size from Nat.lt_of_lt_of_le HM.out.lt hal5.size)
      clear hd hx hal5 hbx5 etb hw5
      go_upto_region 5 with fail
      rw [W5.out, ETB.out]
      clear x0 x1 x2 x3 x4 x5 x6 x7 x8 x9 x10 x11 x12 x13 x14
      cases hn : numB d with
      | false =>
        rw [hn] at HRA
        simp only [Bool.false_eq_true, if_false] at HRA
        have hst : ransE (D.take (i + 1)) = ransE (D.take i) := by rw [HDT.out, ransE_snoc]; unfold ranStep; rw [hn]; rfl
        have HST := Lib.hid hst
        clear hn hst hlo hhg
        go_wp2_with fail
        refine HRA.out.mono ?_
        rintro e w6 ⟨rfl, hb6⟩
        have hal7 := below_alloc w6 (.cells #[.int .i64 lo, .int .i64 hg] 80)
        obtain ⟨w7, hw7⟩ : ∃ w7, w6.alloc (.cells #[.int .i64 lo, .int .i64 hg] 80) = w7 := ⟨_, rfl⟩
        rw [hw7] at hal7
        have B57 := Lib.hid (hb6.trans (hal7.mono hb6.size))
        have W7 := Lib.hid hw7
        clear hb6 hal7 hw7 y0 y1 y2 y3 y4 y5 y6 y7 y8 y9 y10 y11 y12 y13 y14
        go_upto_region 6 with fail
        rw [W7.out]
        go_wp2_with fail
        go_roundw
        case rel => exact ⟨i + 1, by omega, by go_num, by rw [HST.out]; exact M5.out.below B57.out RLT.out, B5.out.trans (B57.out.mono B5.out.size)⟩
        case measure => simp [intOf]; omega
      | true =>
        rw [hn] at HRA
        simp only [if_true] at HRA
        have hst : ransE (D.take (i + 1)) = setE (ransE (D.take i)) d.name (.agg #[.int .i64 lo, .int .i64 hg]) := by
          rw [HDT.out, ransE_snoc]
          unfold ranStep ranV
          rw [← hlo, ← hhg, hn]
          rfl
        have HST := Lib.hid hst
        clear hn hst hlo hhg
        go_wp2_with fail
        refine HRA.out.mono ?_
        rintro e w6 ⟨rfl, hb6⟩
        have hal7 := below_alloc w6 (.cells #[.int .i64 lo, .int .i64 hg] 80)
        have hp7 := PBox.new w6 lo hg
        obtain ⟨pb, epb⟩ : ∃ pb, w6.heap.size = pb := ⟨_, rfl⟩
        obtain ⟨w7, hw7⟩ : ∃ w7, w6.alloc (.cells #[.int .i64 lo, .int .i64 hg] 80) = w7 := ⟨_, rfl⟩
        rw [hw7] at hal7 hp7
        rw [epb] at hp7
        have hb57 := hb6.trans (hal7.mono hb6.size)
        have hx7 := HX5.out.below hb57 HX5.out.lt
        have k0 := hx7.c0
        have p0 := hp7.c0
        have p1 := hp7.c1
        obtain ⟨w8, hrun, hm8, hr8⟩ := run_store (P := Tryz.prog) Tryz.underlying77 Tryz.ustr (M5.out.below hb57 RLT.out) d.name (.agg #[.int .i64 lo, .int .i64 hg])
        have B57 := Lib.hid hb57
        have W7 := Lib.hid hw7
        have EPB := Lib.hid epb
        have M8 := Lib.hid hm8
        have R8 := Lib.hid hr8
        have B58 := Lib.hid ((B5.out.trans (hb57.mono B5.out.size)).trans (hr8.toBelow w1.heap.size (Nat.le_trans B5.out.size hb57.size) (fun k hk e => by have := ER.out; omega)))
        clear hb6 hal7 hw7 hp7 epb hb57 hx7 hm8 hr8 y0 y1 y2 y3 y4 y5 y6 y7 y8 y9 y10 y11 y12 y13 y14
        go_upto_region 6 with fail
        rw [W7.out, EPB.out]
        go_wp2_with fail
        go_roundw
        case rel => exact ⟨i + 1, by omega, by go_num, by rw [HST.out]; exact M8.out, B58.out⟩
        case measure => simp [intOf]; omega
    · obtain rfl : i = D.length := by omega
      have hm := HM.out
      rw [List.take_length] at hm
      have HM2 := Lib.hid hm
      clear hm
      go_wp2_with fail
      go_ret
      exact ⟨r, rfl, by have := ER.out; have := HAL.out.size; omega, HM2.out, HAL.out.trans (HBW.out.mono HAL.out.size)⟩
end Go.Proofs.YtbpkppmbbpoohaaGreat

namespace Go.Proofs.YtbpkppmbbpoohaaGreat
open Go.RowKit Go.Shelf
attribute [local go_sem] Oper.semAt_some

abbrev PEnts := List (List UInt8 × (Int × Int))
def pE (E : PEnts) : Ents := E.map fun p => (p.1, ranV p.2)
def getP : PEnts → List UInt8 → Option (Int × Int)
  | [], _ => none
  | p :: E, k => if p.1 = k then some p.2 else getP E k
def setP : PEnts → List UInt8 → Int × Int → PEnts
  | [], k, v => [(k, v)]
  | p :: E, k, v => if p.1 = k then (k, v) :: E else p :: setP E k v
theorem getE_p (E : PEnts) (k : List UInt8) : getE (pE E) k = (getP E k).map ranV := by
  induction E with
  | nil => rfl
  | cons p E ih =>
    simp only [pE, List.map_cons, getE, getP]
    split
    · rfl
    · exact ih
theorem setE_p (E : PEnts) (k : List UInt8) (v : Int × Int) : setE (pE E) k (ranV v) = pE (setP E k v) := by
  induction E with
  | nil => rfl
  | cons p E ih =>
    simp only [pE, List.map_cons, setE, setP]
    split
    · simp
    · simp only [List.map_cons, List.cons.injEq, true_and]
      exact ih
def ransP (D : List FieldD) : PEnts := D.foldl (fun E d => if numB d then setP E d.name (ranP d) else E) []
theorem ransP_snoc (D : List FieldD) (d : FieldD) : ransP (D ++ [d]) = if numB d then setP (ransP D) d.name (ranP d) else ransP D := by simp [ransP, List.foldl_append]
theorem ransE_p (D : List FieldD) : ransE D = pE (ransP D) := by
  suffices h : ∀ n, ransE (D.take n) = pE (ransP (D.take n)) by
    have := h D.length
    rwa [List.take_length] at this
  intro n
  induction n with
  | zero => rfl
  | succ n ih =>
    cases hd : D[n]? with
    | none =>
      have hl : D.length ≤ n := by rwa [List.getElem?_eq_none_iff] at hd
      rw [List.take_of_length_le (by omega)]
      rwa [List.take_of_length_le hl] at ih
    | some d =>
      rw [(drop_of hd).2, ransE_snoc, ransP_snoc]
      unfold ranStep
      split
      · rw [ih, setE_p]
      · exact ih

def allowP (p : Int × Int) : Bool := decide (0 ≤ p.1) && (decide (p.1 ≤ p.2) && decide (p.2 < 34359738368))

set_option maxRecDepth 100000 in
set_option maxHeartbeats 1600000 in
theorem allow_any (p : Int × Int) (w : World) : Calls Tryz.prog 156 #[.agg #[.int .i64 p.1, .int .i64 p.2]] w fun e w' => e = .returned (.bool (allowP p)) ∧ Below w.heap.size w w' := by
  have hal := below_alloc w (.cells #[.int .i64 p.1, .int .i64 p.2] 80)
  have hbx := PBox.new w p.1 p.2
  obtain ⟨b, eb⟩ : ∃ b, w.heap.size = b := ⟨_, rfl⟩
  obtain ⟨w1, hw1⟩ : ∃ w1, w.alloc (.cells #[.int .i64 p.1, .int .i64 p.2] 80) = w1 := ⟨_, rfl⟩
  rw [hw1] at hal hbx
  rw [eb] at hbx
  have y0 := hbx.c0
  have y1 := hbx.c1
  have HW := Lib.hid hw1
  have EB := Lib.hid eb
  have HAL := Lib.hid hal
  obtain ⟨R, hR⟩ : ∃ R, allowP p = R := ⟨_, rfl⟩
  rw [hR]
  obtain ⟨s0, e0⟩ : ∃ s, decide (0 ≤ p.1) = s := ⟨_, rfl⟩
  obtain ⟨s1, e1⟩ : ∃ s, decide (p.1 ≤ p.2) = s := ⟨_, rfl⟩
  obtain ⟨s2, e2⟩ : ∃ s, decide (p.2 < 34359738368) = s := ⟨_, rfl⟩
  have hr : (s0 && (s1 && s2)) = R := by rw [← hR]; unfold allowP; rw [e0, e1, e2]
  have HALL : ∀ wx g, wx.heap[g]? = some (.cells #[.bool s0, .bool s1, .bool s2] 4 (0, 0)) → Hid (Calls Tryz.prog 152 #[.slice (some ⟨g, 0, none⟩) 3 3] wx fun e w' => e = .returned (.bool R) ∧ w' = wx) := fun wx g h => Lib.hid (by
    have := all3 wx g s0 s1 s2 _ h
    rwa [hr] at this)
  clear hw1 eb hal hbx hr hR
  go_enter Tryz.func156, Tryz.ntmps156
  go_upto_region 1 with fail
  rw [HW.out, EB.out]
  go_wp2_with fail
  refine ((HALL _ _ (by exact heap_alloc_new w1 _)).out).mono ?_
  rintro e w2 ⟨rfl, rfl⟩
  have HB2 := Lib.hid (HAL.out.trans ((below_alloc w1 (.cells #[.bool s0, .bool s1, .bool s2] 4)).mono HAL.out.size))
  go_wp2_with fail
  go_ret
  exact ⟨rfl, HB2.out⟩
theorem Tryz.entAllow : ∀ args w, (callFunc 156 args).run Tryz.prog w = .ok (.enter 156 args) w := enters_of Tryz.func156 (by kernel_rfl) rfl
end Go.Proofs.YtbpkppmbbpoohaaGreat
