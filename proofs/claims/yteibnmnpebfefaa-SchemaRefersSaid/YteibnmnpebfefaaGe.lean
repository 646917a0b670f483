/- Which fields are numbers, and their ranges. Conditions: the fields lie in memory. -/
import Derived.Test.YteibnmnpebfefaaGd
namespace Go.Proofs.Yteibnmnpebfefaa
open Go.RowKit Go.Shelf

def numB (d : FieldD) : Bool := d.kind == 1 || d.kind == 2 || d.kind == 3
/-- The range of a number. -/
def ranP (d : FieldD) : Int × Int := if d.kind == 2 then (d.low, d.low) else (d.low, d.high)

/-- A range in a block of its own. -/
structure PBox (W : World) (b : Nat) (x y : Int) : Prop where
  blk : W.heap[b]? = some (.cells #[.int .i64 x, .int .i64 y] 31 (0, 0))
section
variable {W W' : World} {b : Nat} {x y : Int}
theorem PBox.lt (h : PBox W b x y) : b < W.heap.size := (Array.getElem?_eq_some_iff.1 h.blk).1
theorem PBox.new (W : World) (x y : Int) : PBox (W.alloc (.cells #[.int .i64 x, .int .i64 y] 31)) W.heap.size x y := ⟨heap_alloc_new W _⟩
theorem PBox.below {n : Nat} (h : PBox W b x y) (hb : Below n W W') (hn : b < n) : PBox W' b x y := ⟨(hb.block b hn).trans h.blk⟩
theorem PBox.c0 (h : PBox W b x y) : W.cell? ⟨b, 0, none⟩ = some (.int .i64 x) := by simp [World.cell?, h.blk]
theorem PBox.c1 (h : PBox W b x y) : W.cell? ⟨b, 1, none⟩ = some (.int .i64 y) := by simp [World.cell?, h.blk]
theorem PBox.fr (h : PBox W b x y) (o : Nat) : W.frozen? ⟨b, o, none⟩ = false := by simp [World.frozen?, h.blk]
theorem PBox.set (h : PBox W b x y) (u v : Int) : PBox ((W.setCell ⟨b, 0, none⟩ (.int .i64 u)).setCell ⟨b, 1, none⟩ (.int .i64 v)) b u v := ⟨heap_setCell_same _ b 1 _ 31 _ (heap_setCell_same W b 0 _ 31 (.int .i64 u) h.blk)⟩
end

set_option maxRecDepth 100000 in
set_option maxHeartbeats 1600000 in
theorem number_any (d : FieldD) (w : World) : Calls Try.prog 13 #[d.agg] w fun e w' => e = .returned (.bool (numB d)) ∧ Below w.heap.size w w' := by
  unfold FieldD.agg
  have hal := below_alloc w (.cells #[.string (strL d.name), .int .i64 d.kind, .int .i64 d.bits, .bool d.little, .bool d.loose, .int .i64 d.low, .int .i64 d.high, .int .i64 d.base, .slice d.ta d.terms.length d.tc, .string (strL d.of_), .string (strL d.tag), .string (strL d.from_), .slice d.ca d.cases.length d.cc, .int .i64 d.check, .int .i64 d.key] 28)
  have hbx := FBox.new w d
  obtain ⟨b, eb⟩ : ∃ b, w.heap.size = b := ⟨_, rfl⟩
  obtain ⟨w1, hw1⟩ : ∃ w1, w.alloc (.cells #[.string (strL d.name), .int .i64 d.kind, .int .i64 d.bits, .bool d.little, .bool d.loose, .int .i64 d.low, .int .i64 d.high, .int .i64 d.base, .slice d.ta d.terms.length d.tc, .string (strL d.of_), .string (strL d.tag), .string (strL d.from_), .slice d.ca d.cases.length d.cc, .int .i64 d.check, .int .i64 d.key] 28) = w1 := ⟨_, rfl⟩
  rw [hw1] at hal hbx
  rw [eb] at hbx
  have HW := Lib.hid hw1
  have EB := Lib.hid eb
  have HAL := Lib.hid hal
  have y1 := hbx.c1
  obtain ⟨s1, e1⟩ : ∃ s, (d.kind == 1) = s := ⟨_, rfl⟩
  obtain ⟨s2, e2⟩ : ∃ s, (d.kind == 2) = s := ⟨_, rfl⟩
  obtain ⟨s3, e3⟩ : ∃ s, (d.kind == 3) = s := ⟨_, rfl⟩
  obtain ⟨R, hR⟩ : ∃ R, numB d = R := ⟨_, rfl⟩
  have hr : R = (s1 || s2 || s3) := by rw [← hR]; unfold numB; rw [e1, e2, e3]
  rw [hR]
  have HR := Lib.hid hr
  clear hal hbx eb hw1 hR hr
  cases s1
  · cases s2
    · cases s3
      all_goals
        go_enter Try.func13, Try.ntmps13
        go_upto_region 1 with fail
        rw [HW.out, EB.out]
        go_wp2_with fail
        go_ret
        exact ⟨ret_bool HR.out.symm, HAL.out⟩
    · go_enter Try.func13, Try.ntmps13
      go_upto_region 1 with fail
      rw [HW.out, EB.out]
      go_wp2_with fail
      go_ret
      exact ⟨ret_bool HR.out.symm, HAL.out⟩
  · go_enter Try.func13, Try.ntmps13
    go_upto_region 1 with fail
    rw [HW.out, EB.out]
    go_wp2_with fail
    go_ret
    exact ⟨ret_bool HR.out.symm, HAL.out⟩

set_option maxRecDepth 100000 in
set_option maxHeartbeats 3200000 in
theorem range_any (d : FieldD) (w : World) : Calls Try.prog 10 #[d.agg] w fun e w' => e = .returned (.tuple #[.agg #[.int .i64 (if numB d then (ranP d).1 else 0), .int .i64 (if numB d then (ranP d).2 else 0)], .int .i64 (if numB d then 0 else 2)]) ∧ Below w.heap.size w w' := by
  have HN := fun wx => Lib.hid (number_any d wx)
  unfold FieldD.agg at HN ⊢
  have hal0 := below_alloc w (.cells #[.string (strL d.name), .int .i64 d.kind, .int .i64 d.bits, .bool d.little, .bool d.loose, .int .i64 d.low, .int .i64 d.high, .int .i64 d.base, .slice d.ta d.terms.length d.tc, .string (strL d.of_), .string (strL d.tag), .string (strL d.from_), .slice d.ca d.cases.length d.cc, .int .i64 d.check, .int .i64 d.key] 28)
  have hbx0 := FBox.new w d
  obtain ⟨wa, hwa⟩ : ∃ wa, w.alloc (.cells #[.string (strL d.name), .int .i64 d.kind, .int .i64 d.bits, .bool d.little, .bool d.loose, .int .i64 d.low, .int .i64 d.high, .int .i64 d.base, .slice d.ta d.terms.length d.tc, .string (strL d.of_), .string (strL d.tag), .string (strL d.from_), .slice d.ca d.cases.length d.cc, .int .i64 d.check, .int .i64 d.key] 28) = wa := ⟨_, rfl⟩
  rw [hwa] at hal0 hbx0
  have hal1 := below_alloc wa (.cells #[.int .i64 0, .int .i64 0] 31)
  have hp := PBox.new wa 0 0
  have hbx := hbx0.below hal1 hbx0.lt
  have hal := hal0.trans (hal1.mono hal0.size)
  have hpb : wa.heap.size = w.heap.size + 1 := by rw [← hwa]; simp
  obtain ⟨w1, hw1⟩ : ∃ w1, wa.alloc (.cells #[.int .i64 0, .int .i64 0] 31) = w1 := ⟨_, rfl⟩
  rw [hw1] at hp hbx hal
  rw [hpb] at hp
  have hw : (w.alloc (.cells #[.string (strL d.name), .int .i64 d.kind, .int .i64 d.bits, .bool d.little, .bool d.loose, .int .i64 d.low, .int .i64 d.high, .int .i64 d.base, .slice d.ta d.terms.length d.tc, .string (strL d.of_), .string (strL d.tag), .string (strL d.from_), .slice d.ca d.cases.length d.cc, .int .i64 d.check, .int .i64 d.key] 28)).alloc (.cells #[.int .i64 0, .int .i64 0] 31) = w1 := by rw [hwa, hw1]
  obtain ⟨b, eb⟩ : ∃ b, w.heap.size = b := ⟨_, rfl⟩
  rw [eb] at hp hbx
  have KB : Hid (∀ wx, Below w1.heap.size w1 wx → FBox wx b d ∧ PBox wx (b + 1) 0 0) := Lib.hid (fun wx hb => ⟨hbx.below hb hbx.lt, hp.below hb hp.lt⟩)
  have HW := Lib.hid hw
  have EB := Lib.hid eb
  have HAL := Lib.hid hal
  have y0 := hbx.c0
  have y1 := hbx.c1
  have y2 := hbx.c2
  have y3 := hbx.c3
  have y4 := hbx.c4
  have y5 := hbx.c5
  have y6 := hbx.c6
  have y7 := hbx.c7
  have y8 := hbx.c8
  have y9 := hbx.c9
  have y10 := hbx.c10
  have y11 := hbx.c11
  have y12 := hbx.c12
  have y13 := hbx.c13
  have y14 := hbx.c14
  clear hal0 hbx0 hwa hal1 hp hbx hal hpb hw1 hw eb
  have hend : ∀ wx u v, Below w1.heap.size w1 wx → PBox ((wx.setCell ⟨b + 1, 0, none⟩ (.int .i64 u)).setCell ⟨b + 1, 1, none⟩ (.int .i64 v)) (b + 1) u v ∧ Below w.heap.size w ((wx.setCell ⟨b + 1, 0, none⟩ (.int .i64 u)).setCell ⟨b + 1, 1, none⟩ (.int .i64 v)) := fun wx u v hb => ⟨(KB.out wx hb).2.set u v, ((HAL.out.trans (hb.mono HAL.out.size)).setCell (p := ⟨b + 1, 0, none⟩) (by show w.heap.size ≤ b + 1; have := EB.out; omega) _).setCell (p := ⟨b + 1, 1, none⟩) (by show w.heap.size ≤ b + 1; have := EB.out; omega) _⟩
  have HE := Lib.hid hend
  clear hend
  cases hn : numB d with
  | false =>
    rw [hn] at HN
    simp only [Bool.false_eq_true, if_false]
    clear hn
    go_enter Try.func10, Try.ntmps10
    go_upto_region 1 with fail
    rw [HW.out, EB.out]
    go_wp2_with fail
    refine ((HN _).out).mono ?_
    rintro e w2 ⟨rfl, hb2⟩
    have hp2 := (KB.out w2 hb2).2
    have p0 := hp2.c0
    have p1 := hp2.c1
    have p2 := hp2.fr 0
    have p3 := hp2.fr 1
    obtain ⟨hs1, hs2⟩ := HE.out w2 0 0 hb2
    have HS2 := Lib.hid hs2
    have HS1 := Lib.hid hs1
    clear hb2 hp2 hs1 hs2 y0 y1 y2 y3 y4 y5 y6 y7 y8 y9 y10 y11 y12 y13 y14
    go_wp2_with fail
    have q0 := HS1.out.c0
    have q1 := HS1.out.c1
    refine bodyPost_ret (by simp [results, Try.results10, go_sem, *]; try rfl) rfl ?_
    exact ⟨rfl, HS2.out⟩
  | true =>
    rw [hn] at HN
    simp only [if_true]
    obtain ⟨s2, e2⟩ : ∃ s, (d.kind == 2) = s := ⟨_, rfl⟩
    unfold ranP
    rw [e2]
    clear hn
    cases s2
    all_goals
      simp only [Bool.false_eq_true, if_false, if_true]
      go_enter Try.func10, Try.ntmps10
      go_upto_region 1 with fail
      rw [HW.out, EB.out]
      go_wp2_with fail
      refine ((HN _).out).mono ?_
      rintro e w2 ⟨rfl, hb2⟩
      have hk2 := (KB.out w2 hb2).1
      have z1 := hk2.c1
      have z5 := hk2.c5
      have z6 := hk2.c6
      have hp2 := (KB.out w2 hb2).2
      have p0 := hp2.c0
      have p1 := hp2.c1
      have p2 := hp2.fr 0
      have p3 := hp2.fr 1
      have HSS := fun u v => Lib.hid (HE.out w2 u v hb2)
      clear hb2 hp2 hk2 y0 y1 y2 y3 y4 y5 y6 y7 y8 y9 y10 y11 y12 y13 y14
      go_wp2_with fail
      first
        | (have q0 := (HSS d.low d.low).out.1.c0
           have q1 := (HSS d.low d.low).out.1.c1
           refine bodyPost_ret (by simp [results, Try.results10, go_sem, *]; try rfl) rfl ?_
           exact ⟨rfl, (HSS d.low d.low).out.2⟩)
        | (have q0 := (HSS d.low d.high).out.1.c0
           have q1 := (HSS d.low d.high).out.1.c1
           refine bodyPost_ret (by simp [results, Try.results10, go_sem, *]; try rfl) rfl ?_
           exact ⟨rfl, (HSS d.low d.high).out.2⟩)
end Go.Proofs.Yteibnmnpebfefaa
