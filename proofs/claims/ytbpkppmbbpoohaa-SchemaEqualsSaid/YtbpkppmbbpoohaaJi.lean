/- Check, Valid and HasValue, from examine's contract. No conditions beyond it. Depth and HasValue, from examine's contract. Conditions: the messages lie in memory. Depth, and the law's test for a flaw. Conditions: the contracts of natureIn and of Check. The law's definition of two fields. No conditions. -/
import Derived.Test.YtbpkppmbbpoohaaJh
namespace Go.Proofs.Ytbpkppmbbpoohaa
open Go.RowKit Go.Shelf

/-- The flaw that is answered. -/
def flawT (r : Option (Int × Int × Int)) : Int × Int × Int := r.getD (0, 0, 0)
theorem ExPost.flat {r : Option (Int × Int × Int)} {E : Nats} {w w' : World} {e : Ending} (h : ExPost r E w e w') : ∃ k, e = .returned (.tuple #[.map k, .agg #[.int .i64 (flawT r).1, .int .i64 (flawT r).2.1, .int .i64 (flawT r).2.2], .bool r.isSome]) ∧ Below w.heap.size w w' := by
  obtain ⟨hb, h⟩ := h
  cases r with
  | none =>
    obtain ⟨kr, _, h, _⟩ := h
    exact ⟨some kr, h, hb⟩
  | some p => exact ⟨none, h, hb⟩

set_option maxRecDepth 100000 in
set_option maxHeartbeats 1600000 in
theorem check_of (nm st : List UInt8) (A : Option Addr) (n c : Nat) (r : Option (Int × Int × Int)) (E : Nats) (w : World)
    (he : ∀ wx, Below w.heap.size w wx → Calls Try.prog 59 #[.agg #[.string (strL nm), .slice A n c, .string (strL st)]] wx (ExPost r E wx)) :
    Calls Try.prog 34 #[.agg #[.string (strL nm), .slice A n c, .string (strL st)]] w fun e w' => e = .returned (.tuple #[.agg #[.int .i64 (flawT r).1, .int .i64 (flawT r).2.1, .int .i64 (flawT r).2.2], .bool r.isSome]) ∧ Below w.heap.size w w' := by
  obtain ⟨wa, hwa⟩ : ∃ wa, w.alloc (.cells #[.string (strL nm), .slice A n c, .string (strL st)] 44) = wa := ⟨_, rfl⟩
  obtain ⟨w1, hw1⟩ : ∃ w1, wa.alloc (.cells #[.int .i64 0, .int .i64 0, .int .i64 0] 79) = w1 := ⟨_, rfl⟩
  have hw : (w.alloc (.cells #[.string (strL nm), .slice A n c, .string (strL st)] 44)).alloc (.cells #[.int .i64 0, .int .i64 0, .int .i64 0] 79) = w1 := by rw [hwa, hw1]
  have ba : Below w.heap.size w wa := by rw [← hwa]; exact below_alloc _ _
  have b1 : Below wa.heap.size wa w1 := by rw [← hw1]; exact below_alloc _ _
  have sa : wa.heap.size = w.heap.size + 1 := by rw [← hwa]; simp
  have hb1 : Below w.heap.size w w1 := ba.trans (b1.mono (by omega))
  have s1 : w1.heap.size = w.heap.size + 2 := by rw [← hw1]; simp; omega
  have hxd : w1.heap[w.heap.size]? = some (.cells #[.string (strL nm), .slice A n c, .string (strL st)] 44 (0, 0)) := (b1.block _ (by omega)).trans (by rw [← hwa]; exact heap_alloc_new w _)
  have hxf : w1.heap[w.heap.size + 1]? = some (.cells #[.int .i64 0, .int .i64 0, .int .i64 0] 79 (0, 0)) := by rw [← hw1, ← sa]; exact heap_alloc_new wa _
  obtain ⟨b, eb⟩ : ∃ b, w.heap.size = b := ⟨_, rfl⟩
  rw [eb] at hxd hxf s1
  obtain ⟨⟨fm, ff, fc⟩, hfl⟩ : ∃ t, flawT r = t := ⟨_, rfl⟩
  obtain ⟨fd, hfd⟩ : ∃ fd, r.isSome = fd := ⟨_, rfl⟩
  have HEX : Hid (∀ wx, Below w1.heap.size w1 wx → Calls Try.prog 59 #[.agg #[.string (strL nm), .slice A n c, .string (strL st)]] wx fun e w' => ∃ k, e = .returned (.tuple #[.map k, .agg #[.int .i64 fm, .int .i64 ff, .int .i64 fc], .bool fd]) ∧ Below wx.heap.size wx w') := Lib.hid (fun wx hb => (he wx (hb1.trans (hb.mono hb1.size))).mono (fun e w' h => by
    have := h.flat
    rw [hfl, hfd] at this
    exact this))
  rw [hfl, hfd]
  have d0 : w1.cell? ⟨b, 0, none⟩ = some (.string (strL nm)) := by simp [World.cell?, hxd]
  have d1 : w1.cell? ⟨b, 1, none⟩ = some (.slice A n c) := by simp [World.cell?, hxd]
  have d2 : w1.cell? ⟨b, 2, none⟩ = some (.string (strL st)) := by simp [World.cell?, hxd]
  have HW := Lib.hid hw
  have EB := Lib.hid eb
  have HB1 := Lib.hid hb1
  have HXF := Lib.hid hxf
  have S1 := Lib.hid s1
  clear he hwa hw1 hw ba b1 sa hb1 s1 hxd hxf eb hfl hfd
  go_enter Try.func34, Try.ntmps34
  go_upto_region 1 with fail
  rw [HW.out, EB.out]
  go_wp2_with fail
  refine (HEX.out w1 (Below.refl _ _)).mono ?_
  rintro e w2 ⟨k, rfl, hb2⟩
  have hal3 := below_alloc w2 (.cells #[.int .i64 fm, .int .i64 ff, .int .i64 fc] 79)
  have hn3 : (w2.alloc (.cells #[.int .i64 fm, .int .i64 ff, .int .i64 fc] 79)).heap[w2.heap.size]? = some (.cells #[.int .i64 fm, .int .i64 ff, .int .i64 fc] 79 (0, 0)) := heap_alloc_new w2 _
  obtain ⟨tb, etb⟩ : ∃ tb, w2.heap.size = tb := ⟨_, rfl⟩
  obtain ⟨w3, hw3⟩ : ∃ w3, w2.alloc (.cells #[.int .i64 fm, .int .i64 ff, .int .i64 fc] 79) = w3 := ⟨_, rfl⟩
  rw [hw3] at hal3 hn3
  rw [etb] at hn3
  have hb13 := hb2.trans (hal3.mono hb2.size)
  have hxf3 := (hb13.block (b + 1) (by have := S1.out; omega)).trans HXF.out
  have q0 : w3.cell? ⟨tb, 0, none⟩ = some (.int .i64 fm) := by simp [World.cell?, hn3]
  have q1 : w3.cell? ⟨tb, 1, none⟩ = some (.int .i64 ff) := by simp [World.cell?, hn3]
  have q2 : w3.cell? ⟨tb, 2, none⟩ = some (.int .i64 fc) := by simp [World.cell?, hn3]
  have r0 : w3.cell? ⟨b + 1, 0, none⟩ = some (.int .i64 0) := by simp [World.cell?, hxf3]
  have r1 : w3.cell? ⟨b + 1, 1, none⟩ = some (.int .i64 0) := by simp [World.cell?, hxf3]
  have r2 : w3.cell? ⟨b + 1, 2, none⟩ = some (.int .i64 0) := by simp [World.cell?, hxf3]
  have g0 : w3.frozen? ⟨b + 1, 0, none⟩ = false := by simp [World.frozen?, hxf3]
  have g1 : w3.frozen? ⟨b + 1, 1, none⟩ = false := by simp [World.frozen?, hxf3]
  have g2 : w3.frozen? ⟨b + 1, 2, none⟩ = false := by simp [World.frozen?, hxf3]
  have hset := heap_setCell_same _ (b + 1) 2 _ 79 (.int .i64 fc) (heap_setCell_same _ (b + 1) 1 _ 79 (.int .i64 ff) (heap_setCell_same w3 (b + 1) 0 _ 79 (.int .i64 fm) hxf3))
  have hrs := rest_setAt w3 (b + 1) (.int .i64 fm) (.int .i64 ff) (.int .i64 fc)
  have HBF := Lib.hid ((HB1.out.trans (hb13.mono HB1.out.size)).trans (hrs.toBelow w.heap.size (by have := HB1.out.size; have := hb13.size; omega) (fun i hi e => by have := EB.out; omega)))
  have HSET := Lib.hid hset
  have W3 := Lib.hid hw3
  have ETB := Lib.hid etb
  clear hb2 hal3 hn3 etb hw3 hb13 hxf3 hset hrs d0 d1 d2
  go_upto_region 2 with fail
  rw [W3.out, ETB.out]
  go_wp2_with fail
  have hset := HSET.out
  have hbf := HBF.out
  obtain ⟨w4, hw4⟩ : ∃ w4, ((w3.setCell ⟨b + 1, 0, none⟩ (.int .i64 fm)).setCell ⟨b + 1, 1, none⟩ (.int .i64 ff)).setCell ⟨b + 1, 2, none⟩ (.int .i64 fc) = w4 := ⟨_, rfl⟩
  rw [hw4] at hset hbf ⊢
  have p0 : w4.cell? ⟨b + 1, 0, none⟩ = some (.int .i64 fm) := by simp [World.cell?, hset]
  have p1 : w4.cell? ⟨b + 1, 1, none⟩ = some (.int .i64 ff) := by simp [World.cell?, hset]
  have p2 : w4.cell? ⟨b + 1, 2, none⟩ = some (.int .i64 fc) := by simp [World.cell?, hset]
  refine bodyPost_ret (by simp [results, Try.results34, go_sem, p0, p1, p2]; try rfl) rfl ?_
  exact ⟨rfl, hbf⟩

set_option maxRecDepth 100000 in
set_option maxHeartbeats 1600000 in
theorem valid_of (nm st : List UInt8) (A : Option Addr) (n c : Nat) (r : Option (Int × Int × Int)) (E : Nats) (w : World)
    (he : ∀ wx, Below w.heap.size w wx → Calls Try.prog 59 #[.agg #[.string (strL nm), .slice A n c, .string (strL st)]] wx (ExPost r E wx)) :
    Calls Try.prog 35 #[.agg #[.string (strL nm), .slice A n c, .string (strL st)]] w fun e w' => e = .returned (.bool (!r.isSome)) ∧ Below w.heap.size w w' := by
  have hal := below_alloc w (.cells #[.string (strL nm), .slice A n c, .string (strL st)] 44)
  have hxd : (w.alloc (.cells #[.string (strL nm), .slice A n c, .string (strL st)] 44)).heap[w.heap.size]? = some (.cells #[.string (strL nm), .slice A n c, .string (strL st)] 44 (0, 0)) := heap_alloc_new w _
  obtain ⟨b, eb⟩ : ∃ b, w.heap.size = b := ⟨_, rfl⟩
  obtain ⟨w1, hw1⟩ : ∃ w1, w.alloc (.cells #[.string (strL nm), .slice A n c, .string (strL st)] 44) = w1 := ⟨_, rfl⟩
  rw [hw1] at hal hxd
  rw [eb] at hxd
  have HCK := check_of nm st A n c r E w1 (fun wx hb => he wx (hal.trans (hb.mono hal.size)))
  obtain ⟨⟨fm, ff, fc⟩, hfl⟩ : ∃ t, flawT r = t := ⟨_, rfl⟩
  obtain ⟨fd, hfd⟩ : ∃ fd, r.isSome = fd := ⟨_, rfl⟩
  rw [hfl, hfd] at HCK
  rw [hfd]
  have HCK := Lib.hid HCK
  have d0 : w1.cell? ⟨b, 0, none⟩ = some (.string (strL nm)) := by simp [World.cell?, hxd]
  have d1 : w1.cell? ⟨b, 1, none⟩ = some (.slice A n c) := by simp [World.cell?, hxd]
  have d2 : w1.cell? ⟨b, 2, none⟩ = some (.string (strL st)) := by simp [World.cell?, hxd]
  have HW := Lib.hid hw1
  have EB := Lib.hid eb
  have HAL := Lib.hid hal
  clear he hal hxd eb hw1 hfl hfd
  go_enter Try.func35, Try.ntmps35
  go_upto_region 1 with fail
  rw [HW.out, EB.out]
  go_wp2_with fail
  refine HCK.out.mono ?_
  rintro e w2 ⟨rfl, hb2⟩
  have HB2 := Lib.hid (HAL.out.trans ((hb2.trans ((below_alloc w2 (.cells #[.int .i64 fm, .int .i64 ff, .int .i64 fc] 79)).mono hb2.size)).mono HAL.out.size))
  clear hb2
  go_wp2_with fail
  go_ret
  exact ⟨rfl, HB2.out⟩
end Go.Proofs.Ytbpkppmbbpoohaa

namespace Go.Proofs.Ytbpkppmbbpoohaa
open Go.RowKit Go.Shelf

def hasvB (d : FieldD) : Bool := !(d.kind == 2) && !(d.kind == 10) && !(d.kind == 11)
set_option maxRecDepth 100000 in
set_option maxHeartbeats 1600000 in
theorem hasvalue_any (d : FieldD) (w : World) : Calls Try.prog 15 #[d.agg] w fun e w' => e = .returned (.bool (hasvB d)) ∧ Below w.heap.size w w' := by
  unfold FieldD.agg
  have hal := below_alloc w (.cells #[.string (strL d.name), .int .i64 d.kind, .int .i64 d.bits, .bool d.little, .bool d.loose, .int .i64 d.low, .int .i64 d.high, .int .i64 d.base, .slice d.ta d.terms.length d.tc, .string (strL d.of_), .string (strL d.tag), .string (strL d.from_), .slice d.ca d.cases.length d.cc, .int .i64 d.check, .int .i64 d.key] 28)
  have hbx := FBox.new w d
  obtain ⟨b, eb⟩ : ∃ b, w.heap.size = b := ⟨_, rfl⟩
  obtain ⟨w1, hw1⟩ : ∃ w1, w.alloc (.cells #[.string (strL d.name), .int .i64 d.kind, .int .i64 d.bits, .bool d.little, .bool d.loose, .int .i64 d.low, .int .i64 d.high, .int .i64 d.base, .slice d.ta d.terms.length d.tc, .string (strL d.of_), .string (strL d.tag), .string (strL d.from_), .slice d.ca d.cases.length d.cc, .int .i64 d.check, .int .i64 d.key] 28) = w1 := ⟨_, rfl⟩
  rw [hw1] at hal hbx
  rw [eb] at hbx
  have HW := Lib.hid hw1
  have EB := Lib.hid eb
  have HAL := Lib.hid hal
  have y1 := hbx.c1
  obtain ⟨s2, e2⟩ : ∃ s, (d.kind == 2) = s := ⟨_, rfl⟩
  obtain ⟨s10, e10⟩ : ∃ s, (d.kind == 10) = s := ⟨_, rfl⟩
  obtain ⟨s11, e11⟩ : ∃ s, (d.kind == 11) = s := ⟨_, rfl⟩
  obtain ⟨R, hR⟩ : ∃ R, hasvB d = R := ⟨_, rfl⟩
  have hr : R = (!s2 && !s10 && !s11) := by rw [← hR]; unfold hasvB; rw [e2, e10, e11]
  rw [hR]
  have HR := Lib.hid hr
  have f2 : (d.kind != 2) = !s2 := by rw [← e2]; rfl
  have f10 : (d.kind != 10) = !s10 := by rw [← e10]; rfl
  have f11 : (d.kind != 11) = !s11 := by rw [← e11]; rfl
  clear hal hbx eb hw1 hR hr
  cases s2
  · cases s10
    · cases s11
      all_goals
        go_enter Try.func15, Try.ntmps15
        go_upto_region 1 with fail
        rw [HW.out, EB.out]
        go_wp2_with fail
        go_ret
        exact ⟨ret_bool HR.out.symm, HAL.out⟩
    · go_enter Try.func15, Try.ntmps15
      go_upto_region 1 with fail
      rw [HW.out, EB.out]
      go_wp2_with fail
      go_ret
      exact ⟨ret_bool HR.out.symm, HAL.out⟩
  · go_enter Try.func15, Try.ntmps15
    go_upto_region 1 with fail
    rw [HW.out, EB.out]
    go_wp2_with fail
    go_ret
    exact ⟨ret_bool HR.out.symm, HAL.out⟩

/-- The nature of a message of a definition, and the error. -/
def natInR (r : Option (Int × Int × Int)) (E : Nats) (D : List MsgD) (mi : Int) : (Int × Bool) × Int :=
  if r.isSome then ((0, false), 2) else if inB mi 0 ((D.length : Int) - 1) then ((D[mi.toNat]?).elim (0, false) (fun d => (getN E d.name).getD (0, false)), 0) else ((0, false), 3)

theorem nat_set (W : World) (b : Nat) (u : Int) (v : Bool) (h : NBox W b (0, false)) : NBox ((W.setCell ⟨b, 0, none⟩ (.int .i64 u)).setCell ⟨b, 1, none⟩ (.bool v)) b (u, v) ∧ Rest (fun k => k = b) W ((W.setCell ⟨b, 0, none⟩ (.int .i64 u)).setCell ⟨b, 1, none⟩ (.bool v)) :=
  ⟨(h.set0 u).set1 v, ((Rest.refl (fun k => k = b) W).setCell (S := fun k => k = b) (p := ⟨b, 0, none⟩) (fun _ => rfl) _).setCell (S := fun k => k = b) (p := ⟨b, 1, none⟩) (fun _ => rfl) _⟩

set_option maxRecDepth 100000 in
set_option maxHeartbeats 3200000 in
theorem naturein_of (nm st : List UInt8) (A : Option Addr) (c : Nat) (D : List MsgD) (S : Nat → Prop) (mi : Int) (r : Option (Int × Int × Int)) (E : Nats) (w : World) (h : SlAt MsgD.cells 2 S w A c D) (hd1 : r = none → 1 ≤ D.length)
    (he : ∀ wx, Below w.heap.size w wx → Calls Try.prog 59 #[.agg #[.string (strL nm), .slice A D.length c, .string (strL st)]] wx (ExPost r E wx)) :
    Calls Try.prog 54 #[.agg #[.string (strL nm), .slice A D.length c, .string (strL st)], .int .i64 mi] w fun e w' => e = .returned (.tuple #[natV (natInR r E D mi).1, .int .i64 (natInR r E D mi).2]) ∧ Below w.heap.size w w' := by
  have hl : D.length ≤ 9223372036854775807 := Nat.le_trans h.1 h.2.1
  obtain ⟨wa, hwa⟩ : ∃ wa, w.alloc (.cells #[.string (strL nm), .slice A D.length c, .string (strL st)] 44) = wa := ⟨_, rfl⟩
  obtain ⟨w1, hw1⟩ : ∃ w1, wa.alloc (.cells #[.int .i64 0, .bool false] 102) = w1 := ⟨_, rfl⟩
  have hw : (w.alloc (.cells #[.string (strL nm), .slice A D.length c, .string (strL st)] 44)).alloc (.cells #[.int .i64 0, .bool false] 102) = w1 := by rw [hwa, hw1]
  have ba : Below w.heap.size w wa := by rw [← hwa]; exact below_alloc _ _
  have b1 : Below wa.heap.size wa w1 := by rw [← hw1]; exact below_alloc _ _
  have sa : wa.heap.size = w.heap.size + 1 := by rw [← hwa]; simp
  have hb1 : Below w.heap.size w w1 := ba.trans (b1.mono (by omega))
  have s1 : w1.heap.size = w.heap.size + 2 := by rw [← hw1]; simp; omega
  have hxd : w1.heap[w.heap.size]? = some (.cells #[.string (strL nm), .slice A D.length c, .string (strL st)] 44 (0, 0)) := (b1.block _ (by omega)).trans (by rw [← hwa]; exact heap_alloc_new w _)
  have hxn : NBox w1 (w.heap.size + 1) (0, false) := by rw [← hw1, ← sa]; exact NBox.new wa 0 false
  have h1 := h.below hb1
  obtain ⟨b, eb⟩ : ∃ b, w.heap.size = b := ⟨_, rfl⟩
  rw [eb] at hxd hxn s1
  have KD : Hid (∀ wx, Below w1.heap.size w1 wx → wx.cell? ⟨b, 0, none⟩ = some (.string (strL nm)) ∧ wx.cell? ⟨b, 1, none⟩ = some (.slice A D.length c) ∧ wx.cell? ⟨b, 2, none⟩ = some (.string (strL st)) ∧ NBox wx (b + 1) (0, false)) := Lib.hid (fun wx hb => by
    have := (hb.block b (by omega)).trans hxd
    exact ⟨by simp [World.cell?, this], by simp [World.cell?, this], by simp [World.cell?, this], hxn.below hb hxn.lt⟩)
  have HEX : Hid (Calls Try.prog 59 #[.agg #[.string (strL nm), .slice A D.length c, .string (strL st)]] w1 (ExPost r E w1)) := Lib.hid (he w1 hb1)
  obtain ⟨⟨⟨zd, zs⟩, ze⟩, hz⟩ : ∃ z, natInR r E D mi = z := ⟨_, rfl⟩
  rw [hz]
  have HZ := Lib.hid hz
  have HW := Lib.hid hw
  have EB := Lib.hid eb
  have HB1 := Lib.hid hb1
  have H1 := Lib.hid h1
  have HD1 := Lib.hid hd1
  have S1 := Lib.hid s1
  have HFIN : Hid (∀ wx, Below w1.heap.size w1 wx → NBox ((wx.setCell ⟨b + 1, 0, none⟩ (.int .i64 zd)).setCell ⟨b + 1, 1, none⟩ (.bool zs)) (b + 1) (zd, zs) ∧ Below w.heap.size w ((wx.setCell ⟨b + 1, 0, none⟩ (.int .i64 zd)).setCell ⟨b + 1, 1, none⟩ (.bool zs))) := Lib.hid (fun wx hb => by
    have hs := nat_set wx (b + 1) zd zs (hxn.below hb hxn.lt)
    exact ⟨hs.1, (hb1.trans (hb.mono hb1.size)).trans (hs.2.toBelow w.heap.size (by have := hb1.size; have := hb.size; omega) (fun i hi e => by omega))⟩)
  have HWI := fun w => Lib.hid (withinS mi 0 ((D.length : Int) - 1) w)
  obtain ⟨d0, d1, d2, _⟩ := KD.out w1 (Below.refl _ _)
  clear h hd1 he hwa hw1 hw ba b1 sa hb1 s1 hxd hxn h1 eb hz
  go_enter Try.func54, Try.ntmps54
  go_upto_region 1 with fail
  rw [HW.out, EB.out]
  go_wp2_with fail
  refine HEX.out.mono ?_
  rintro e w2 hp
  clear d0 d1 d2
  cases r with
  | some p =>
    obtain ⟨hb2, rfl⟩ := hp
    obtain ⟨m, f, cd⟩ := p
    have hz : ((0, false), (2 : Int)) = ((zd, zs), ze) := HZ.out
    simp only [Prod.mk.injEq] at hz
    obtain ⟨⟨rfl, rfl⟩, rfl⟩ := hz
    have hb3 := hb2.trans ((below_alloc w2 (.cells #[.int .i64 m, .int .i64 f, .int .i64 cd] 79)).mono hb2.size)
    obtain ⟨w3, hw3⟩ : ∃ w3, w2.alloc (.cells #[.int .i64 m, .int .i64 f, .int .i64 cd] 79) = w3 := ⟨_, rfl⟩
    rw [hw3] at hb3
    obtain ⟨_, _, _, hn3⟩ := KD.out w3 hb3
    have v0 := hn3.c0
    have v1 := hn3.c1
    have g0 := hn3.fr 0
    have g1 := hn3.fr 1
    have HF := Lib.hid (HFIN.out w3 hb3)
    have W3 := Lib.hid hw3
    clear hb2 hb3 hw3 hn3
    dsimp only
    go_upto_region 2 with fail
    rw [W3.out]
    go_wp2_with fail
    obtain ⟨hn, hb⟩ := HF.out
    obtain ⟨w4, hw4⟩ : ∃ w4, (w3.setCell ⟨b + 1, 0, none⟩ (.int .i64 0)).setCell ⟨b + 1, 1, none⟩ (.bool false) = w4 := ⟨_, rfl⟩
    rw [hw4] at hn hb ⊢
    have p0 := hn.c0
    have p1 := hn.c1
    refine bodyPost_ret (by simp [results, Try.results54, go_sem, p0, p1]; try rfl) rfl ?_
    exact ⟨rfl, hb⟩
  | none =>
    obtain ⟨hb2, kr, hkr, rfl, hm⟩ := hp
    have hb3 := hb2.trans ((below_alloc w2 (.cells #[.int .i64 0, .int .i64 0, .int .i64 0] 79)).mono hb2.size)
    have hm3 := hm.below (below_alloc w2 (.cells #[.int .i64 0, .int .i64 0, .int .i64 0] 79)) hm.lt
    obtain ⟨w3, hw3⟩ : ∃ w3, w2.alloc (.cells #[.int .i64 0, .int .i64 0, .int .i64 0] 79) = w3 := ⟨_, rfl⟩
    rw [hw3] at hb3 hm3
    obtain ⟨q0, q1, _, hn3⟩ := KD.out w3 hb3
    have v0 := hn3.c0
    have v1 := hn3.c1
    have g0 := hn3.fr 0
    have g1 := hn3.fr 1
    have hd1 := HD1.out rfl
    have HS3 := Lib.hid (H1.out.below hb3)
    have HF := Lib.hid (HFIN.out w3 hb3)
    have M3 := Lib.hid hm3
    have W3 := Lib.hid hw3
    clear hb2 hb3 hw3 hn3 hkr hm hm3
    cases hwi : inB mi 0 ((D.length : Int) - 1) with
    | false =>
      have hz : ((0, false), (3 : Int)) = ((zd, zs), ze) := by
        have := HZ.out
        unfold natInR at this
        rw [hwi] at this
        exact this
      simp only [Prod.mk.injEq] at hz
      obtain ⟨⟨rfl, rfl⟩, rfl⟩ := hz
      rw [hwi] at HWI
      clear hwi
      dsimp only
      go_upto_region 2 with fail
      rw [W3.out]
      go_wp2_with (go_at_call 41; refine ((HWI _).out).mono ?_; rintro e w' ⟨rfl, hw'⟩; have hw'' := hw'.symm; clear hw'; subst hw'')
      obtain ⟨hn, hb⟩ := HF.out
      obtain ⟨w4, hw4⟩ : ∃ w4, (w3.setCell ⟨b + 1, 0, none⟩ (.int .i64 0)).setCell ⟨b + 1, 1, none⟩ (.bool false) = w4 := ⟨_, rfl⟩
      rw [hw4] at hn hb ⊢
      have p0 := hn.c0
      have p1 := hn.c1
      refine bodyPost_ret (by simp [results, Try.results54, go_sem, p0, p1]; try rfl) rfl ?_
      exact ⟨rfl, hb⟩
    | true =>
      have hbd : 0 ≤ mi ∧ mi ≤ (D.length : Int) - 1 := by simpa [inB] using hwi
      obtain ⟨k, rfl⟩ : ∃ k : Nat, mi = (k : Int) := ⟨mi.toNat, by omega⟩
      have hk : k < D.length := by omega
      obtain ⟨d, hd⟩ : ∃ d, D[k]? = some d := ⟨_, List.getElem?_eq_getElem hk⟩
      have hz : ((getN E d.name).getD (0, false), (0 : Int)) = ((zd, zs), ze) := by
        have := HZ.out
        unfold natInR at this
        rw [hwi] at this
        simp only [Option.isSome_none, Bool.false_eq_true, if_false, if_true, Int.toNat_natCast, hd, Option.elim] at this
        exact this
      simp only [Prod.mk.injEq] at hz
      obtain ⟨hz1, rfl⟩ := hz
      rw [hwi] at HWI
      obtain ⟨g, o, rfl, hx⟩ := HS3.out.at_ hd
      have x0 : w3.cell? ⟨g, o + k * 2, none⟩ = some (.string (strL d.name)) := hx 0 _ rfl
      have hrun := run_look (P := Try.prog) Try.underlying108 Try.ustr (Try.zeroNat w3) M3.out d.name
      rw [look_nat, hz1] at hrun
      unfold natV at hrun
      clear hwi hbd hd hx hz1
      dsimp only
      go_upto_region 2 with fail
      rw [W3.out]
      go_wp2_with (go_at_call 41; refine ((HWI _).out).mono ?_; rintro e w' ⟨rfl, hw'⟩; have hw'' := hw'.symm; clear hw'; subst hw'')
      obtain ⟨hn, hb⟩ := HF.out
      obtain ⟨w4, hw4⟩ : ∃ w4, (w3.setCell ⟨b + 1, 0, none⟩ (.int .i64 zd)).setCell ⟨b + 1, 1, none⟩ (.bool zs) = w4 := ⟨_, rfl⟩
      rw [hw4] at hn hb ⊢
      have p0 := hn.c0
      have p1 := hn.c1
      refine bodyPost_ret (by simp [results, Try.results54, go_sem, p0, p1]; try rfl) rfl ?_
      exact ⟨rfl, hb⟩
end Go.Proofs.Ytbpkppmbbpoohaa

namespace Go.Proofs.Ytbpkppmbbpoohaa
open Go.RowKit Go.Shelf

set_option maxRecDepth 100000 in
set_option maxHeartbeats 1600000 in
theorem depth_of (nm st : List UInt8) (A : Option Addr) (n c : Nat) (mi zd ze : Int) (zs : Bool) (w : World)
    (he : ∀ wx, Below w.heap.size w wx → Calls Try.prog 54 #[.agg #[.string (strL nm), .slice A n c, .string (strL st)], .int .i64 mi] wx fun e w' => e = .returned (.tuple #[natV (zd, zs), .int .i64 ze]) ∧ Below wx.heap.size wx w') :
    Calls Try.prog 27 #[.agg #[.string (strL nm), .slice A n c, .string (strL st)], .int .i64 mi] w fun e w' => e = .returned (.tuple #[.int .i64 zd, .int .i64 ze]) ∧ Below w.heap.size w w' := by
  have hal := below_alloc w (.cells #[.string (strL nm), .slice A n c, .string (strL st)] 44)
  have hxd : (w.alloc (.cells #[.string (strL nm), .slice A n c, .string (strL st)] 44)).heap[w.heap.size]? = some (.cells #[.string (strL nm), .slice A n c, .string (strL st)] 44 (0, 0)) := heap_alloc_new w _
  obtain ⟨b, eb⟩ : ∃ b, w.heap.size = b := ⟨_, rfl⟩
  obtain ⟨w1, hw1⟩ : ∃ w1, w.alloc (.cells #[.string (strL nm), .slice A n c, .string (strL st)] 44) = w1 := ⟨_, rfl⟩
  rw [hw1] at hal hxd
  rw [eb] at hxd
  have HN := he w1 hal
  unfold natV at HN
  have HN := Lib.hid HN
  have d0 : w1.cell? ⟨b, 0, none⟩ = some (.string (strL nm)) := by simp [World.cell?, hxd]
  have d1 : w1.cell? ⟨b, 1, none⟩ = some (.slice A n c) := by simp [World.cell?, hxd]
  have d2 : w1.cell? ⟨b, 2, none⟩ = some (.string (strL st)) := by simp [World.cell?, hxd]
  have HW := Lib.hid hw1
  have EB := Lib.hid eb
  have HAL := Lib.hid hal
  clear he hal hxd eb hw1
  go_enter Try.func27, Try.ntmps27
  go_upto_region 1 with fail
  rw [HW.out, EB.out]
  go_wp2_with fail
  refine HN.out.mono ?_
  rintro e w2 ⟨rfl, hb2⟩
  have hb3 := hb2.trans ((below_alloc w2 (.cells #[.int .i64 zd, .bool zs] 102)).mono hb2.size)
  have hn3 := NBox.new w2 zd zs
  obtain ⟨tb, etb⟩ : ∃ tb, w2.heap.size = tb := ⟨_, rfl⟩
  obtain ⟨w3, hw3⟩ : ∃ w3, w2.alloc (.cells #[.int .i64 zd, .bool zs] 102) = w3 := ⟨_, rfl⟩
  rw [hw3] at hb3 hn3
  rw [etb] at hn3
  have q0 := hn3.c0
  have HB := Lib.hid (HAL.out.trans (hb3.mono HAL.out.size))
  have W3 := Lib.hid hw3
  have ETB := Lib.hid etb
  clear hb2 hb3 hn3 etb hw3
  go_upto_region 2 with fail
  rw [W3.out, ETB.out]
  go_wp2_with fail
  go_ret2
  exact ⟨rfl, HB.out⟩

set_option maxRecDepth 100000 in
set_option maxHeartbeats 1600000 in
theorem flawed_of (nm st : List UInt8) (A : Option Addr) (n c : Nat) (fm ff fc : Int) (w : World)
    (he : ∀ wx, Below w.heap.size w wx → Calls Try.prog 34 #[.agg #[.string (strL nm), .slice A n c, .string (strL st)]] wx fun e w' => e = .returned (.tuple #[.agg #[.int .i64 fm, .int .i64 ff, .int .i64 fc], .bool true]) ∧ Below wx.heap.size wx w') :
    Calls Try.prog 38 #[.agg #[.string (strL nm), .slice A n c, .string (strL st)], .int .i64 fm, .int .i64 ff, .int .i64 fc] w fun e w' => e = .returned (.bool true) ∧ Below w.heap.size w w' := by
  have hal := below_alloc w (.cells #[.string (strL nm), .slice A n c, .string (strL st)] 44)
  have hxd : (w.alloc (.cells #[.string (strL nm), .slice A n c, .string (strL st)] 44)).heap[w.heap.size]? = some (.cells #[.string (strL nm), .slice A n c, .string (strL st)] 44 (0, 0)) := heap_alloc_new w _
  obtain ⟨b, eb⟩ : ∃ b, w.heap.size = b := ⟨_, rfl⟩
  obtain ⟨w1, hw1⟩ : ∃ w1, w.alloc (.cells #[.string (strL nm), .slice A n c, .string (strL st)] 44) = w1 := ⟨_, rfl⟩
  rw [hw1] at hal hxd
  rw [eb] at hxd
  have HN := Lib.hid (he w1 hal)
  have d0 : w1.cell? ⟨b, 0, none⟩ = some (.string (strL nm)) := by simp [World.cell?, hxd]
  have d1 : w1.cell? ⟨b, 1, none⟩ = some (.slice A n c) := by simp [World.cell?, hxd]
  have d2 : w1.cell? ⟨b, 2, none⟩ = some (.string (strL st)) := by simp [World.cell?, hxd]
  have HW := Lib.hid hw1
  have EB := Lib.hid eb
  have HAL := Lib.hid hal
  have hcmp : ∀ w, (binOp .eql 79 (.agg #[.int .i64 fm, .int .i64 ff, .int .i64 fc]) (.agg #[.int .i64 fm, .int .i64 ff, .int .i64 fc])).run Try.prog w = .ok (.bool true) w := fun w => by
    simp [go_sem]
  clear he hal hxd eb hw1
  go_enter Try.func38, Try.ntmps38
  go_upto_region 1 with fail
  rw [HW.out, EB.out]
  go_wp2_with fail
  refine HN.out.mono ?_
  rintro e w2 ⟨rfl, hb2⟩
  have hb3 := hb2.trans ((below_alloc w2 (.cells #[.int .i64 fm, .int .i64 ff, .int .i64 fc] 79)).mono hb2.size)
  have hn3 : (w2.alloc (.cells #[.int .i64 fm, .int .i64 ff, .int .i64 fc] 79)).heap[w2.heap.size]? = some (.cells #[.int .i64 fm, .int .i64 ff, .int .i64 fc] 79 (0, 0)) := heap_alloc_new w2 _
  obtain ⟨tb, etb⟩ : ∃ tb, w2.heap.size = tb := ⟨_, rfl⟩
  obtain ⟨w3, hw3⟩ : ∃ w3, w2.alloc (.cells #[.int .i64 fm, .int .i64 ff, .int .i64 fc] 79) = w3 := ⟨_, rfl⟩
  rw [hw3] at hb3 hn3
  rw [etb] at hn3
  have q0 : w3.cell? ⟨tb, 0, none⟩ = some (.int .i64 fm) := by simp [World.cell?, hn3]
  have q1 : w3.cell? ⟨tb, 1, none⟩ = some (.int .i64 ff) := by simp [World.cell?, hn3]
  have q2 : w3.cell? ⟨tb, 2, none⟩ = some (.int .i64 fc) := by simp [World.cell?, hn3]
  have HB := Lib.hid (HAL.out.trans (hb3.mono HAL.out.size))
  have W3 := Lib.hid hw3
  have ETB := Lib.hid etb
  clear hb2 hb3 hn3 etb hw3
  go_upto_region 2 with fail
  rw [W3.out, ETB.out]
  go_wp2_with fail
  go_ret
  exact ⟨rfl, HB.out⟩
end Go.Proofs.Ytbpkppmbbpoohaa

namespace Go.Proofs.Ytbpkppmbbpoohaa
open Go.RowKit Go.Shelf

theorem alloc4 (w : World) (A B C D : Obj) :
    ((((w.alloc A).alloc B).alloc C).alloc D).heap[w.heap.size]? = some A ∧ ((((w.alloc A).alloc B).alloc C).alloc D).heap[w.heap.size + 1]? = some B ∧
    ((((w.alloc A).alloc B).alloc C).alloc D).heap[w.heap.size + 1 + 1]? = some C ∧ ((((w.alloc A).alloc B).alloc C).alloc D).heap[w.heap.size + 1 + 1 + 1]? = some D ∧
    Below w.heap.size w ((((w.alloc A).alloc B).alloc C).alloc D) ∧ ((((w.alloc A).alloc B).alloc C).alloc D).heap.size = w.heap.size + 4 := by
  have s1 : (w.alloc A).heap.size = w.heap.size + 1 := by simp
  have s2 : ((w.alloc A).alloc B).heap.size = w.heap.size + 1 + 1 := by simp
  have s3 : (((w.alloc A).alloc B).alloc C).heap.size = w.heap.size + 1 + 1 + 1 := by simp
  have hB := World.alloc_heap_new (w.alloc A) B
  have hC := World.alloc_heap_new ((w.alloc A).alloc B) C
  have hD := World.alloc_heap_new (((w.alloc A).alloc B).alloc C) D
  rw [s1] at hB
  rw [s2] at hC
  rw [s3] at hD
  refine ⟨?_, ?_, ?_, hD, (((below_alloc w A).alloc (by omega) _).alloc (by omega) _).alloc (by omega) _, by simp⟩
  · exact (Below.heap_alloc _ D _ (by omega)).trans ((Below.heap_alloc _ C _ (by omega)).trans ((Below.heap_alloc _ B _ (by omega)).trans (World.alloc_heap_new w A)))
  · exact (Below.heap_alloc _ D _ (by omega)).trans ((Below.heap_alloc _ C _ (by omega)).trans hB)
  · exact (Below.heap_alloc _ D _ (by omega)).trans hC

/-- The blocks of the law's definition: the term, the two fields, the message. -/
structure TwoAt (W : World) (tb fb mb : Nat) : Prop where
  tm : W.heap[tb]? = some (.cells #[.string ⟨#[110]⟩, .int .i64 1] 76 (0, 0))
  fd : W.heap[fb]? = some (.cells #[.string ⟨#[110]⟩, .int .i64 1, .int .i64 8, .bool false, .bool false, .int .i64 0, .int .i64 255, .int .i64 0, .slice none 0 0, .string ⟨#[]⟩, .string ⟨#[]⟩, .string ⟨#[]⟩, .slice none 0 0, .int .i64 0, .int .i64 0,
    .string ⟨#[98]⟩, .int .i64 4, .int .i64 0, .bool false, .bool false, .int .i64 0, .int .i64 0, .int .i64 0, .slice (some ⟨tb, 0, none⟩) 1 1, .string ⟨#[]⟩, .string ⟨#[]⟩, .string ⟨#[]⟩, .slice none 0 0, .int .i64 0, .int .i64 0] 28 (0, 0))
  ms : W.heap[mb]? = some (.cells #[.string ⟨#[109]⟩, .slice (some ⟨fb, 0, none⟩) 2 2] 50 (0, 0))
theorem TwoAt.below {W W' : World} {tb fb mb n : Nat} (h : TwoAt W tb fb mb) (hb : Below n W W') (h1 : tb < n) (h2 : fb < n) (h3 : mb < n) : TwoAt W' tb fb mb :=
  ⟨(hb.block tb h1).trans h.tm, (hb.block fb h2).trans h.fd, (hb.block mb h3).trans h.ms⟩

set_option maxRecDepth 100000 in
set_option maxHeartbeats 1600000 in
theorem two_any (w : World) : Calls Try.prog 37 #[] w fun e w' => e = .returned (.agg #[.string ⟨#[100]⟩, .slice (some ⟨w.heap.size + 1 + 1 + 1, 0, none⟩) 1 1, .string ⟨#[109]⟩]) ∧ TwoAt w' (w.heap.size + 1) (w.heap.size + 1 + 1) (w.heap.size + 1 + 1 + 1) ∧ w'.heap.size = w.heap.size + 4 ∧ Below w.heap.size w w' := by
  obtain ⟨b, eb⟩ : ∃ b, w.heap.size = b := ⟨_, rfl⟩
  have H4 := alloc4 w (.cells #[.string ⟨#[100]⟩, .slice (some ⟨b + 1 + 1 + 1, 0, none⟩) 1 1, .string ⟨#[109]⟩] 44) (.cells #[.string ⟨#[110]⟩, .int .i64 1] 76) (.cells #[.string ⟨#[110]⟩, .int .i64 1, .int .i64 8, .bool false, .bool false, .int .i64 0, .int .i64 255, .int .i64 0, .slice none 0 0, .string ⟨#[]⟩, .string ⟨#[]⟩, .string ⟨#[]⟩, .slice none 0 0, .int .i64 0, .int .i64 0,
    .string ⟨#[98]⟩, .int .i64 4, .int .i64 0, .bool false, .bool false, .int .i64 0, .int .i64 0, .int .i64 0, .slice (some ⟨b + 1, 0, none⟩) 1 1, .string ⟨#[]⟩, .string ⟨#[]⟩, .string ⟨#[]⟩, .slice none 0 0, .int .i64 0, .int .i64 0] 28) (.cells #[.string ⟨#[109]⟩, .slice (some ⟨b + 1 + 1, 0, none⟩) 2 2] 50)
  have H4 := Lib.hid H4
  have EB := Lib.hid eb
  clear eb
  go_enter Try.func37, Try.ntmps37
  go_wp2_with fail
  obtain ⟨hA, hB, hC, hD, hbl, hsz⟩ := H4.out
  rw [EB.out] at hA hB hC hD hbl hsz ⊢
  generalize (((w.alloc _).alloc _).alloc _).alloc _ = w4 at hA hB hC hD hbl hsz ⊢
  have c0 : w4.cell? ⟨b, 0, none⟩ = some (.string ⟨#[100]⟩) := by simp [World.cell?, hA]
  have c1 : w4.cell? ⟨b, 1, none⟩ = some (.slice (some ⟨b + 1 + 1 + 1, 0, none⟩) 1 1) := by simp [World.cell?, hA]
  have c2 : w4.cell? ⟨b, 2, none⟩ = some (.string ⟨#[109]⟩) := by simp [World.cell?, hA]
  refine bodyPost_ret (by simp [results, Try.results37, go_sem, c0, c1, c2]; try rfl) rfl ?_
  exact ⟨rfl, ⟨hB, hC, hD⟩, hsz, hbl⟩
end Go.Proofs.Ytbpkppmbbpoohaa
