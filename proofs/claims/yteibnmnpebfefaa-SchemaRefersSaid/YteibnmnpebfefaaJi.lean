/- Check, Valid and HasValue, from examine's contract. No conditions beyond it. -/
import Derived.Test.YteibnmnpebfefaaJh
namespace Go.Proofs.Yteibnmnpebfefaa
open Go.RowKit Go.Shelf

/-- The flaw that is answered. -/
def flawT (r : Option (Int × Int × Int)) : Int × Int × Int := r.getD (0, 0, 0)
theorem ExPost.flat {r : Option (Int × Int × Int)} {E : Nats} {w w' : World} {e : Ending} (h : ExPost r E w e w') : ∃ k, e = .returned (.tuple #[.map k, .agg #[.int .i64 (flawT r).1, .int .i64 (flawT r).2.1, .int .i64 (flawT r).2.2], .bool r.isSome]) ∧ Below w.heap.size w w' := by
  obtain ⟨hb, h⟩ := h
  cases r with
  | none =>
    obtain ⟨kr, _, h, _⟩ := h
    exact ⟨some kr, h, hb⟩
  | some p => exact ⟨none, h, hb⟩

set_option maxRecDepth 100000 in
set_option maxHeartbeats 1600000 in
theorem check_of (nm st : List UInt8) (A : Option Addr) (n c : Nat) (r : Option (Int × Int × Int)) (E : Nats) (w : World)
    (he : ∀ wx, Below w.heap.size w wx → Calls Try.prog 59 #[.agg #[.string (strL nm), .slice A n c, .string (strL st)]] wx (ExPost r E wx)) :
    Calls Try.prog 34 #[.agg #[.string (strL nm), .slice A n c, .string (strL st)]] w fun e w' => e = .returned (.tuple #[.agg #[.int .i64 (flawT r).1, .int .i64 (flawT r).2.1, .int .i64 (flawT r).2.2], .bool r.isSome]) ∧ Below w.heap.size w w' := by
  obtain ⟨wa, hwa⟩ : ∃ wa, w.alloc (.cells #[.string (strL nm), .slice A n c, .string (strL st)] 44) = wa := ⟨_, rfl⟩
  obtain ⟨w1, hw1⟩ : ∃ w1, wa.alloc (.cells #[.int .i64 0, .int .i64 0, .int .i64 0] 79) = w1 := ⟨_, rfl⟩
  have hw : (w.alloc (.cells #[.string (strL nm), .slice A n c, .string (strL st)] 44)).alloc (.cells #[.int .i64 0, .int .i64 0, .int .i64 0] 79) = w1 := by rw [hwa, hw1]
  have ba : Below w.heap.size w wa := by rw [← hwa]; exact below_alloc _ _
  have b1 : Below wa.heap.size wa w1 := by rw [← hw1]; exact below_alloc _ _
  have sa : wa.heap.size = w.heap.size + 1 := by rw [← hwa]; simp
  have hb1 : Below w.heap.size w w1 := ba.trans (b1.mono (by omega))
  have s1 : w1.heap.size = w.heap.size + 2 := by rw [← hw1]; simp; omega
  have hxd : w1.heap[w.heap.size]? = some (.cells #[.string (strL nm), .slice A n c, .string (strL st)] 44 (0, 0)) := (b1.block _ (by omega)).trans (by rw [← hwa]; exact heap_alloc_new w _)
  have hxf : w1.heap[w.heap.size + 1]? = some (.cells #[.int .i64 0, .int .i64 0, .int .i64 0] 79 (0, 0)) := by rw [← hw1, ← sa]; exact heap_alloc_new wa _
  obtain ⟨b, eb⟩ : ∃ b, w.heap.size = b := ⟨_, rfl⟩
  rw [eb] at hxd hxf s1
  obtain ⟨⟨fm, ff, fc⟩, hfl⟩ : ∃ t, flawT r = t := ⟨_, rfl⟩
  obtain ⟨fd, hfd⟩ : ∃ fd, r.isSome = fd := ⟨_, rfl⟩
  have HEX : Hid (∀ wx, Below w1.heap.size w1 wx → Calls Try.prog 59 #[.agg #[.string (strL nm), .slice A n c, .string (strL st)]] wx fun e w' => ∃ k, e = .returned (.tuple #[.map k, .agg #[.int .i64 fm, .int .i64 ff, .int .i64 fc], .bool fd]) ∧ Below wx.heap.size wx w') := Lib.hid (fun wx hb => (he wx (hb1.trans (hb.mono hb1.size))).mono (fun e w' h => by
    have := h.flat
    rw [hfl, hfd] at this
    exact this))
  rw [hfl, hfd]
  have d0 : w1.cell? ⟨b, 0, none⟩ = some (.string (strL nm)) := by simp [World.cell?, hxd]
  have d1 : w1.cell? ⟨b, 1, none⟩ = some (.slice A n c) := by simp [World.cell?, hxd]
  have d2 : w1.cell? ⟨b, 2, none⟩ = some (.string (strL st)) := by simp [World.cell?, hxd]
  have HW := Lib.hid hw
  have EB := Lib.hid eb
  have HB1 := Lib.hid hb1
  have HXF := Lib.hid hxf
  have S1 := Lib.hid s1
  clear he hwa hw1 hw ba b1 sa hb1 s1 hxd hxf eb hfl hfd
  go_enter Try.func34, Try.ntmps34
  go_upto_region 1 with fail
  rw [HW.out, EB.out]
  go_wp2_with fail
  refine (HEX.out w1 (Below.refl _ _)).mono ?_
  rintro e w2 ⟨k, rfl, hb2⟩
  have hal3 := below_alloc w2 (.cells #[.int .i64 fm, .int .i64 ff, .int .i64 fc] 79)
  have hn3 : (w2.alloc (.cells #[.int .i64 fm, .int .i64 ff, .int .i64 fc] 79)).heap[w2.heap.size]? = some (.cells #[.int .i64 fm, .int .i64 ff, .int .i64 fc] 79 (0, 0)) := heap_alloc_new w2 _
  obtain ⟨tb, etb⟩ : ∃ tb, w2.heap.size = tb := ⟨_, rfl⟩
  obtain ⟨w3, hw3⟩ : ∃ w3, w2.alloc (.cells #[.int .i64 fm, .int .i64 ff, .int .i64 fc] 79) = w3 := ⟨_, rfl⟩
  rw [hw3] at hal3 hn3
  rw [etb] at hn3
  have hb13 := hb2.trans (hal3.mono hb2.size)
  have hxf3 := (hb13.block (b + 1) (by have := S1.out; omega)).trans HXF.out
  have q0 : w3.cell? ⟨tb, 0, none⟩ = some (.int .i64 fm) := by simp [World.cell?, hn3]
  have q1 : w3.cell? ⟨tb, 1, none⟩ = some (.int .i64 ff) := by simp [World.cell?, hn3]
  have q2 : w3.cell? ⟨tb, 2, none⟩ = some (.int .i64 fc) := by simp [World.cell?, hn3]
  have r0 : w3.cell? ⟨b + 1, 0, none⟩ = some (.int .i64 0) := by simp [World.cell?, hxf3]
  have r1 : w3.cell? ⟨b + 1, 1, none⟩ = some (.int .i64 0) := by simp [World.cell?, hxf3]
  have r2 : w3.cell? ⟨b + 1, 2, none⟩ = some (.int .i64 0) := by simp [World.cell?, hxf3]
  have g0 : w3.frozen? ⟨b + 1, 0, none⟩ = false := by simp [World.frozen?, hxf3]
  have g1 : w3.frozen? ⟨b + 1, 1, none⟩ = false := by simp [World.frozen?, hxf3]
  have g2 : w3.frozen? ⟨b + 1, 2, none⟩ = false := by simp [World.frozen?, hxf3]
  have hset := heap_setCell_same _ (b + 1) 2 _ 79 (.int .i64 fc) (heap_setCell_same _ (b + 1) 1 _ 79 (.int .i64 ff) (heap_setCell_same w3 (b + 1) 0 _ 79 (.int .i64 fm) hxf3))
  have hrs := rest_setAt w3 (b + 1) (.int .i64 fm) (.int .i64 ff) (.int .i64 fc)
  have HBF := Lib.hid ((HB1.out.trans (hb13.mono HB1.out.size)).trans (hrs.toBelow w.heap.size (by have := HB1.out.size; have := hb13.size; omega) (fun i hi e => by have := EB.out; omega)))
  have HSET := Lib.hid hset
  have W3 := Lib.hid hw3
  have ETB := Lib.hid etb
  clear hb2 hal3 hn3 etb hw3 hb13 hxf3 hset hrs d0 d1 d2
  go_upto_region 2 with fail
  rw [W3.out, ETB.out]
  go_wp2_with fail
  have hset := HSET.out
  have hbf := HBF.out
  obtain ⟨w4, hw4⟩ : ∃ w4, ((w3.setCell ⟨b + 1, 0, none⟩ (.int .i64 fm)).setCell ⟨b + 1, 1, none⟩ (.int .i64 ff)).setCell ⟨b + 1, 2, none⟩ (.int .i64 fc) = w4 := ⟨_, rfl⟩
  rw [hw4] at hset hbf ⊢
  have p0 : w4.cell? ⟨b + 1, 0, none⟩ = some (.int .i64 fm) := by simp [World.cell?, hset]
  have p1 : w4.cell? ⟨b + 1, 1, none⟩ = some (.int .i64 ff) := by simp [World.cell?, hset]
  have p2 : w4.cell? ⟨b + 1, 2, none⟩ = some (.int .i64 fc) := by simp [World.cell?, hset]
  refine bodyPost_ret (by simp [results, Try.results34, go_sem, p0, p1, p2]; try rfl) rfl ?_
  exact ⟨rfl, hbf⟩

set_option maxRecDepth 100000 in
set_option maxHeartbeats 1600000 in
theorem valid_of (nm st : List UInt8) (A : Option Addr) (n c : Nat) (r : Option (Int × Int × Int)) (E : Nats) (w : World)
    (he : ∀ wx, Below w.heap.size w wx → Calls Try.prog 59 #[.agg #[.string (strL nm), .slice A n c, .string (strL st)]] wx (ExPost r E wx)) :
    Calls Try.prog 35 #[.agg #[.string (strL nm), .slice A n c, .string (strL st)]] w fun e w' => e = .returned (.bool (!r.isSome)) ∧ Below w.heap.size w w' := by
  have hal := below_alloc w (.cells #[.string (strL nm), .slice A n c, .string (strL st)] 44)
  have hxd : (w.alloc (.cells #[.string (strL nm), .slice A n c, .string (strL st)] 44)).heap[w.heap.size]? = some (.cells #[.string (strL nm), .slice A n c, .string (strL st)] 44 (0, 0)) := heap_alloc_new w _
  obtain ⟨b, eb⟩ : ∃ b, w.heap.size = b := ⟨_, rfl⟩
  obtain ⟨w1, hw1⟩ : ∃ w1, w.alloc (.cells #[.string (strL nm), .slice A n c, .string (strL st)] 44) = w1 := ⟨_, rfl⟩
  rw [hw1] at hal hxd
  rw [eb] at hxd
  have HCK := check_of nm st A n c r E w1 (fun wx hb => he wx (hal.trans (hb.mono hal.size)))
  obtain ⟨⟨fm, ff, fc⟩, hfl⟩ : ∃ t, flawT r = t := ⟨_, rfl⟩
  obtain ⟨fd, hfd⟩ : ∃ fd, r.isSome = fd := ⟨_, rfl⟩
  rw [hfl, hfd] at HCK
  rw [hfd]
  have HCK := Lib.hid HCK
  have d0 : w1.cell? ⟨b, 0, none⟩ = some (.string (strL nm)) := by simp [World.cell?, hxd]
  have d1 : w1.cell? ⟨b, 1, none⟩ = some (.slice A n c) := by simp [World.cell?, hxd]
  have d2 : w1.cell? ⟨b, 2, none⟩ = some (.string (strL st)) := by simp [World.cell?, hxd]
  have HW := Lib.hid hw1
  have EB := Lib.hid eb
  have HAL := Lib.hid hal
  clear he hal hxd eb hw1 hfl hfd
  go_enter Try.func35, Try.ntmps35
  go_upto_region 1 with fail
  rw [HW.out, EB.out]
  go_wp2_with fail
  refine HCK.out.mono ?_
  rintro e w2 ⟨rfl, hb2⟩
  have HB2 := Lib.hid (HAL.out.trans ((hb2.trans ((below_alloc w2 (.cells #[.int .i64 fm, .int .i64 ff, .int .i64 fc] 79)).mono hb2.size)).mono HAL.out.size))
  clear hb2
  go_wp2_with fail
  go_ret
  exact ⟨rfl, HB2.out⟩
end Go.Proofs.Yteibnmnpebfefaa
