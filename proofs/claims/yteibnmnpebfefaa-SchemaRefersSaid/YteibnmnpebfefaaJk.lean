/- Depth, and the law's test for a flaw. Conditions: the contracts of natureIn and of Check. -/
import Derived.Test.YteibnmnpebfefaaJj
namespace Go.Proofs.Yteibnmnpebfefaa
open Go.RowKit Go.Shelf

set_option maxRecDepth 100000 in
set_option maxHeartbeats 1600000 in
theorem depth_of (nm st : List UInt8) (A : Option Addr) (n c : Nat) (mi zd ze : Int) (zs : Bool) (w : World)
    (he : ∀ wx, Below w.heap.size w wx → Calls Try.prog 54 #[.agg #[.string (strL nm), .slice A n c, .string (strL st)], .int .i64 mi] wx fun e w' => e = .returned (.tuple #[natV (zd, zs), .int .i64 ze]) ∧ Below wx.heap.size wx w') :
    Calls Try.prog 27 #[.agg #[.string (strL nm), .slice A n c, .string (strL st)], .int .i64 mi] w fun e w' => e = .returned (.tuple #[.int .i64 zd, .int .i64 ze]) ∧ Below w.heap.size w w' := by
  have hal := below_alloc w (.cells #[.string (strL nm), .slice A n c, .string (strL st)] 44)
  have hxd : (w.alloc (.cells #[.string (strL nm), .slice A n c, .string (strL st)] 44)).heap[w.heap.size]? = some (.cells #[.string (strL nm), .slice A n c, .string (strL st)] 44 (0, 0)) := heap_alloc_new w _
  obtain ⟨b, eb⟩ : ∃ b, w.heap.size = b := ⟨_, rfl⟩
  obtain ⟨w1, hw1⟩ : ∃ w1, w.alloc (.cells #[.string (strL nm), .slice A n c, .string (strL st)] 44) = w1 := ⟨_, rfl⟩
  rw [hw1] at hal hxd
  rw [eb] at hxd
  have HN := he w1 hal
  unfold natV at HN
  have HN := Lib.hid HN
  have d0 : w1.cell? ⟨b, 0, none⟩ = some (.string (strL nm)) := by simp [World.cell?, hxd]
  have d1 : w1.cell? ⟨b, 1, none⟩ = some (.slice A n c) := by simp [World.cell?, hxd]
  have d2 : w1.cell? ⟨b, 2, none⟩ = some (.string (strL st)) := by simp [World.cell?, hxd]
  have HW := Lib.hid hw1
  have EB := Lib.hid eb
  have HAL := Lib.hid hal
  clear he hal hxd eb hw1
  go_enter Try.func27, Try.ntmps27
  go_upto_region 1 with fail
  rw [HW.out, EB.out]
  go_wp2_with fail
  refine HN.out.mono ?_
  rintro e w2 ⟨rfl, hb2⟩
  have hb3 := hb2.trans ((below_alloc w2 (.cells #[.int .i64 zd, .bool zs] 102)).mono hb2.size)
  have hn3 := NBox.new w2 zd zs
  obtain ⟨tb, etb⟩ : ∃ tb, w2.heap.size = tb := ⟨_, rfl⟩
  obtain ⟨w3, hw3⟩ : ∃ w3, w2.alloc (.cells #[.int .i64 zd, .bool zs] 102) = w3 := ⟨_, rfl⟩
  rw [hw3] at hb3 hn3
  rw [etb] at hn3
  have q0 := hn3.c0
  have HB := Lib.hid (HAL.out.trans (hb3.mono HAL.out.size))
  have W3 := Lib.hid hw3
  have ETB := Lib.hid etb
  clear hb2 hb3 hn3 etb hw3
  go_upto_region 2 with fail
  rw [W3.out, ETB.out]
  go_wp2_with fail
  go_ret2
  exact ⟨rfl, HB.out⟩

set_option maxRecDepth 100000 in
set_option maxHeartbeats 1600000 in
theorem flawed_of (nm st : List UInt8) (A : Option Addr) (n c : Nat) (fm ff fc : Int) (w : World)
    (he : ∀ wx, Below w.heap.size w wx → Calls Try.prog 34 #[.agg #[.string (strL nm), .slice A n c, .string (strL st)]] wx fun e w' => e = .returned (.tuple #[.agg #[.int .i64 fm, .int .i64 ff, .int .i64 fc], .bool true]) ∧ Below wx.heap.size wx w') :
    Calls Try.prog 38 #[.agg #[.string (strL nm), .slice A n c, .string (strL st)], .int .i64 fm, .int .i64 ff, .int .i64 fc] w fun e w' => e = .returned (.bool true) ∧ Below w.heap.size w w' := by
  have hal := below_alloc w (.cells #[.string (strL nm), .slice A n c, .string (strL st)] 44)
  have hxd : (w.alloc (.cells #[.string (strL nm), .slice A n c, .string (strL st)] 44)).heap[w.heap.size]? = some (.cells #[.string (strL nm), .slice A n c, .string (strL st)] 44 (0, 0)) := heap_alloc_new w _
  obtain ⟨b, eb⟩ : ∃ b, w.heap.size = b := ⟨_, rfl⟩
  obtain ⟨w1, hw1⟩ : ∃ w1, w.alloc (.cells #[.string (strL nm), .slice A n c, .string (strL st)] 44) = w1 := ⟨_, rfl⟩
  rw [hw1] at hal hxd
  rw [eb] at hxd
  have HN := Lib.hid (he w1 hal)
  have d0 : w1.cell? ⟨b, 0, none⟩ = some (.string (strL nm)) := by simp [World.cell?, hxd]
  have d1 : w1.cell? ⟨b, 1, none⟩ = some (.slice A n c) := by simp [World.cell?, hxd]
  have d2 : w1.cell? ⟨b, 2, none⟩ = some (.string (strL st)) := by simp [World.cell?, hxd]
  have HW := Lib.hid hw1
  have EB := Lib.hid eb
  have HAL := Lib.hid hal
  have hcmp : ∀ w, (binOp .eql 79 (.agg #[.int .i64 fm, .int .i64 ff, .int .i64 fc]) (.agg #[.int .i64 fm, .int .i64 ff, .int .i64 fc])).run Try.prog w = .ok (.bool true) w := fun w => by
    simp [go_sem]
  clear he hal hxd eb hw1
  go_enter Try.func38, Try.ntmps38
  go_upto_region 1 with fail
  rw [HW.out, EB.out]
  go_wp2_with fail
  refine HN.out.mono ?_
  rintro e w2 ⟨rfl, hb2⟩
  have hb3 := hb2.trans ((below_alloc w2 (.cells #[.int .i64 fm, .int .i64 ff, .int .i64 fc] 79)).mono hb2.size)
  have hn3 : (w2.alloc (.cells #[.int .i64 fm, .int .i64 ff, .int .i64 fc] 79)).heap[w2.heap.size]? = some (.cells #[.int .i64 fm, .int .i64 ff, .int .i64 fc] 79 (0, 0)) := heap_alloc_new w2 _
  obtain ⟨tb, etb⟩ : ∃ tb, w2.heap.size = tb := ⟨_, rfl⟩
  obtain ⟨w3, hw3⟩ : ∃ w3, w2.alloc (.cells #[.int .i64 fm, .int .i64 ff, .int .i64 fc] 79) = w3 := ⟨_, rfl⟩
  rw [hw3] at hb3 hn3
  rw [etb] at hn3
  have q0 : w3.cell? ⟨tb, 0, none⟩ = some (.int .i64 fm) := by simp [World.cell?, hn3]
  have q1 : w3.cell? ⟨tb, 1, none⟩ = some (.int .i64 ff) := by simp [World.cell?, hn3]
  have q2 : w3.cell? ⟨tb, 2, none⟩ = some (.int .i64 fc) := by simp [World.cell?, hn3]
  have HB := Lib.hid (HAL.out.trans (hb3.mono HAL.out.size))
  have W3 := Lib.hid hw3
  have ETB := Lib.hid etb
  clear hb2 hb3 hn3 etb hw3
  go_upto_region 2 with fail
  rw [W3.out, ETB.out]
  go_wp2_with fail
  go_ret
  exact ⟨rfl, HB.out⟩
end Go.Proofs.Yteibnmnpebfefaa
