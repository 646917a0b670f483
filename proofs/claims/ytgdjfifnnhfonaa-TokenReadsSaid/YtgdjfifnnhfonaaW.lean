/- Every call without a reader: for nil and for the zero value. Conditions: there is no reader. -/
import Derived.Test.YtgdjfifnnhfonaaV
namespace Go.Proofs.Ytgdjfifnnhfonaa
open Go.RowKit Go.Shelf

/-- There is no reader, whatever is made behind it. -/
def NoR (r : Value) (w : World) : Prop := ∀ W, Below w.heap.size w W → Calls Try.prog 44 #[r] W fun e w' => e = .returned (.bool true) ∧ W = w'
theorem NoR.later {r : Value} {w W : World} (h : NoR r w) (hb : Below w.heap.size w W) : NoR r W := fun X hx => h X (hb.trans (hx.mono hb.size))
theorem noR_nil (w : World) : NoR (.pointer none) w := fun W _ => by
  go_enter Try.func44, Try.ntmps44
  go_wp2
  go_ret
  exact ⟨rfl, rfl⟩
theorem noR_zero (p : Nat) (w : World) (hc : w.cell? ⟨p, 1, none⟩ = some (.int .i64 0)) (hp : p < w.heap.size) : NoR (.pointer (some ⟨p, 0, none⟩)) w := fun W hb => by
  have hc' : W.cell? ⟨p, 1, none⟩ = some (.int .i64 0) := (hb.cell (p := ⟨p, 1, none⟩) hp).trans hc
  clear hc hb hp
  go_enter Try.func44, Try.ntmps44
  go_wp2
  go_ret
  exact ⟨rfl, rfl⟩

theorem new5 (w : World) : Below w.heap.size w ((((((w.alloc (.cells #[.int .i64 0, .string ⟨#[]⟩, .int .i64 0, .int .i64 0, .int .i64 0] 36)).setCell ⟨w.heap.size, 0, none⟩ (.int .i64 0)).setCell ⟨w.heap.size, 1, none⟩ (.string ⟨#[]⟩)).setCell ⟨w.heap.size, 2, none⟩ (.int .i64 0)).setCell ⟨w.heap.size, 3, none⟩ (.int .i64 0)).setCell ⟨w.heap.size, 4, none⟩ (.int .i64 0)) := by
  have hal := (Below.refl w.heap.size w).alloc (Nat.le_refl _) (.cells #[.int .i64 0, .string ⟨#[]⟩, .int .i64 0, .int .i64 0, .int .i64 0] 36)
  exact hal.trans ((set5 (tbox_new w (.int .i64 0) (.string ⟨#[]⟩) (.int .i64 0) (.int .i64 0) (.int .i64 0)) (.int .i64 0) (.string ⟨#[]⟩) (.int .i64 0) (.int .i64 0) (.int .i64 0)).2.toBelow w.heap.size hal.size (fun i hi e => by omega))

set_option maxRecDepth 100000 in
set_option maxHeartbeats 1600000 in
theorem nopeek (r : Value) (w : World) (h : NoR r w) :
    Calls Try.prog 20 #[r] w fun e w' => e = .returned (.tuple #[.agg #[.int .i64 0, .string ⟨#[]⟩, .int .i64 0, .int .i64 0, .int .i64 0], .int .i64 1]) ∧ Below w.heap.size w w' := by
  have hal := (Below.refl w.heap.size w).alloc (Nat.le_refl _) (.cells #[.int .i64 0, .string ⟨#[]⟩, .int .i64 0, .int .i64 0, .int .i64 0] 36)
  have hbx := tbox_new w (.int .i64 0) (.string ⟨#[]⟩) (.int .i64 0) (.int .i64 0) (.int .i64 0)
  obtain ⟨w1, hw1⟩ : ∃ w1, w.alloc (.cells #[.int .i64 0, .string ⟨#[]⟩, .int .i64 0, .int .i64 0, .int .i64 0] 36) = w1 := ⟨_, rfl⟩
  obtain ⟨b, eb⟩ : ∃ b, w.heap.size = b := ⟨_, rfl⟩
  rw [hw1] at hal hbx
  rw [eb] at hbx
  have hn := h w1 hal
  have HN := Lib.hid hn
  have HW := Lib.hid hw1
  have EB := Lib.hid eb
  have HAL := Lib.hid hal
  have Hx := Lib.hid hbx
  have xc0 := Hx.out.c0
  have xc1 := Hx.out.c1
  have xc2 := Hx.out.c2
  have xc3 := Hx.out.c3
  have xc4 := Hx.out.c4
  have xf0 := Hx.out.fr 0
  have xf1 := Hx.out.fr 1
  have xf2 := Hx.out.fr 2
  have xf3 := Hx.out.fr 3
  have xf4 := Hx.out.fr 4
  clear hn hw1 eb hal hbx h
  go_enter Try.func20, Try.ntmps20
  go_wp2_with fail
  rw [HW.out, EB.out]
  go_wp2_with (go_at_call 44; refine HN.out.mono ?_; rintro e w2 ⟨rfl, rfl⟩)
  obtain ⟨hs1, hs2⟩ := set5 Hx.out (.int .i64 0) (.string ⟨#[]⟩) (.int .i64 0) (.int .i64 0) (.int .i64 0)
  generalize (((((w1.setCell ⟨b, 0, none⟩ (.int .i64 0)).setCell ⟨b, 1, none⟩ (.string ⟨#[]⟩)).setCell ⟨b, 2, none⟩ (.int .i64 0)).setCell ⟨b, 3, none⟩ (.int .i64 0)).setCell ⟨b, 4, none⟩ (.int .i64 0)) = w5 at hs1 hs2 ⊢
  have e0 := hs1.c0
  have e1 := hs1.c1
  have e2 := hs1.c2
  have e3 := hs1.c3
  have e4 := hs1.c4
  have hb5 : Below w.heap.size w w5 := HAL.out.trans (hs2.toBelow w.heap.size HAL.out.size (fun i hi e => by have := EB.out; omega))
  refine bodyPost_ret (by simp [results, Try.results20, go_sem, *]; try rfl) rfl ?_
  exact ⟨rfl, hb5⟩

set_option maxRecDepth 100000 in
set_option maxHeartbeats 1600000 in
theorem nopass (r f : Value) (w : World) (h : NoR r w) :
    Calls Try.prog 42 #[r, f] w fun e w' => e = .returned (.tuple #[.agg #[.int .i64 0, .string ⟨#[]⟩, .int .i64 0, .int .i64 0, .int .i64 0], .int .i64 1]) ∧ Below w.heap.size w w' := by
  have hal := (Below.refl w.heap.size w).alloc (Nat.le_refl _) (.cells #[.int .i64 0, .string ⟨#[]⟩, .int .i64 0, .int .i64 0, .int .i64 0] 36)
  have hbx := tbox_new w (.int .i64 0) (.string ⟨#[]⟩) (.int .i64 0) (.int .i64 0) (.int .i64 0)
  obtain ⟨w1, hw1⟩ : ∃ w1, w.alloc (.cells #[.int .i64 0, .string ⟨#[]⟩, .int .i64 0, .int .i64 0, .int .i64 0] 36) = w1 := ⟨_, rfl⟩
  obtain ⟨b, eb⟩ : ∃ b, w.heap.size = b := ⟨_, rfl⟩
  rw [hw1] at hal hbx
  rw [eb] at hbx
  have hn := nopeek r w1 (h.later hal)
  have HN := Lib.hid hn
  have HW := Lib.hid hw1
  have EB := Lib.hid eb
  have HAL := Lib.hid hal
  have Hx := Lib.hid hbx
  clear hn hw1 eb hal hbx h
  go_enter Try.func42, Try.ntmps42
  go_wp2_with fail
  rw [HW.out, EB.out]
  refine HN.out.mono ?_
  rintro e w2 ⟨rfl, hb2⟩
  have hal3 := (Below.refl w2.heap.size w2).alloc (Nat.le_refl _) (.cells #[.int .i64 0, .string ⟨#[]⟩, .int .i64 0, .int .i64 0, .int .i64 0] 36)
  have hbx3 := tbox_new w2 (.int .i64 0) (.string ⟨#[]⟩) (.int .i64 0) (.int .i64 0) (.int .i64 0)
  have hlt := Hx.out.lt
  have hx2 := Hx.out.below hb2 hlt
  have hx3 := hx2.below hal3 hx2.lt
  have hb3 := HAL.out.trans ((hb2.trans (hal3.mono hb2.size)).mono HAL.out.size)
  have S1 := Lib.hid hbx3
  have X3 := Lib.hid hx3
  have HB3 := Lib.hid hb3
  clear hal3 hbx3 hlt hx2 hx3 hb3 hb2 HW HN Hx
  go_upto_region 3 with fail
  have Hy := Lib.hid S1.out
  have Hx := Lib.hid X3.out
  have HB := Lib.hid HB3.out
  clear S1 X3 HB3
  generalize w2.alloc (.cells #[.int .i64 0, .string ⟨#[]⟩, .int .i64 0, .int .i64 0, .int .i64 0] 36) = w3 at Hx Hy HB ⊢
  obtain ⟨q, eq⟩ : ∃ q, w2.heap.size = q := ⟨_, rfl⟩
  rw [eq] at Hy ⊢
  clear eq
  have xc0 := Hx.out.c0
  have xc1 := Hx.out.c1
  have xc2 := Hx.out.c2
  have xc3 := Hx.out.c3
  have xc4 := Hx.out.c4
  have xf0 := Hx.out.fr 0
  have xf1 := Hx.out.fr 1
  have xf2 := Hx.out.fr 2
  have xf3 := Hx.out.fr 3
  have xf4 := Hx.out.fr 4
  go_wp2_with fail
  obtain ⟨hs1, hs2⟩ := set5 Hx.out (.int .i64 0) (.string ⟨#[]⟩) (.int .i64 0) (.int .i64 0) (.int .i64 0)
  generalize (((((w3.setCell ⟨b, 0, none⟩ (.int .i64 0)).setCell ⟨b, 1, none⟩ (.string ⟨#[]⟩)).setCell ⟨b, 2, none⟩ (.int .i64 0)).setCell ⟨b, 3, none⟩ (.int .i64 0)).setCell ⟨b, 4, none⟩ (.int .i64 0)) = w5 at hs1 hs2 ⊢
  have e0 := hs1.c0
  have e1 := hs1.c1
  have e2 := hs1.c2
  have e3 := hs1.c3
  have e4 := hs1.c4
  have hb5 : Below w.heap.size w w5 := HB.out.trans (hs2.toBelow w.heap.size HB.out.size (fun i hi e => by have := EB.out; omega))
  refine bodyPost_ret (by simp [results, Try.results42, go_sem, *]; try rfl) rfl ?_
  exact ⟨rfl, hb5⟩

set_option maxRecDepth 100000 in
set_option maxHeartbeats 1600000 in
theorem nonext (r : Value) (w : World) (h : NoR r w) :
    Calls Try.prog 19 #[r] w fun e w' => e = .returned (.tuple #[.agg #[.int .i64 0, .string ⟨#[]⟩, .int .i64 0, .int .i64 0, .int .i64 0], .int .i64 1]) ∧ Below w.heap.size w w' := by
  have hal := (Below.refl w.heap.size w).alloc (Nat.le_refl _) (.cells #[.int .i64 0, .string ⟨#[]⟩, .int .i64 0, .int .i64 0, .int .i64 0] 36)
  have hbx := tbox_new w (.int .i64 0) (.string ⟨#[]⟩) (.int .i64 0) (.int .i64 0) (.int .i64 0)
  obtain ⟨w1, hw1⟩ : ∃ w1, w.alloc (.cells #[.int .i64 0, .string ⟨#[]⟩, .int .i64 0, .int .i64 0, .int .i64 0] 36) = w1 := ⟨_, rfl⟩
  obtain ⟨b, eb⟩ : ∃ b, w.heap.size = b := ⟨_, rfl⟩
  rw [hw1] at hal hbx
  rw [eb] at hbx
  have hn := nopass r (.func (.func 43) #[] #[]) w1 (h.later hal)
  have HN := Lib.hid hn
  have HW := Lib.hid hw1
  have EB := Lib.hid eb
  have HAL := Lib.hid hal
  have Hx := Lib.hid hbx
  clear hn hw1 eb hal hbx h
  go_enter Try.func19, Try.ntmps19
  go_wp2_with fail
  rw [HW.out, EB.out]
  refine HN.out.mono ?_
  rintro e w2 ⟨rfl, hb2⟩
  have hx2 := Hx.out.below hb2 Hx.out.lt
  have hb := HAL.out.trans (hb2.mono HAL.out.size)
  clear Hx HAL HN HW hb2
  have Hx := Lib.hid hx2
  have HB := Lib.hid hb
  clear hx2 hb
  have xc0 := Hx.out.c0
  have xc1 := Hx.out.c1
  have xc2 := Hx.out.c2
  have xc3 := Hx.out.c3
  have xc4 := Hx.out.c4
  have xf0 := Hx.out.fr 0
  have xf1 := Hx.out.fr 1
  have xf2 := Hx.out.fr 2
  have xf3 := Hx.out.fr 3
  have xf4 := Hx.out.fr 4
  go_wp2_with fail
  obtain ⟨hs1, hs2⟩ := set5 Hx.out (.int .i64 0) (.string ⟨#[]⟩) (.int .i64 0) (.int .i64 0) (.int .i64 0)
  generalize (((((w2.setCell ⟨b, 0, none⟩ (.int .i64 0)).setCell ⟨b, 1, none⟩ (.string ⟨#[]⟩)).setCell ⟨b, 2, none⟩ (.int .i64 0)).setCell ⟨b, 3, none⟩ (.int .i64 0)).setCell ⟨b, 4, none⟩ (.int .i64 0)) = w5 at hs1 hs2 ⊢
  have e0 := hs1.c0
  have e1 := hs1.c1
  have e2 := hs1.c2
  have e3 := hs1.c3
  have e4 := hs1.c4
  have hb5 : Below w.heap.size w w5 := HB.out.trans (hs2.toBelow w.heap.size HB.out.size (fun i hi e => by have := EB.out; omega))
  refine bodyPost_ret (by simp [results, Try.results19, go_sem, *]; try rfl) rfl ?_
  exact ⟨rfl, hb5⟩

set_option maxRecDepth 100000 in
set_option maxHeartbeats 1600000 in
theorem noword (r : Value) (w : World) (h : NoR r w) :
    Calls Try.prog 22 #[r] w fun e w' => e = .returned (.tuple #[.string ⟨#[]⟩, .int .i64 1]) ∧ Below w.heap.size w w' := by
  have HN := Lib.hid (nopass r (.func (.func 46) #[] #[]) w h)
  clear h
  go_enter Try.func22, Try.ntmps22
  go_wp2_with (go_at_call 42; refine HN.out.mono ?_; rintro e w2 ⟨rfl, hb2⟩)
  go_ret2
  exact ⟨rfl, hb2.trans (((Below.refl w2.heap.size w2).alloc (Nat.le_refl _) _).mono hb2.size)⟩

set_option maxRecDepth 100000 in
set_option maxHeartbeats 1600000 in
theorem nonumber (r : Value) (w : World) (h : NoR r w) :
    Calls Try.prog 23 #[r] w fun e w' => e = .returned (.tuple #[.int .i64 0, .int .i64 1]) ∧ Below w.heap.size w w' := by
  have HN := Lib.hid (nopass r (.func (.func 47) #[] #[]) w h)
  clear h
  go_enter Try.func23, Try.ntmps23
  go_wp2_with (go_at_call 42; refine HN.out.mono ?_; rintro e w2 ⟨rfl, hb2⟩)
  go_ret2
  exact ⟨rfl, hb2.trans (((Below.refl w2.heap.size w2).alloc (Nat.le_refl _) _).mono hb2.size)⟩

end Go.Proofs.Ytgdjfifnnhfonaa
