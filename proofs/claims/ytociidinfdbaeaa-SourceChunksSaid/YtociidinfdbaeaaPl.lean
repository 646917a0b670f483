/- play at nil and at the zero value. Conditions: the zero value lies in memory; the bounds of the kinds. -/
import Derived.Test.YtociidinfdbaeaaNo
namespace Go.Proofs.Ytociidinfdbaeaa
open Go.RowKit Go.Shelf

/-- What play answers without a source. -/
def NoPlay (kd : Int) (w : World) (e : Ending) (w' : World) : Prop :=
  e = .returned (.tuple #[.slice none 0 0, .int .i64 (if kd % 7 = 5 then 0 else 1)]) ∧ Below w.heap.size w w'

set_option maxRecDepth 100000 in
set_option maxHeartbeats 800000 in
theorem play_nil (w : World) (kd E N : Int) (X : Option Addr) (m c : Nat) (hk : 0 ≤ kd) (hk2 : kd ≤ 255) :
    Calls Try.prog 23 #[.pointer none, .agg #[.int .u8 kd, .slice X m c, .int .i64 N, .int .u8 E]] w (NoPlay kd w) := by
  have hb0 := (Below.refl w.heap.size w).alloc (Nat.le_refl _) (.cells #[.int .u8 kd, .slice X m c, .int .i64 N, .int .u8 E] 53)
  have HK := Lib.hid (kind_any kd E N (.slice X m c) (w.alloc (.cells #[.int .u8 kd, .slice X m c, .int .i64 N, .int .u8 E] 53)) hk hk2)
  have HB0 := Lib.hid hb0
  have hx : ∀ j, (w.alloc (.cells #[.int .u8 kd, .slice X m c, .int .i64 N, .int .u8 E] 53)).cell? ⟨w.heap.size, j, none⟩ = (#[.int .u8 kd, .slice X m c, .int .i64 N, .int .u8 E] : Array Value)[j]? := fun j => World.cell?_alloc_new w _ _ j
  have HX := Lib.hid hx
  clear hb0 hx
  obtain ⟨k, hkk⟩ : ∃ k, kd % 7 = k := ⟨_, rfl⟩
  have hk7 : k = 0 ∨ k = 1 ∨ k = 2 ∨ k = 3 ∨ k = 4 ∨ k = 5 ∨ k = 6 := by omega
  rw [hkk] at HK
  unfold NoPlay
  rw [hkk]
  have HKK := Lib.hid hkk
  clear hkk
  rcases hk7 with rfl | rfl | rfl | rfl | rfl | rfl | rfl
  all_goals
    go_enter Try.func23, Try.ntmps23
    go_wp2_with fail
    refine HK.out.mono ?_
    rintro e w1 ⟨rfl, hb1⟩
    have q1 := (hb1.cell (p := ⟨w.heap.size, 1, none⟩) (by simp)).trans (HX.out 1)
    have q2 := (hb1.cell (p := ⟨w.heap.size, 2, none⟩) (by simp)).trans (HX.out 2)
    have q3 := (hb1.cell (p := ⟨w.heap.size, 3, none⟩) (by simp)).trans (HX.out 3)
    simp at q1 q2 q3
    have hb := HB0.out.trans (hb1.mono (by simp))
    have HB := Lib.hid hb
    clear hb1 hb
    go_wp2_with (first | (go_at_call 18; go_must (refine (feed_nil _ _).mono ?_); rintro e w2 ⟨rfl, rfl⟩) | (go_at_call 27; go_must (refine (peek_nil _ _).mono ?_); rintro e w2 ⟨rfl, rfl⟩) | (go_at_call 19; go_must (refine (take_nil _ _).mono ?_); rintro e w2 ⟨rfl, rfl⟩) | (go_at_call 20; go_must (refine (until_nil _ _ _).mono ?_); rintro e w2 ⟨rfl, rfl⟩) | (go_at_call 28; go_must (refine (close_nil _).mono ?_); rintro e w2 ⟨rfl, rfl⟩) | (go_at_call 17; go_must (refine (skip_nil _ _).mono ?_); rintro e w2 ⟨rfl, hb2⟩))
    go_ret2
    first
    | exact ⟨rfl, HB.out⟩
    | exact ⟨rfl, HB.out.trans (hb2.mono HB.out.size)⟩

set_option maxRecDepth 100000 in
set_option maxHeartbeats 800000 in
theorem play_zero (p : Nat) (w : World) (hc : w.cell? ⟨p, 1, none⟩ = some (.int .i64 0)) (kd E N : Int) (X : Option Addr) (m c : Nat) (hk : 0 ≤ kd) (hk2 : kd ≤ 255) :
    Calls Try.prog 23 #[.pointer (some ⟨p, 0, none⟩), .agg #[.int .u8 kd, .slice X m c, .int .i64 N, .int .u8 E]] w (NoPlay kd w) := by
  have hb0 := (Below.refl w.heap.size w).alloc (Nat.le_refl _) (.cells #[.int .u8 kd, .slice X m c, .int .i64 N, .int .u8 E] 53)
  have HK := Lib.hid (kind_any kd E N (.slice X m c) (w.alloc (.cells #[.int .u8 kd, .slice X m c, .int .i64 N, .int .u8 E] 53)) hk hk2)
  have HB0 := Lib.hid hb0
  have hx : ∀ j, (w.alloc (.cells #[.int .u8 kd, .slice X m c, .int .i64 N, .int .u8 E] 53)).cell? ⟨w.heap.size, j, none⟩ = (#[.int .u8 kd, .slice X m c, .int .i64 N, .int .u8 E] : Array Value)[j]? := fun j => World.cell?_alloc_new w _ _ j
  have HX := Lib.hid hx
  have hlt : p < w.heap.size := World.block_lt_of_cell? _ _ hc
  have HC := Lib.hid ((World.cell?_alloc_lt w (.cells #[.int .u8 kd, .slice X m c, .int .i64 N, .int .u8 E] 53) _ hlt).trans hc)
  clear hb0 hx
  obtain ⟨k, hkk⟩ : ∃ k, kd % 7 = k := ⟨_, rfl⟩
  have hk7 : k = 0 ∨ k = 1 ∨ k = 2 ∨ k = 3 ∨ k = 4 ∨ k = 5 ∨ k = 6 := by omega
  rw [hkk] at HK
  unfold NoPlay
  rw [hkk]
  have HKK := Lib.hid hkk
  clear hkk
  rcases hk7 with rfl | rfl | rfl | rfl | rfl | rfl | rfl
  all_goals
    go_enter Try.func23, Try.ntmps23
    go_wp2_with fail
    refine HK.out.mono ?_
    rintro e w1 ⟨rfl, hb1⟩
    have q1 := (hb1.cell (p := ⟨w.heap.size, 1, none⟩) (by simp)).trans (HX.out 1)
    have q2 := (hb1.cell (p := ⟨w.heap.size, 2, none⟩) (by simp)).trans (HX.out 2)
    have q3 := (hb1.cell (p := ⟨w.heap.size, 3, none⟩) (by simp)).trans (HX.out 3)
    simp at q1 q2 q3
    have hc1 := (hb1.cell (p := ⟨p, 1, none⟩) (by simp; omega)).trans HC.out
    have hb := HB0.out.trans (hb1.mono (by simp))
    have HB := Lib.hid hb
    clear hb1 hb
    go_wp2_with (first | (go_at_call 18; go_must (refine (feed_zero p _ hc1 _).mono ?_); rintro e w2 ⟨rfl, rfl⟩) | (go_at_call 27; go_must (refine (peek_zero p _ hc1 _).mono ?_); rintro e w2 ⟨rfl, rfl⟩) | (go_at_call 19; go_must (refine (take_zero p _ hc1 _).mono ?_); rintro e w2 ⟨rfl, rfl⟩) | (go_at_call 20; go_must (refine (until_zero p _ hc1 _ _).mono ?_); rintro e w2 ⟨rfl, rfl⟩) | (go_at_call 28; go_must (refine (close_zero p _ hc1).mono ?_); rintro e w2 ⟨rfl, rfl⟩) | (go_at_call 17; go_must (refine (skip_zero p _ hc1 _).mono ?_); rintro e w2 ⟨rfl, hb2⟩))
    go_ret2
    first
    | exact ⟨rfl, HB.out⟩
    | exact ⟨rfl, HB.out.trans (hb2.mono HB.out.size)⟩

end Go.Proofs.Ytociidinfdbaeaa
