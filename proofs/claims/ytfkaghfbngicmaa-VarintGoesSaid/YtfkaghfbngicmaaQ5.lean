/- The walk of VarintGoes, whole. Conditions: the bytes lie in memory. -/
import Derived.Test.YtfkaghfbngicmaaQ4
namespace Go.Proofs.Ytfkaghfbngicmaa
open Go.RowKit Go.Shelf

set_option maxRecDepth 100000 in
set_option maxHeartbeats 1600000 in
theorem goesLaw_walk (A : Option Addr) (N C : Nat) (loose : Bool) (B : List Nat) (lo hi : Int) (w : World) (hs : SrcAt w (.slice A N C) B) (hN : N = B.length) (hC : N ≤ C) (hC2 : C ≤ 9223372036854775807) (h256 : ∀ x ∈ B, x < 256) :
    Calls Try.prog 9 #[.slice A N C, .bool loose, .agg #[.int .i64 lo, .int .i64 hi]] w fun e w' => e = .returned (.bool true) ∧ Below w.heap.size w w' := by
  have KN := fun w => Lib.hid (known9_any w)
  obtain ⟨hr1, hr2, hr3⟩ := range_cells w lo hi
  by_cases hl : 6 < N
  · have HR1 := Lib.hid hr1
    clear hs hN h256 hr1 hr2 hr3
    go_enter Try.func9, Try.ntmps9
    go_wp2_with fail
    refine (KN _).out.mono ?_
    rintro e w' ⟨rfl, hb⟩
    go_wp2
    go_ret
    exact ⟨rfl, HR1.out.trans (hb.mono HR1.out.size)⟩
  · cases hr : rangeV lo hi with
    | true => exact goes_ok A N C loose B lo hi w hs hN (by omega) hC hC2 h256 hr
    | false =>
      have HB := fun w => Lib.hid (begins_bad A N C loose lo hi w hr)
      unfold BeginsOf at HB
      obtain ⟨w0, hw0⟩ : ∃ w0, w.alloc (.cells #[.int .i64 lo, .int .i64 hi] 44) = w0 := ⟨_, rfl⟩
      rw [hw0] at hr1
      have HW0 := Lib.hid hw0
      have HR1 := Lib.hid hr1
      clear hs hN h256 hr hr1 hr2 hr3 hw0
      go_enter Try.func9, Try.ntmps9
      go_wp2_with fail
      rw [HW0.out]
      refine (HB _).out.mono ?_
      rintro e w1 ⟨rfl, hb1⟩
      have HB1 := Lib.hid (HR1.out.trans (hb1.mono HR1.out.size))
      clear hb1
      go_wp2_with fail
      refine (KN _).out.mono ?_
      rintro e w2 ⟨rfl, hb2⟩
      go_wp2
      go_ret
      exact ⟨rfl, HB1.out.trans (hb2.mono HB1.out.size)⟩
end Go.Proofs.Ytfkaghfbngicmaa
