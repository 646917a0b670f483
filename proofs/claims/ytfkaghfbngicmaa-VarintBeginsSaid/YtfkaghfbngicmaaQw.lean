/- The walk of VarintBegins. Conditions: the bytes lie in memory. -/
import Derived.Test.YtfkaghfbngicmaaQv
import Derived.Test.YtfkaghfbngicmaaQo
namespace Go.Proofs.Ytfkaghfbngicmaa
open Go.RowKit Go.Shelf

theorem rbegins_any (A : Option Addr) (N C : Nat) (loose : Bool) (B : List Nat) (lo hi : Int) (w : World) (hs : SrcAt w (.slice A N C) B) (hN : N = B.length) (hl : N ≤ 9223372036854775807) (h256 : ∀ x ∈ B, x < 256) :
    Calls Try.prog 19 #[.slice A N C, .bool loose, .int .i64 lo, .int .i64 hi] w fun e w' => e = .returned (.tuple #[.bool (beginsC B loose lo hi).1, .int .i64 ((beginsC B loose lo hi).2 : Nat)]) ∧ w = w' := by
  unfold beginsC
  cases h : rangeV lo hi with
  | false => exact rbegins_bad A N C loose lo hi w h
  | true => exact rbegins_ok A N C loose B lo hi w h hs hN hl h256

set_option maxRecDepth 100000 in
set_option maxHeartbeats 3200000 in
theorem beginsLaw_walk (A : Option Addr) (N C : Nat) (loose : Bool) (B : List Nat) (lo hi : Int) (w : World) (hs : SrcAt w (.slice A N C) B) (hN : N = B.length) (hC : N ≤ C) (hC2 : C ≤ 9223372036854775807) (h256 : ∀ x ∈ B, x < 256) :
    Calls Try.prog 6 #[.slice A N C, .bool loose, .agg #[.int .i64 lo, .int .i64 hi]] w fun e w' => e = .returned (.bool true) ∧ Below w.heap.size w w' := by
  have KN := fun w => Lib.hid (known9_any w)
  obtain ⟨hr1, hr2, hr3⟩ := range_cells w lo hi
  by_cases hl : 10 < N
  · have HR1 := Lib.hid hr1
    clear hs hN h256 hr1 hr2 hr3
    go_enter Try.func6, Try.ntmps6
    go_wp2_with fail
    refine (KN _).out.mono ?_
    rintro e w' ⟨rfl, hb⟩
    go_wp2
    go_ret
    exact ⟨rfl, HR1.out.trans (hb.mono HR1.out.size)⟩
  · have HS := Lib.hid (hs.below hr1 hs.lt)
    have HR := fun w hs => Lib.hid (begins_any A N C loose B lo hi w hs hN hC hC2 h256)
    have HD := fun w hs => Lib.hid (rbegins_any A N C loose B lo hi w hs hN (by omega) h256)
    unfold BeginsOf at HR
    obtain ⟨⟨r1, r2⟩, hr⟩ : ∃ r, beginsC B loose lo hi = r := ⟨_, rfl⟩
    simp only [hr] at HR HD
    obtain ⟨w0, hw0⟩ : ∃ w0, w.alloc (.cells #[.int .i64 lo, .int .i64 hi] 44) = w0 := ⟨_, rfl⟩
    rw [hw0] at hr1 hr2 hr3 HS
    have HW0 := Lib.hid hw0
    have HR1 := Lib.hid hr1
    have C0 := Lib.hid hr2
    have C1 := Lib.hid hr3
    clear hs hN h256 hr hr1 hr2 hr3 hw0
    go_enter Try.func6, Try.ntmps6
    go_wp2_with fail
    rw [HW0.out]
    refine (HR _ HS.out).out.mono ?_
    rintro e w1 ⟨rfl, hb1⟩
    have HB1 := Lib.hid (HR1.out.trans (hb1.mono HR1.out.size))
    have HS1 := Lib.hid (HS.out.below hb1 HS.out.lt)
    have c0 := (hb1.cell (p := ⟨w.heap.size, 0, none⟩) (block_lt_of_cell C0.out)).trans C0.out
    have c1 := (hb1.cell (p := ⟨w.heap.size, 1, none⟩) (block_lt_of_cell C1.out)).trans C1.out
    clear hb1
    go_wp2_with fail
    clear c0 c1
    refine (HD _ HS1.out).out.mono ?_
    rintro e w' ⟨rfl, rfl⟩
    go_wp2_with fail
    refine (KN _).out.mono ?_
    rintro e w3 ⟨rfl, hb3⟩
    have HB3 := Lib.hid (HB1.out.trans (hb3.mono HB1.out.size))
    clear hb3
    go_wp2
    go_ret
    exact ⟨rfl, HB3.out⟩
end Go.Proofs.Ytfkaghfbngicmaa
