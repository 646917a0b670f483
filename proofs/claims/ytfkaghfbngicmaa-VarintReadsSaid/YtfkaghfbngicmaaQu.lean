/- The walk of VarintReads. Conditions: the bytes lie in memory. -/
import Derived.Test.YtfkaghfbngicmaaQt
import Derived.Test.YtfkaghfbngicmaaQo
namespace Go.Proofs.Ytfkaghfbngicmaa
open Go.RowKit Go.Shelf

set_option maxRecDepth 100000 in
set_option maxHeartbeats 3200000 in
theorem readsLaw_walk (A : Option Addr) (N C : Nat) (loose : Bool) (B : List Nat) (w : World) (hs : SrcAt w (.slice A N C) B) (hN : N = B.length) (hC : N ≤ C) (hC2 : C ≤ 9223372036854775807) (h256 : ∀ x ∈ B, x < 256) :
    Calls Try.prog 4 #[.slice A N C, .bool loose] w fun e w' => e = .returned (.bool true) ∧ Below w.heap.size w w' := by
  have KN := fun w => Lib.hid (known9_any w)
  by_cases hl : 20 < N
  · clear hs hN h256
    go_enter Try.func4, Try.ntmps4
    go_wp2_with fail
    refine (KN _).out.mono ?_
    rintro e w' ⟨rfl, hb⟩
    go_wp2
    go_ret
    exact ⟨rfl, hb⟩
  · have HR := Lib.hid (read_any A N C loose B w hs hN hC hC2 h256)
    have HS := Lib.hid hs
    have HD := fun w hs => Lib.hid (rread_any A N C loose B w hs hN (by omega) h256)
    unfold ReadOf at HR
    obtain ⟨⟨r1, r2, r3⟩, hr⟩ : ∃ r, readC B loose = r := ⟨_, rfl⟩
    rw [hr] at HR
    simp only [hr] at HD
    clear hs hN h256 hr
    go_enter Try.func4, Try.ntmps4
    go_wp2_with fail
    refine HR.out.mono ?_
    rintro e w1 ⟨rfl, hb1⟩
    have HB1 := Lib.hid hb1
    clear hb1
    go_wp2_with fail
    refine (HD _ (HS.out.below HB1.out HS.out.lt)).out.mono ?_
    rintro e w' ⟨rfl, rfl⟩
    go_wp2_with fail
    refine (KN _).out.mono ?_
    rintro e w3 ⟨rfl, hb3⟩
    have HB3 := Lib.hid (HB1.out.trans (hb3.mono HB1.out.size))
    clear hb3
    go_wp2
    go_ret
    exact ⟨rfl, HB3.out⟩
end Go.Proofs.Ytfkaghfbngicmaa
