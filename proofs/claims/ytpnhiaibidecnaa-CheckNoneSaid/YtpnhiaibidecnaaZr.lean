/- The walk of CheckNone. Conditions: the bytes lie in memory. -/
import Derived.Test.YtpnhiaibidecnaaZi
import Derived.Test.YtpnhiaibidecnaaZp
namespace Go.Proofs.Ytpnhiaibidecnaa
open Go.RowKit Go.Shelf

set_option maxRecDepth 100000 in
set_option maxHeartbeats 3200000 in
theorem noneLaw_walk (A : Option Addr) (N C : Nat) (w : World) :
    Calls Try.prog 10 #[.slice A N C] w fun e w' => e = .returned (.bool true) ∧ Below w.heap.size w w' := by
  have KN := fun w => Lib.hid (known10_any w)
  by_cases hl : 100 < N
  · go_enter Try.func10, Try.ntmps10
    go_wp2_with fail
    refine (KN _).out.mono ?_
    rintro e w' ⟨rfl, hb⟩
    go_wp2
    go_ret
    exact ⟨rfl, hb⟩
  · go_enter Try.func10, Try.ntmps10
    go_wp2
    have hz := SumAt.new w (0, 0) 0 0 56
    have hb2 := below_two w (.cells #[.int .i64 0, .int .i64 0, .int .i64 0, .int .i64 0] 56) (.cells #[.pointer none, .pointer (some ⟨w.heap.size, 0, none⟩)] 38)
    have hz2 := hz.below ((Below.refl _ (w.alloc (.cells #[.int .i64 0, .int .i64 0, .int .i64 0, .int .i64 0] 56))).alloc (Nat.le_refl _) (.cells #[.pointer none, .pointer (some ⟨w.heap.size, 0, none⟩)] 38)) (by simp)
    have q0 : ((w.alloc (.cells #[.int .i64 0, .int .i64 0, .int .i64 0, .int .i64 0] 56)).alloc (.cells #[.pointer none, .pointer (some ⟨w.heap.size, 0, none⟩)] 38)).cell? ⟨w.heap.size + 1, 0, none⟩ = some (.pointer none) := by simp
    have q1 : ((w.alloc (.cells #[.int .i64 0, .int .i64 0, .int .i64 0, .int .i64 0] 56)).alloc (.cells #[.pointer none, .pointer (some ⟨w.heap.size, 0, none⟩)] 38)).cell? ⟨w.heap.size + 1, 1, none⟩ = some (.pointer (some ⟨w.heap.size, 0, none⟩)) := by simp
    obtain ⟨w2, hw2⟩ : ∃ w2, (w.alloc (.cells #[.int .i64 0, .int .i64 0, .int .i64 0, .int .i64 0] 56)).alloc (.cells #[.pointer none, .pointer (some ⟨w.heap.size, 0, none⟩)] 38) = w2 := ⟨_, rfl⟩
    rw [hw2] at hb2 hz2 q0 q1 ⊢
    have HB2 := Lib.hid hb2
    have HP := Lib.hid (show NoSum w2 none from .inl rfl)
    have HQ := Lib.hid (show NoSum w2 (some ⟨w.heap.size, 0, none⟩) from .inr ⟨_, _, _, _, rfl, hz2, by decide⟩)
    clear hw2 hz hb2 hz2
    go_loop [17] (fun x17 => ∃ j : Nat, j ≤ 2 ∧ x17 = .int .i64 ((j : Nat) : Int)) (fun x17 => 2 - (intOf x17).toNat)
    case atStart => exact ⟨0, by omega, rfl⟩
    case round =>
      obtain ⟨j, hj, rfl⟩ := hrel
      obtain rfl | rfl | rfl : j = 0 ∨ j = 1 ∨ j = 2 := by omega
      · have K1 := Lib.hid (Sum_no none w2 HP.out)
        have K2 := Lib.hid (Write_no none (.slice A N C) w2 HP.out)
        have K3 := Lib.hid (Len_no none w2 HP.out)
        have K4 := Lib.hid (Copy_no none w2 HP.out)
        go_wp2_with (first | (go_at_call 21; refine K1.out.mono ?_; rintro e w' ⟨rfl, rfl⟩) | (go_at_call 20; refine K2.out.mono ?_; rintro e w' ⟨rfl, rfl⟩) | (go_at_call 22; refine K3.out.mono ?_; rintro e w' ⟨rfl, rfl⟩) | (go_at_call 19; refine K4.out.mono ?_; rintro e w' ⟨rfl, rfl⟩))
        go_round
        case rel => exact ⟨1, by omega, rfl⟩
        case measure => simp [intOf]
      · have K1 := Lib.hid (Sum_no _ w2 HQ.out)
        have K2 := Lib.hid (Write_no _ (.slice A N C) w2 HQ.out)
        have K3 := Lib.hid (Len_no _ w2 HQ.out)
        have K4 := Lib.hid (Copy_no _ w2 HQ.out)
        go_wp2_with (first | (go_at_call 21; refine K1.out.mono ?_; rintro e w' ⟨rfl, rfl⟩) | (go_at_call 20; refine K2.out.mono ?_; rintro e w' ⟨rfl, rfl⟩) | (go_at_call 22; refine K3.out.mono ?_; rintro e w' ⟨rfl, rfl⟩) | (go_at_call 19; refine K4.out.mono ?_; rintro e w' ⟨rfl, rfl⟩))
        go_round
        case rel => exact ⟨2, by omega, rfl⟩
        case measure => simp [intOf]
      · go_wp2_with fail
        refine (KN _).out.mono ?_
        rintro e w3 ⟨rfl, hb3⟩
        have HB3 := Lib.hid (HB2.out.trans (hb3.mono HB2.out.size))
        clear hb3
        go_wp2
        go_ret
        exact ⟨rfl, HB3.out⟩
end Go.Proofs.Ytpnhiaibidecnaa
