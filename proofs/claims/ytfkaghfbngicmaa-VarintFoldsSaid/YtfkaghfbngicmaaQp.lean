/- The walk of VarintFolds. No conditions. -/
import Derived.Test.YtfkaghfbngicmaaQo
namespace Go.Proofs.Ytfkaghfbngicmaa
open Go.RowKit Go.Shelf

theorem foldC_inv {v : Int} (h : (foldC v).2 = 0) : unfoldC (foldC v).1 = (v, 0) := by
  unfold foldC at h ⊢
  split at h
  · simp at h
  · rename_i h1
    rw [if_neg h1]
    by_cases h2 : v < 0
    · rw [if_pos h2]
      unfold unfoldC
      rw [if_neg (by rw [Bool.not_eq_false, okV_iff]; dsimp only; omega), if_pos (by dsimp only; omega)]
      dsimp only
      congr 1
      omega
    · rw [if_neg h2]
      unfold unfoldC
      rw [if_neg (by rw [Bool.not_eq_false, okV_iff]; dsimp only; omega), if_neg (by dsimp only; omega)]
      dsimp only
      congr 1
      omega
theorem unfoldC_inv {v : Int} (h : (unfoldC v).2 = 0) : foldC (unfoldC v).1 = (v, 0) := by
  unfold unfoldC at h ⊢
  cases hk : okV v with
  | false => rw [hk] at h; simp at h
  | true =>
    have h1 := (okV_iff v).1 hk
    rw [if_neg (by simp)]
    by_cases h2 : v % 2 = 1
    · rw [if_pos h2]
      dsimp only
      rw [foldC_b (by omega) (by omega)]
      congr 1
      omega
    · rw [if_neg h2]
      dsimp only
      rw [foldC_c (by omega) (by omega)]
      congr 1
      omega
theorem foldC_code (v : Int) : (foldC v).2 = 0 ∨ (foldC v).2 = 3 := by unfold foldC; split; exact .inr rfl; split <;> exact .inl rfl
theorem unfoldC_code (v : Int) : (unfoldC v).2 = 0 ∨ (unfoldC v).2 = 3 := by unfold unfoldC; split; exact .inr rfl; split <;> exact .inl rfl

set_option maxRecDepth 100000 in
set_option maxHeartbeats 3200000 in
theorem foldsLaw_walk (v : Int) (w : World) : Calls Try.prog 7 #[.int .i64 v] w fun e w' => e = .returned (.bool true) ∧ Below w.heap.size w w' := by
  have F1 := fun w => Lib.hid (fold_any v w)
  have F2 := fun w => Lib.hid (rfold_any v w)
  have U1 := fun w => Lib.hid (unfold_any v w)
  have U2 := fun w => Lib.hid (runfold_any v w)
  have F3 := fun w => Lib.hid (fold_any (unfoldC v).1 w)
  have U3 := fun w => Lib.hid (unfold_any (foldC v).1 w)
  have KN := fun w => Lib.hid (known9_any w)
  rcases foldC_code v with h1 | h1 <;> rcases unfoldC_code v with h2 | h2
  · rw [foldC_inv h1] at U3
    rw [unfoldC_inv h2] at F3
    simp only [h1] at F1 F2
    simp only [h2] at U1 U2
    obtain ⟨x, hx⟩ : ∃ x, (foldC v).1 = x := ⟨_, rfl⟩
    obtain ⟨y, hy⟩ : ∃ y, (unfoldC v).1 = y := ⟨_, rfl⟩
    rw [hx] at F1 F2 U3
    rw [hy] at U1 U2 F3
    clear hx hy h1 h2
    go_enter Try.func7, Try.ntmps7
    go_wp2_with (first | (go_at_call 20; go_must (first | ((with_reducible refine (F1 _).out.mono ?_); rintro e w' ⟨rfl, rfl⟩) | ((with_reducible refine (F3 _).out.mono ?_); rintro e w' ⟨rfl, rfl⟩))) | (go_at_call 21; refine (F2 _).out.mono ?_; rintro e w' ⟨rfl, rfl⟩) | (go_at_call 22; go_must (first | ((with_reducible refine (U1 _).out.mono ?_); rintro e w' ⟨rfl, rfl⟩) | ((with_reducible refine (U3 _).out.mono ?_); rintro e w' ⟨rfl, rfl⟩))) | (go_at_call 23; refine (U2 _).out.mono ?_; rintro e w' ⟨rfl, rfl⟩))
    refine (KN _).out.mono ?_
    rintro e w' ⟨rfl, hb⟩
    go_wp2
    go_ret
    exact ⟨rfl, hb⟩
  · rw [foldC_inv h1] at U3
    simp only [h1] at F1 F2
    simp only [h2] at U1 U2
    obtain ⟨x, hx⟩ : ∃ x, (foldC v).1 = x := ⟨_, rfl⟩
    obtain ⟨y, hy⟩ : ∃ y, (unfoldC v).1 = y := ⟨_, rfl⟩
    rw [hx] at F1 F2 U3
    rw [hy] at U1 U2
    clear hx hy h1 h2 F3
    go_enter Try.func7, Try.ntmps7
    go_wp2_with (first | (go_at_call 20; refine (F1 _).out.mono ?_; rintro e w' ⟨rfl, rfl⟩) | (go_at_call 21; refine (F2 _).out.mono ?_; rintro e w' ⟨rfl, rfl⟩) | (go_at_call 22; go_must (first | ((with_reducible refine (U1 _).out.mono ?_); rintro e w' ⟨rfl, rfl⟩) | ((with_reducible refine (U3 _).out.mono ?_); rintro e w' ⟨rfl, rfl⟩))) | (go_at_call 23; refine (U2 _).out.mono ?_; rintro e w' ⟨rfl, rfl⟩))
    refine (KN _).out.mono ?_
    rintro e w' ⟨rfl, hb⟩
    go_wp2
    go_ret
    exact ⟨rfl, hb⟩
  · rw [unfoldC_inv h2] at F3
    simp only [h1] at F1 F2
    simp only [h2] at U1 U2
    obtain ⟨x, hx⟩ : ∃ x, (foldC v).1 = x := ⟨_, rfl⟩
    obtain ⟨y, hy⟩ : ∃ y, (unfoldC v).1 = y := ⟨_, rfl⟩
    rw [hx] at F1 F2
    rw [hy] at U1 U2 F3
    clear hx hy h1 h2 U3
    go_enter Try.func7, Try.ntmps7
    go_wp2_with (first | (go_at_call 20; go_must (first | ((with_reducible refine (F1 _).out.mono ?_); rintro e w' ⟨rfl, rfl⟩) | ((with_reducible refine (F3 _).out.mono ?_); rintro e w' ⟨rfl, rfl⟩))) | (go_at_call 21; refine (F2 _).out.mono ?_; rintro e w' ⟨rfl, rfl⟩) | (go_at_call 22; refine (U1 _).out.mono ?_; rintro e w' ⟨rfl, rfl⟩) | (go_at_call 23; refine (U2 _).out.mono ?_; rintro e w' ⟨rfl, rfl⟩))
    refine (KN _).out.mono ?_
    rintro e w' ⟨rfl, hb⟩
    go_wp2
    go_ret
    exact ⟨rfl, hb⟩
  · simp only [h1] at F1 F2
    simp only [h2] at U1 U2
    obtain ⟨x, hx⟩ : ∃ x, (foldC v).1 = x := ⟨_, rfl⟩
    obtain ⟨y, hy⟩ : ∃ y, (unfoldC v).1 = y := ⟨_, rfl⟩
    rw [hx] at F1 F2
    rw [hy] at U1 U2
    clear hx hy h1 h2 F3 U3
    go_enter Try.func7, Try.ntmps7
    go_wp2_with (first | (go_at_call 20; refine (F1 _).out.mono ?_; rintro e w' ⟨rfl, rfl⟩) | (go_at_call 21; refine (F2 _).out.mono ?_; rintro e w' ⟨rfl, rfl⟩) | (go_at_call 22; refine (U1 _).out.mono ?_; rintro e w' ⟨rfl, rfl⟩) | (go_at_call 23; refine (U2 _).out.mono ?_; rintro e w' ⟨rfl, rfl⟩))
    refine (KN _).out.mono ?_
    rintro e w' ⟨rfl, hb⟩
    go_wp2
    go_ret
    exact ⟨rfl, hb⟩
end Go.Proofs.Ytfkaghfbngicmaa
