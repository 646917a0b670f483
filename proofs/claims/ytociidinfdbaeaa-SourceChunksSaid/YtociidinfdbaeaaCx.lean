/- The walk of SourceChunks where an argument is out of its bounds: the chapter's examples alone are checked. Conditions: the calls lie in memory. -/
import Derived.Test.YtociidinfdbaeaaCb
namespace Go.Proofs.Ytociidinfdbaeaa
open Go.RowKit Go.Shelf

set_option maxRecDepth 100000 in
set_option maxHeartbeats 3200000 in
theorem chunks_bad (limit : Int) (x : Value) (X : List ActD) (size many : Int) (w : World) (hx : ActsAt w x X) (lx : X.length ≤ 9223372036854775807) (h : ¬ (smallB X = true ∧ 1 ≤ limit ∧ limit ≤ 1000)) :
    Calls Try.prog 5 #[.int .i64 limit, x, .int .i64 size, .int .i64 many] w fun e w' => e = .returned (.bool true) ∧ Below w.heap.size w w' := by
  obtain ⟨w0, hw0⟩ : ∃ w0, ((w.alloc (.cells #[.int .i64 size] 3)).alloc (.cells #[.int .i64 many] 3)).alloc (.cells #[.bool false] 4) = w0 := ⟨_, rfl⟩
  have hb0 : Below w.heap.size w w0 := by
    rw [← hw0]
    exact (((Below.refl _ w).alloc (Nat.le_refl _) _).alloc (by simp) _).alloc (by simp; omega) _
  have hr0 : Boxed w0 (w.heap.size + 1 + 1) 4 (.bool false) := by
    rw [← hw0]
    have := Boxed.new ((w.alloc (.cells #[.int .i64 size] 3)).alloc (.cells #[.int .i64 many] 3)) 4 (.bool false)
    simpa using this
  have hf1 := acts_fit x X w0 (hx.below hb0) lx
  have F1 := Lib.hid hf1
  have HW0 := Lib.hid hw0
  have HB0 := Lib.hid hb0
  have HR0 := Lib.hid hr0
  clear hf1 hx lx hw0 hb0 hr0
  have hl : smallB X = false ∨ (smallB X = true ∧ limit < 1) ∨ (smallB X = true ∧ ¬ limit < 1 ∧ 1000 < limit) := by
    cases hs : smallB X
    · exact .inl rfl
    · by_cases h5 : limit < 1
      · exact .inr (.inl ⟨rfl, h5⟩)
      · exact .inr (.inr ⟨rfl, h5, by
          by_cases h6 : 1000 < limit
          · exact h6
          · exact absurd ⟨hs, by omega, by omega⟩ h⟩)
  clear h
  rcases hl with h1 | ⟨h1, h5⟩ | ⟨h1, h5, h6⟩
  · rw [h1] at F1
    clear h1
    go_enter Try.func5, Try.ntmps5
    go_wp2_with fail
    rw [HW0.out]
    go_wp2_with ((go_at_call 8; refine F1.out.mono ?_; rintro e w' ⟨rfl, rfl⟩))
    refine (known_any _).mono ?_
    rintro e w' ⟨rfl, hb⟩
    have hr' : Boxed w' (w.heap.size + 1 + 1) 4 (.bool false) := boxed_below HR0.out hb HR0.out.lt
    have HB := Lib.hid (HB0.out.trans (hb.mono HB0.out.size))
    have cr := hr'.cell
    have cf := hr'.frozen
    have HS := Lib.hid (Boxed.set (.bool true) hr').cell
    clear hb hr'
    go_wp2
    have hs := HS.out
    refine bodyPost_ret (by simp [results, Try.results5, go_sem, hs]; try rfl) rfl ?_
    exact ⟨rfl, HB.out.setCell (p := ⟨w.heap.size + 1 + 1, 0, none⟩) (by show w.heap.size ≤ w.heap.size + 1 + 1; omega) (.bool true)⟩
  · rw [h1] at F1
    clear h1
    go_enter Try.func5, Try.ntmps5
    go_wp2_with fail
    rw [HW0.out]
    go_wp2_with ((go_at_call 8; refine F1.out.mono ?_; rintro e w' ⟨rfl, rfl⟩))
    refine (known_any _).mono ?_
    rintro e w' ⟨rfl, hb⟩
    have hr' : Boxed w' (w.heap.size + 1 + 1) 4 (.bool false) := boxed_below HR0.out hb HR0.out.lt
    have HB := Lib.hid (HB0.out.trans (hb.mono HB0.out.size))
    have cr := hr'.cell
    have cf := hr'.frozen
    have HS := Lib.hid (Boxed.set (.bool true) hr').cell
    clear hb hr'
    go_wp2
    have hs := HS.out
    refine bodyPost_ret (by simp [results, Try.results5, go_sem, hs]; try rfl) rfl ?_
    exact ⟨rfl, HB.out.setCell (p := ⟨w.heap.size + 1 + 1, 0, none⟩) (by show w.heap.size ≤ w.heap.size + 1 + 1; omega) (.bool true)⟩
  · rw [h1] at F1
    clear h1
    go_enter Try.func5, Try.ntmps5
    go_wp2_with fail
    rw [HW0.out]
    go_wp2_with ((go_at_call 8; refine F1.out.mono ?_; rintro e w' ⟨rfl, rfl⟩))
    refine (known_any _).mono ?_
    rintro e w' ⟨rfl, hb⟩
    have hr' : Boxed w' (w.heap.size + 1 + 1) 4 (.bool false) := boxed_below HR0.out hb HR0.out.lt
    have HB := Lib.hid (HB0.out.trans (hb.mono HB0.out.size))
    have cr := hr'.cell
    have cf := hr'.frozen
    have HS := Lib.hid (Boxed.set (.bool true) hr').cell
    clear hb hr'
    go_wp2
    have hs := HS.out
    refine bodyPost_ret (by simp [results, Try.results5, go_sem, hs]; try rfl) rfl ?_
    exact ⟨rfl, HB.out.setCell (p := ⟨w.heap.size + 1 + 1, 0, none⟩) (by show w.heap.size ≤ w.heap.size + 1 + 1; omega) (.bool true)⟩
end Go.Proofs.Ytociidinfdbaeaa
