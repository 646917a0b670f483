/- The walk of SourcePlays: it returns true and changes nothing that was there. Conditions: the calls lie in memory. -/
import Derived.Test.YtociidinfdbaeaaRr
namespace Go.Proofs.Ytociidinfdbaeaa
open Go.RowKit Go.Shelf

/-- A new source, and the document's. -/
def St.new : St := ⟨[], 0, false⟩
theorem St.new_ok : St.new.Ok 0 := ⟨Nat.le_refl _, Nat.le_refl _, fun y hy => by simp [St.new] at hy⟩

theorem SStep.of_mid {w w1 w2 : World} {p : Nat} {v v' : Value} {B : List Nat} {L T : Nat} {C : Bool} (h : Mid w w1 p v B L T C) (k : SStep p v v' w1 w2) : Below w.heap.size w w2 :=
  h.below.trans (k.rest.toBelow w.heap.size h.below.size (fun i hi hm => by
    rcases hm with e | e
    · have := h.new; omega
    · have := h.own i e; omega))

theorem run_new (w wx : World) (p L : Nat) (x : Value) (Lst : List ActD) (hM : Mid w wx p (.slice none 0 0) [] L 0 false) (hx : ActsAt w x Lst) (hsm : smallB Lst = true) (hlen : Lst.length ≤ 60) :
    Calls Try.prog 12 #[.pointer (some ⟨p, 0, none⟩), .agg #[.int .i64 L, .slice none 0 0, .int .i64 0, .bool false], x] wx (Ran p L (.slice none 0 0) (St.new.run L Lst) none 0 0 wx) :=
  run_any w wx p L (.slice none 0 0) none 0 0 St.new x Lst hM (.inl ⟨rfl, rfl⟩) (Nat.le_refl _) (fun k hk => by simp [Value.ownBlock] at hk) St.new_ok (by omega) hx hsm

set_option maxRecDepth 100000 in
set_option maxHeartbeats 3200000 in
theorem plays_walk (limit : Int) (x : Value) (Lst : List ActD) (w : World) (hx : ActsAt w x Lst) (hl : Lst.length ≤ 9223372036854775807) :
    Calls Try.prog 3 #[.int .i64 limit, x] w fun e w' => e = .returned (.bool true) ∧ Below w.heap.size w w' := by
  have HFIT := Lib.hid (acts_fit x Lst w hx hl)
  have HX := Lib.hid hx
  clear hx hl
  cases hsm : smallB Lst
  · rw [hsm] at HFIT
    go_enter Try.func3, Try.ntmps3
    go_wp2_with fail
    refine HFIT.out.mono ?_
    rintro e w' ⟨rfl, rfl⟩
    go_wp2_with fail
    refine (known_any _).mono ?_
    rintro e w' ⟨rfl, hb⟩
    go_wp2
    go_ret
    exact ⟨rfl, hb⟩
  · rw [hsm] at HFIT
    have HSM := Lib.hid hsm
    by_cases hL : 1 ≤ limit ∧ limit ≤ 1048576
    · obtain ⟨L, rfl⟩ := Int.eq_ofNat_of_zero_le (show 0 ≤ limit by omega)
      have HNEW := fun wx => Lib.hid (new_ok (L : Int) wx hL.1 hL.2)
      have HREF := fun wx => Lib.hid (refNew_any (L : Int) wx)
      simp only [if_pos hL] at HREF
      have hLe : L ≤ 1048576 := by omega
      have hlen : Lst.length ≤ 60 := by
        unfold smallB at hsm
        rw [Bool.and_eq_true, decide_eq_true_eq] at hsm
        exact hsm.2
      clear hsm hL
      go_enter Try.func3, Try.ntmps3
      go_wp2_with fail
      refine HFIT.out.mono ?_
      rintro e w' ⟨rfl, rfl⟩
      go_wp2_with fail
      refine ((HNEW _).out).mono ?_
      rintro e w1 ⟨rfl, hS, hb⟩
      obtain ⟨p, hp⟩ : ∃ p, w.heap.size = p := ⟨_, rfl⟩
      have hM : Mid w w1 p (.slice none 0 0) [] L 0 false := ⟨by rw [← hp]; exact hS, hb, by omega, fun k hk => by simp [Value.ownBlock] at hk⟩
      rw [hp]
      have M1 := Lib.hid hM
      clear hS hb hM hp HNEW
      go_wp2_with fail
      refine ((HREF _).out).mono ?_
      rintro e w2 ⟨rfl, hb2⟩
      have M2 := Lib.hid (M1.out.later hb2)
      clear hb2 HREF
      go_wp2_with fail
      have M3 := Lib.hid (M2.out.alloc (.cells #[.int .i64 L, .slice none 0 0, .int .i64 0, .bool false] 31))
      refine (run_new w _ p L x Lst M3.out HX.out HSM.out hlen).mono ?_
      rintro e w3 ⟨A', c', v', rfl, hs, hst, hsrc, hle, hown, hap⟩
      have HB3 := Lib.hid (SStep.of_mid M3.out hst)
      clear hs hst hsrc hle hown hap
      go_wp2_with fail
      refine (known_any _).mono ?_
      rintro e w' ⟨rfl, hb⟩
      have HB := Lib.hid hb
      clear hb
      go_wp2
      go_ret
      exact ⟨rfl, (HB3.out.alloc HB3.out.size _).trans (HB.out.mono (by simp; have := HB3.out.size; omega))⟩
    · have HNEW := fun wx => Lib.hid (new_no limit wx hL)
      have HREF := fun wx => Lib.hid (refNew_any limit wx)
      simp only [if_neg hL] at HREF
      clear hsm hL
      go_enter Try.func3, Try.ntmps3
      go_wp2_with fail
      refine HFIT.out.mono ?_
      rintro e w' ⟨rfl, rfl⟩
      go_wp2_with fail
      refine ((HNEW _).out).mono ?_
      rintro e w1 ⟨rfl, rfl⟩
      go_wp2_with fail
      refine ((HREF _).out).mono ?_
      rintro e w2 ⟨rfl, hb2⟩
      have HB2 := Lib.hid hb2
      clear hb2
      go_wp2_with fail
      refine (known_any _).mono ?_
      rintro e w' ⟨rfl, hb⟩
      have HB := Lib.hid hb
      clear hb
      go_wp2
      go_ret
      exact ⟨rfl, (HB2.out.alloc HB2.out.size _).trans (HB.out.mono (by simp; have := HB2.out.size; omega))⟩
end Go.Proofs.Ytociidinfdbaeaa
