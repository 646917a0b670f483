/- What bytes begin with: begin. Conditions: the bytes lie in memory. -/
import Derived.Test.YtfkaghfbngicmaaQc
namespace Go.Proofs.Ytfkaghfbngicmaa
open Go.RowKit Go.Shelf

theorem pre_src {w : World} {A : Option Addr} {n c : Nat} {B : List Nat} (h : SrcAt w (.slice A n c) B) (m c' : Nat) (hm : m ≤ n) (hc' : A = none → c' = 0) : SrcAt w (.slice A m c') (B.take m) := by
  rcases h with ⟨e, rfl⟩ | ⟨a, c1, e, ha, hc⟩
  · simp only [Value.slice.injEq] at e
    obtain ⟨rfl, rfl, rfl⟩ := e
    obtain rfl : m = 0 := by omega
    exact .inl ⟨by rw [hc' rfl], by simp⟩
  · simp only [Value.slice.injEq] at e
    obtain ⟨rfl, rfl, rfl⟩ := e
    have hl : (B.take m).length = m := by rw [List.length_take]; omega
    refine .inr ⟨a, c', by rw [hl], ha, fun j u hu => ?_⟩
    have hj := (List.getElem?_eq_some_iff.1 hu).1
    rw [u8s_length, hl] at hj
    refine hc j u ?_
    rw [← hu]
    simp [u8s, hj]

/-- What begin hands back. -/
def BegOf (B : List Nat) (w : World) (e : Ending) (w' : World) : Prop :=
  ∃ A, e = .returned (.agg #[.slice A (begL B).length (begL B).length, .bool (begW B)]) ∧ SrcAt w' (.slice A (begL B).length (begL B).length) (begL B) ∧ (A = none → B = []) ∧ Below w.heap.size w w'

theorem src_none {w : World} {n c : Nat} {B : List Nat} (h : SrcAt w (.slice none n c) B) : B = [] ∧ n = 0 ∧ c = 0 := by
  rcases h with ⟨e, rfl⟩ | ⟨a, c1, e, ha, hc⟩
  · simp only [Value.slice.injEq] at e
    exact ⟨rfl, e.2⟩
  · simp at e

theorem beg_end {A : Option Addr} {N C m T : Nat} {B : List Nat} {w : World} (b : Bool) (hs : SrcAt w (.slice A N C) B) (hN : N = B.length) (hm : m ≤ N) (hL : begL B = B.take m) (hW : begW B = b) :
    BegOf B w (.returned (.agg #[.slice A m m, .bool b])) (w.alloc (.cells #[.slice A m m, .bool b] T)) := by
  have hal : Below w.heap.size w (w.alloc (.cells #[.slice A m m, .bool b] T)) := (Below.refl _ _).alloc (Nat.le_refl _) _
  have hl : (begL B).length = m := by rw [hL, List.length_take]; omega
  refine ⟨A, by rw [hl, hW], ?_, fun e => by subst e; exact (src_none hs).1, hal⟩
  rw [hl, hL]
  exact (pre_src hs m m hm (fun e => by subst e; have := src_none hs; omega)).below hal ((pre_src hs m m hm (fun e => by subst e; have := src_none hs; omega)).lt)

set_option maxRecDepth 100000 in
set_option maxHeartbeats 1600000 in
theorem begin_n (A : Option Addr) (N C n : Nat) (B : List Nat) (w : World) (hs : SrcAt w (.slice A N C) B) (hN : N = B.length) (hC : N ≤ C) (hC2 : C ≤ 9223372036854775807) (hn : n = min N 5) :
    Calls Try.prog 28 #[.slice A N C] w (BegOf B w) := by
  have hnN : n ≤ N ∧ n ≤ 5 := by omega
  have hal : Below w.heap.size w (w.alloc (.cells #[.slice none 0 0, .bool false] 57)) := (Below.refl _ _).alloc (Nat.le_refl _) _
  have hs2 := hs.below hal hs.lt
  have hpre := pre_src hs2 n n hnN.1 (fun e => by subst e; have := src_none hs; omega)
  have htk : B.take n = B.take 5 := by
    rcases Nat.le_total B.length 5 with h | h
    · rw [List.take_of_length_le (by omega), List.take_of_length_le h]
    · rw [show n = 5 by omega]
  have HTK := Lib.hid htk
  rw [htk] at hpre
  have hln : n = (B.take 5).length := by rw [List.length_take]; omega
  have HX := fun w hw => Lib.hid (idx_any A n n (B.take 5) w hw hln (by omega))
  have hle := lowI_le (B.take 5)
  rw [← hln] at hle
  have hbl : begL B = if lowI (B.take 5) < n then B.take (lowI (B.take 5) + 1) else B.take 5 := by unfold begL; rw [← hln]
  have hbw : begW B = decide (lowI (B.take 5) < n) := by unfold begW; rw [← hln]
  have hlc : lowC (B.take 5) = if lowI (B.take 5) < n then ((lowI (B.take 5) : Nat) : Int) else -1 := by unfold lowC; rw [← hln]
  obtain ⟨k, hk⟩ : ∃ k, lowI (B.take 5) = k := ⟨_, rfl⟩
  rw [hk] at hle hbl hbw hlc
  have HP := Lib.hid hpre
  by_cases hlt : k < n
  · rw [if_pos hlt] at hlc
    simp only [hlc] at HX
    have hbl2 : begL B = B.take (k + 1) := by rw [hbl, if_pos hlt]
    have hbw2 : begW B = true := by rw [hbw]; simpa using hlt
    have HE := fun T => Lib.hid (beg_end (T := T) true hs hN (show k + 1 ≤ N by omega) hbl2 hbw2)
    have hki : ((k : Nat) : Int) < ((n : Nat) : Int) := by omega
    clear hk hbl hbw hpre hs2 hs htk hln hN hal hbl2 hbw2 hlc
    by_cases h5 : N ≤ 5
    · obtain rfl : n = N := by omega
      clear hn hlt hle hnN
      go_enter Try.func28, Try.ntmps28
      go_wp2_with fail
      refine (HX _ HP.out).out.mono ?_
      rintro e w' ⟨rfl, rfl⟩
      go_wp2
      exact bodyPost_ret (v := .agg #[.slice A (k + 1) (k + 1), .bool true]) (by simp [results, Try.results28, go_sem]) rfl (HE _).out
    · obtain rfl : n = 5 := by omega
      have h5' : 5 < N := by omega
      clear hn hlt hle hnN
      go_enter Try.func28, Try.ntmps28
      go_wp2_with fail
      refine (HX _ HP.out).out.mono ?_
      rintro e w' ⟨rfl, rfl⟩
      go_wp2
      exact bodyPost_ret (v := .agg #[.slice A (k + 1) (k + 1), .bool true]) (by simp [results, Try.results28, go_sem]) rfl (HE _).out
  · rw [if_neg hlt] at hlc
    simp only [hlc] at HX
    have hbl2 : begL B = B.take n := by rw [hbl, if_neg hlt, HTK.out]
    have hbw2 : begW B = false := by rw [hbw]; simpa using hlt
    have HE := fun T => Lib.hid (beg_end (T := T) false hs hN hnN.1 hbl2 hbw2)
    clear hk hbl hbw hpre hs2 hs htk hln hN hal hbl2 hbw2 hlc
    by_cases h5 : N ≤ 5
    · obtain rfl : n = N := by omega
      clear hn hlt hle hnN
      go_enter Try.func28, Try.ntmps28
      go_wp2_with fail
      refine (HX _ HP.out).out.mono ?_
      rintro e w' ⟨rfl, rfl⟩
      go_wp2
      exact bodyPost_ret (v := .agg #[.slice A n n, .bool false]) (by simp [results, Try.results28, go_sem]) rfl (HE _).out
    · obtain rfl : n = 5 := by omega
      have h5' : 5 < N := by omega
      clear hn hlt hle hnN
      go_enter Try.func28, Try.ntmps28
      go_wp2_with fail
      refine (HX _ HP.out).out.mono ?_
      rintro e w' ⟨rfl, rfl⟩
      go_wp2
      exact bodyPost_ret (v := .agg #[.slice A 5 5, .bool false]) (by simp [results, Try.results28, go_sem]) rfl (HE _).out

theorem begin_any (A : Option Addr) (N C : Nat) (B : List Nat) (w : World) (hs : SrcAt w (.slice A N C) B) (hN : N = B.length) (hC : N ≤ C) (hC2 : C ≤ 9223372036854775807) :
    Calls Try.prog 28 #[.slice A N C] w (BegOf B w) := begin_n A N C _ B w hs hN hC hC2 rfl
end Go.Proofs.Ytfkaghfbngicmaa
