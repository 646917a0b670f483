/- The document's own answers on a writer: Little, Align, and whatever the call. Conditions: at most 8388608 bits; the call's kind is below 256. -/
import Derived.Test.YtboiiohpkoodpaaWd
import Derived.Test.YtboiiohpkoodpaaBd
namespace Go.Proofs.Ytboiiohpkoodpaa
open Go.RowKit Go.Shelf

set_option maxRecDepth 100000 in
set_option maxHeartbeats 800000 in
theorem refLittleW_two (A : Option Addr) (c : Nat) (l : List Bool) (base : Nat) (v n : Int) (w : World) (h : w.ownsRow base 4 1 (.slice A l.length c) l.length (bools l)) (hc : ¬ (withinB n 1 4 && fitsB v (8 * n)) = true) :
    Calls Try.prog 38 #[.slice A l.length c, .int .i64 v, .int .i64 n] w (RefWrote base l 2 w) := by
  have H := Lib.hid h
  clear h
  by_cases h1 : n < 1
  · clear hc
    go_enter Try.func38, Try.ntmps38
    go_wp2
    go_ret2
    exact ⟨A, c, rfl, H.out, Below.refl _ _⟩
  · by_cases h2 : 4 < n
    · clear hc
      go_enter Try.func38, Try.ntmps38
      go_wp2
      go_ret2
      exact ⟨A, c, rfl, H.out, Below.refl _ _⟩
    · have hf : fitsB v (8 * n) = false := by
        cases hx : fitsB v (8 * n)
        · rfl
        · exact absurd (by rw [hx]; simp [withinB]; omega) hc
      have hF := refFits v (8 * n) (by omega) (by omega) w
      rw [hf] at hF
      have HF := Lib.hid hF
      clear hc hf hF
      go_enter Try.func38, Try.ntmps38
      go_wp2_with fail
      refine HF.out.mono ?_
      rintro e w' ⟨rfl, rfl⟩
      go_wp2
      go_ret2
      exact ⟨A, c, rfl, H.out, Below.refl _ _⟩

set_option maxRecDepth 100000 in
set_option maxHeartbeats 1600000 in
theorem refLittleW_go (A : Option Addr) (c : Nat) (l : List Bool) (base a m : Nat) (w : World) (h : w.ownsRow base 4 1 (.slice A l.length c) l.length (bools l)) (hbase : base ≤ w.heap.size) (hl : l.length ≤ 8388608) (h1 : 1 ≤ m) (h2 : m ≤ 4) (ha : a < 4294967296) (hf : fitsB (a : Int) (8 * (m : Int)) = true) :
    Calls Try.prog 38 #[.slice A l.length c, .int .i64 a, .int .i64 m] w (RefWrote base (if bytesCode l.length m = 0 then l ++ unpack (leBytes a m) else l) (bytesCode l.length m) w) := by
  obtain ⟨i0, hi, hz0, hz1, hz2⟩ := info_parts Try.info5
  have hF := refFits a (8 * (m : Int)) (by omega) (by omega) w
  rw [hf] at hF
  have HF := Lib.hid hF
  have HI := Lib.hid hi
  have H := Lib.hid h
  obtain ⟨l', hl'⟩ : ∃ l', (if bytesCode l.length m = 0 then l ++ unpack (leBytes a m) else l) = l' := ⟨_, rfl⟩
  obtain ⟨C, hC⟩ : ∃ C, bytesCode l.length m = C := ⟨_, rfl⟩
  rw [hl', hC]
  have HL' := Lib.hid hl'
  have HC := Lib.hid hC
  clear h hF hf hi hl' hC
  go_enter Try.func38, Try.ntmps38
  go_wp2_with fail
  refine HF.out.mono ?_
  rintro e w' ⟨rfl, rfl⟩
  clear HF
  go_wp2_with fail
  go_loopw [8, 9] (fun o i wr => ∃ j : Nat, j ≤ m ∧ i = .int .i64 j ∧ wr.ownsRow w.heap.size 5 1 o j (u8s (leBytes a j)) ∧ Below w.heap.size w wr) (fun _ i _ => m - (intOf i).toNat)
  case atStart => exact ⟨0, Nat.zero_le _, rfl, ⟨by simp [u8s, leBytes], .inl ⟨rfl, rfl⟩⟩, Below.refl _ _⟩
  case round =>
    obtain ⟨j, hj, rfl, hrow, hb⟩ := hrel
    have HR := Lib.hid hrow
    have HB := Lib.hid hb
    clear hrow hb
    by_cases hlt : j < m
    · obtain ⟨X, hX⟩ : ∃ X, a / 2 ^ (8 * j) = X := ⟨_, rfl⟩
      have hXl : X < 4294967296 := by rw [← hX]; exact Nat.lt_of_le_of_lt (Nat.div_le_self _ _) ha
      have hs := leBytes_succ a j
      rw [hX] at hs
      have hsh : ((a : Int) / 2 ^ (8 * j)) = (X : Int) := by rw [← hX]; simp
      have q1 : IntKind.i64.wrap (8 * (j : Int)) = 8 * (j : Int) := IntWalk.i64_in _ (by omega)
      have q2 : (8 * (j : Int)).toNat = 8 * j := by omega
      have q3 : (0 : Int) ≤ 8 * (j : Int) := by omega
      have hx : IntKind.u8.wrap ((X : Int) % 256) = ((X % 256 : Nat) : Int) := by
        rw [IntKind.wrap_u8']; simp
      have HSC := Lib.hid hs
      clear hs hX
      have HX := Lib.hid hx
      clear hx
      go_wp2_with (at_builtin; go_must (refine wpList_append_own_at _ rfl _ _ 28 rfl w.heap.size 5 i0 (.int .u8 0) 1 1 Try.underlying28 HI.out hz0 hz1 hz2 rfl (by decide) _ _ _ rfl (HR.out.alloc _) ⟨wr.heap.size, 0, none⟩ 1 1 [.int .u8 ((X : Int) % 256)] rfl rfl (cell_one_new _ _ _) (by simp [Value.oneCell']) (by unfold maxLen; omega) (by omega) (by have := HB.out.size; simp; omega) ?_); go_must (intro v1 w1 hown1 hgrow1 _ _); have hb1 := (HB.out.alloc HB.out.size (.cells #[.int .u8 ((X : Int) % 256)] 5)).grown hgrow1 (by have := HB.out.size; simp; omega) (fun k e => row_ge HR.out k e); have HB1 := Lib.hid hb1; have HO := Lib.hid hown1; clear hb1 hown1 hgrow1)
      go_roundw
      case rel =>
        refine ⟨j + 1, by omega, by go_num, ?_, HB1.out⟩
        rw [HSC.out, u8s_append, show u8s [X % 256] = [.int .u8 ((X : Int) % 256)] by simp [u8s]]
        exact HO.out
      case measure => simp [intOf]; omega
    · obtain rfl : j = m := by omega
      obtain ⟨AB, cB, rfl⟩ := row_form HR.out
      have hrl := Rest.row (S := fun _ => False) (Rest.below HB.out) H.out (fun _ _ e => e)
      have hadd := refAdd A c l base AB cB (leBytes a j) wr hrl (Nat.le_trans hbase HB.out.size) hl (.inl (by rw [leBytes_length]; exact SrcAt.of_row HR.out)) (leBytes_lt a j) (by rw [leBytes_length]; omega)
      rw [leBytes_length] at hadd
      rw [HL'.out, HC.out] at hadd
      have HA := Lib.hid hadd
      clear hadd hrl
      go_wp2_with fail
      refine HA.out.mono ?_
      rintro e w2 ⟨A2, c2, rfl, hr2, hb2⟩
      have HR2 := Lib.hid hr2
      have HB2 := Lib.hid (HB.out.trans (hb2.mono HB.out.size))
      clear hr2 hb2
      go_wp2
      go_ret2
      exact ⟨A2, c2, rfl, HR2.out, HB2.out⟩
end Go.Proofs.Ytboiiohpkoodpaa
