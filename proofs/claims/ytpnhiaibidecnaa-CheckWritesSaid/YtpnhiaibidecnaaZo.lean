/- Joining: the program's and the document's own. No conditions but that the length is an int. -/
import Derived.Test.YtpnhiaibidecnaaZh
namespace Go.Proofs.Ytpnhiaibidecnaa
open Go.RowKit Go.Shelf

def joinB (f s l : Int) : Bool := decide (0 ≤ f ∧ f < 4294967296 ∧ 0 ≤ s ∧ s < 4294967296 ∧ 0 ≤ l)
/-- What Join answers. -/
def joinC (f s l : Int) : Int × Int := if joinB f s l = true then ((f / 65536 + s / 65536 + l % 65521 * (f % 65536 - 1)) % 65521 * 65536 + (f % 65536 + s % 65536 - 1) % 65521, 0) else (0, 2)
theorem joinC_no {f s l : Int} (h : joinB f s l = false) : joinC f s l = (0, 2) := by unfold joinC; rw [h]; rfl
theorem joinC_ok {f s l : Int} (h : joinB f s l = true) : joinC f s l = ((f / 65536 + s / 65536 + l % 65521 * (f % 65536 - 1)) % 65521 * 65536 + (f % 65536 + s % 65536 - 1) % 65521, 0) := by unfold joinC; rw [if_pos h]
theorem fit3 (v : Int) : fitB 3 v = decide (0 ≤ v ∧ v < 4294967296) := rfl

set_option maxRecDepth 100000 in
set_option maxHeartbeats 3200000 in
theorem join_bad (f s l : Int) (h : joinB f s l = false) (w : World) : Calls Try.prog 23 #[.int .i64 f, .int .i64 s, .int .i64 l] w fun e w' => e = .returned (.tuple #[.int .i64 0, .int .i64 2]) ∧ Below w.heap.size w w' := by
  have HF := fun v w => Lib.hid (fits_any 3 (by omega) v w)
  rw [show ((3 : Nat) : Int) = 3 from rfl] at HF
  have H1 := fun w => HF f w
  have H2 := fun w => HF s w
  have h := of_decide_eq_false h
  by_cases h1 : 0 ≤ f ∧ f < 4294967296
  · simp only [fit3 f, decide_eq_true h1] at H1
    by_cases h2 : 0 ≤ s ∧ s < 4294967296
    · simp only [fit3 s, decide_eq_true h2] at H2
      have hl : l < 0 := by omega
      clear h h1 h2 HF
      go_enter Try.func23, Try.ntmps23
      go_wp2_with fail
      refine (H1 _).out.mono ?_
      rintro e w1 ⟨rfl, hb1⟩
      have HB1 := Lib.hid hb1
      clear hb1
      go_wp2_with fail
      refine (H2 _).out.mono ?_
      rintro e w2 ⟨rfl, hb2⟩
      have HB2 := Lib.hid (HB1.out.trans (hb2.mono HB1.out.size))
      clear hb2
      go_wp2
      go_ret2
      exact ⟨rfl, HB2.out⟩
    · simp only [fit3 s, decide_eq_false h2] at H2
      clear h h1 h2 HF
      go_enter Try.func23, Try.ntmps23
      go_wp2_with fail
      refine (H1 _).out.mono ?_
      rintro e w1 ⟨rfl, hb1⟩
      have HB1 := Lib.hid hb1
      clear hb1
      go_wp2_with fail
      refine (H2 _).out.mono ?_
      rintro e w2 ⟨rfl, hb2⟩
      have HB2 := Lib.hid (HB1.out.trans (hb2.mono HB1.out.size))
      clear hb2
      go_wp2
      go_ret2
      exact ⟨rfl, HB2.out⟩
  · simp only [fit3 f, decide_eq_false h1] at H1
    clear h h1 HF H2
    go_enter Try.func23, Try.ntmps23
    go_wp2_with fail
    refine (H1 _).out.mono ?_
    rintro e w1 ⟨rfl, hb1⟩
    have HB1 := Lib.hid hb1
    clear hb1
    go_wp2
    go_ret2
    exact ⟨rfl, HB1.out⟩

theorem prod_in {L a : Int} (h0 : 0 ≤ a) (h1 : a ≤ 65535) : -65521 ≤ L % 65521 * (a - 1) ∧ L % 65521 * (a - 1) ≤ 4294967296 := by
  have hl0 : 0 ≤ L % 65521 := Int.emod_nonneg _ (by decide)
  have hl1 : L % 65521 < 65521 := Int.emod_lt_of_pos _ (by decide)
  have k1 : L % 65521 * (a - 1) = L % 65521 * a - L % 65521 := by rw [Int.mul_sub, Int.mul_one]
  have k2 : 0 ≤ L % 65521 * a := Int.mul_nonneg hl0 h0
  have k3 : L % 65521 * a ≤ L % 65521 * 65535 := Int.mul_le_mul_of_nonneg_left h1 hl0
  rw [k1]
  omega

set_option maxRecDepth 100000 in
set_option maxHeartbeats 3200000 in
theorem join_ok (F S L : Nat) (h : joinB ((F : Nat) : Int) ((S : Nat) : Int) ((L : Nat) : Int) = true) (w : World) : Calls Try.prog 23 #[.int .i64 ((F : Nat) : Int), .int .i64 ((S : Nat) : Int), .int .i64 ((L : Nat) : Int)] w fun e w' => e = .returned (.tuple #[.int .i64 (joinC ((F : Nat) : Int) ((S : Nat) : Int) ((L : Nat) : Int)).1, .int .i64 (joinC ((F : Nat) : Int) ((S : Nat) : Int) ((L : Nat) : Int)).2]) ∧ Below w.heap.size w w' := by
  have HF := fun v w => Lib.hid (fits_any 3 (by omega) v w)
  rw [show ((3 : Nat) : Int) = 3 from rfl] at HF
  have H1 := fun w => HF ((F : Nat) : Int) w
  have H2 := fun w => HF ((S : Nat) : Int) w
  rw [joinC_ok h]
  obtain ⟨h1, h2, h3, h4, h5⟩ := of_decide_eq_true h
  simp only [fit3 ((F : Nat) : Int), decide_eq_true (And.intro h1 h2)] at H1
  simp only [fit3 ((S : Nat) : Int), decide_eq_true (And.intro h3 h4)] at H2
  have HM := fun v w => Lib.hid (rem_any v w)
  obtain ⟨hp1, hp2⟩ := prod_in (L := ((L : Nat) : Int)) (a := ((F : Nat) : Int) % 65536) (by omega) (by omega)
  have hF : F < 4294967296 := by omega
  have hS : S < 4294967296 := by omega
  have hL0 : ¬ ((L : Nat) : Int) < 0 := by omega
  clear h HF h1 h2 h3 h4 h5
  go_enter Try.func23, Try.ntmps23
  go_wp2_with fail
  refine (H1 _).out.mono ?_
  rintro e w1 ⟨rfl, hb1⟩
  have HB1 := Lib.hid hb1
  clear hb1
  go_wp2_with fail
  refine (H2 _).out.mono ?_
  rintro e w2 ⟨rfl, hb2⟩
  have HB2 := Lib.hid (HB1.out.trans (hb2.mono HB1.out.size))
  clear hb2
  go_wp2_with (go_at_call 36; refine (HM _ _).out.mono ?_; rintro e w' ⟨rfl, rfl⟩)
  go_ret2
  exact ⟨ret_ii (by omega) rfl, HB2.out⟩

theorem join_any (f s l : Int) (w : World) : Calls Try.prog 23 #[.int .i64 f, .int .i64 s, .int .i64 l] w fun e w' => e = .returned (.tuple #[.int .i64 (joinC f s l).1, .int .i64 (joinC f s l).2]) ∧ Below w.heap.size w w' := by
  cases h : joinB f s l with
  | false => rw [joinC_no h]; exact join_bad f s l h w
  | true =>
    have hd := of_decide_eq_true h
    obtain ⟨F, rfl⟩ : ∃ F : Nat, f = ((F : Nat) : Int) := ⟨f.toNat, by omega⟩
    obtain ⟨S, rfl⟩ : ∃ F : Nat, s = ((F : Nat) : Int) := ⟨s.toNat, by omega⟩
    obtain ⟨L, rfl⟩ : ∃ F : Nat, l = ((F : Nat) : Int) := ⟨l.toNat, by omega⟩
    exact join_ok F S L h w

set_option maxRecDepth 100000 in
set_option maxHeartbeats 3200000 in
theorem rjoin_bad (f s l : Int) (h : joinB f s l = false) (w : World) : Calls Try.prog 24 #[.int .i64 f, .int .i64 s, .int .i64 l] w fun e w' => e = .returned (.tuple #[.int .i64 0, .int .i64 2]) ∧ w = w' := by
  have h := of_decide_eq_false h
  by_cases h1 : f < 0
  · clear h
    go_enter Try.func24, Try.ntmps24
    go_wp2
    go_ret2
    exact ⟨rfl, rfl⟩
  · by_cases h2 : 4294967296 ≤ f
    · clear h
      go_enter Try.func24, Try.ntmps24
      go_wp2
      go_ret2
      exact ⟨rfl, rfl⟩
    · by_cases h3 : s < 0
      · clear h
        go_enter Try.func24, Try.ntmps24
        go_wp2
        go_ret2
        exact ⟨rfl, rfl⟩
      · by_cases h4 : 4294967296 ≤ s
        · clear h
          go_enter Try.func24, Try.ntmps24
          go_wp2
          go_ret2
          exact ⟨rfl, rfl⟩
        · have hl : l < 0 := by omega
          clear h
          go_enter Try.func24, Try.ntmps24
          go_wp2
          go_ret2
          exact ⟨rfl, rfl⟩

theorem mod_prod (x y z : Int) : (x + y * (z % 65521)) % 65521 = (x + y * z) % 65521 := by
  rw [Int.add_emod, Int.mul_emod, Int.emod_emod, ← Int.mul_emod, ← Int.add_emod]
theorem prod_in2 (x z : Int) : 0 ≤ x % 65521 * (z % 65521) ∧ x % 65521 * (z % 65521) ≤ 4294967296 := by
  have hl0 : 0 ≤ x % 65521 := Int.emod_nonneg _ (by decide)
  have hl1 : x % 65521 < 65521 := Int.emod_lt_of_pos _ (by decide)
  have hz0 : 0 ≤ z % 65521 := Int.emod_nonneg _ (by decide)
  have hz1 : z % 65521 < 65521 := Int.emod_lt_of_pos _ (by decide)
  have k3 : x % 65521 * (z % 65521) ≤ x % 65521 * 65521 := Int.mul_le_mul_of_nonneg_left (by omega) hl0
  exact ⟨Int.mul_nonneg hl0 hz0, by omega⟩

set_option maxRecDepth 100000 in
set_option maxHeartbeats 3200000 in
theorem rjoin_ok (F S L : Nat) (h : joinB ((F : Nat) : Int) ((S : Nat) : Int) ((L : Nat) : Int) = true) (w : World) : Calls Try.prog 24 #[.int .i64 ((F : Nat) : Int), .int .i64 ((S : Nat) : Int), .int .i64 ((L : Nat) : Int)] w fun e w' => e = .returned (.tuple #[.int .i64 (joinC ((F : Nat) : Int) ((S : Nat) : Int) ((L : Nat) : Int)).1, .int .i64 (joinC ((F : Nat) : Int) ((S : Nat) : Int) ((L : Nat) : Int)).2]) ∧ w = w' := by
  rw [joinC_ok h, ← mod_prod]
  obtain ⟨h1, h2, h3, h4, h5⟩ := of_decide_eq_true h
  have HM := fun v w => Lib.hid (mod_any v w)
  obtain ⟨hp1, hp2⟩ := prod_in2 ((L : Nat) : Int) (((F : Nat) : Int) % 65536 - 1)
  have hF : F < 4294967296 := by omega
  have hS : S < 4294967296 := by omega
  have k1 : ¬ ((F : Nat) : Int) < 0 := by omega
  have k2 : ¬ (4294967296 : Int) ≤ ((F : Nat) : Int) := by omega
  have k3 : ¬ ((S : Nat) : Int) < 0 := by omega
  have k4 : ¬ (4294967296 : Int) ≤ ((S : Nat) : Int) := by omega
  have k5 : ¬ ((L : Nat) : Int) < 0 := by omega
  have HF := Lib.hid hF
  have HS := Lib.hid hS
  clear h h1 h2 h3 h4 h5
  go_enter Try.func24, Try.ntmps24
  go_wp2_with (go_at_call 37; refine (HM _ _).out.mono ?_; rintro e w' ⟨rfl, rfl⟩)
  go_ret2
  exact ⟨ret_ii (by omega) rfl, rfl⟩

theorem rjoin_any (f s l : Int) (w : World) : Calls Try.prog 24 #[.int .i64 f, .int .i64 s, .int .i64 l] w fun e w' => e = .returned (.tuple #[.int .i64 (joinC f s l).1, .int .i64 (joinC f s l).2]) ∧ w = w' := by
  cases h : joinB f s l with
  | false => rw [joinC_no h]; exact rjoin_bad f s l h w
  | true =>
    have hd := of_decide_eq_true h
    obtain ⟨F, rfl⟩ : ∃ F : Nat, f = ((F : Nat) : Int) := ⟨f.toNat, by omega⟩
    obtain ⟨S, rfl⟩ : ∃ F : Nat, s = ((F : Nat) : Int) := ⟨s.toNat, by omega⟩
    obtain ⟨L, rfl⟩ : ∃ F : Nat, l = ((F : Nat) : Int) := ⟨l.toNat, by omega⟩
    exact rjoin_ok F S L h w
end Go.Proofs.Ytpnhiaibidecnaa
