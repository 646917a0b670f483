/- Begins of package varint. Conditions: the bytes lie in memory. -/
import Derived.Test.YtfkaghfbngicmaaQg
namespace Go.Proofs.Ytfkaghfbngicmaa
open Go.RowKit Go.Shelf

/-- Whether a range is one of integers. -/
def rangeV (lo hi : Int) : Bool := okV lo && okV hi && decide (lo ≤ hi)
theorem rangeV_iff (lo hi : Int) : rangeV lo hi = true ↔ 0 ≤ lo ∧ lo ≤ hi ∧ hi < 34359738368 := by
  simp only [rangeV, Bool.and_eq_true, okV_iff, decide_eq_true_eq]; omega
/-- What Begins answers for a range of integers. -/
def beginsB (B : List Nat) (loose : Bool) (lo hi : Int) : Bool :=
  if begW B = true then decide ((begL B).length = B.length) && allowB loose (begL B) && decide (lo ≤ (sumV (begL B) : Nat)) && decide (((sumV (begL B) : Nat) : Int) ≤ hi)
  else if (begL B).length = 5 then false
  else decide (upV (leadV loose (begL B).length (sumV (begL B) : Nat) (128 ^ (begL B).length : Nat)) lo (128 ^ (begL B).length : Nat) ≤ hi)
def beginsC (B : List Nat) (loose : Bool) (lo hi : Int) : Bool × Nat := if rangeV lo hi = true then (beginsB B loose lo hi, 0) else (false, 2)

def BeginsOf (r : Bool × Nat) (w : World) (e : Ending) (w' : World) : Prop := e = .returned (.tuple #[.bool r.1, .int .i64 (r.2 : Nat)]) ∧ Below w.heap.size w w'

theorem isInt_at (v : Int) (b : Bool) (h : okV v = b) (w : World) : Calls Try.prog 32 #[.int .i64 v] w fun e w' => e = .returned (.bool b) ∧ w = w' := by subst h; exact isInt_any v w

theorem range_cells (w : World) (lo hi : Int) :
    Below w.heap.size w (w.alloc (.cells #[.int .i64 lo, .int .i64 hi] 44)) ∧ (w.alloc (.cells #[.int .i64 lo, .int .i64 hi] 44)).cell? ⟨w.heap.size, 0, none⟩ = some (.int .i64 lo) ∧ (w.alloc (.cells #[.int .i64 lo, .int .i64 hi] 44)).cell? ⟨w.heap.size, 1, none⟩ = some (.int .i64 hi) :=
  ⟨(Below.refl _ _).alloc (Nat.le_refl _) _, by rw [World.cell?_alloc_new]; rfl, by rw [World.cell?_alloc_new]; rfl⟩

set_option maxRecDepth 100000 in
set_option maxHeartbeats 1600000 in
theorem begins_bad (A : Option Addr) (N C : Nat) (loose : Bool) (lo hi : Int) (w : World) (h : rangeV lo hi = false) :
    Calls Try.prog 18 #[.slice A N C, .bool loose, .agg #[.int .i64 lo, .int .i64 hi]] w (BeginsOf (false, 2) w) := by
  have HR := Lib.hid (range_cells w lo hi).1
  cases h1 : okV lo with
  | false =>
    have HI := fun w => Lib.hid (isInt_at lo false h1 w)
    clear h h1
    go_enter Try.func18, Try.ntmps18
    go_wp2_with (go_at_call 32; go_must (refine ((HI _).out).mono ?_); rintro e w' ⟨rfl, rfl⟩)
    go_ret2
    exact ⟨rfl, HR.out⟩
  | true =>
    have HI := fun w => Lib.hid (isInt_at lo true h1 w)
    cases h2 : okV hi with
    | false =>
      have HJ := fun w => Lib.hid (isInt_at hi false h2 w)
      clear h h1 h2
      go_enter Try.func18, Try.ntmps18
      go_wp2_with fail
      refine ((HI _).out).mono ?_; rintro e w' ⟨rfl, rfl⟩
      go_wp2_with fail
      refine ((HJ _).out).mono ?_; rintro e w' ⟨rfl, rfl⟩
      go_wp2
      go_ret2
      exact ⟨rfl, HR.out⟩
    | true =>
      have HJ := fun w => Lib.hid (isInt_at hi true h2 w)
      have h3 : hi < lo := by
        rw [← Bool.not_eq_true, rangeV_iff] at h
        rw [okV_iff] at h1 h2
        omega
      clear h h1 h2
      go_enter Try.func18, Try.ntmps18
      go_wp2_with fail
      refine ((HI _).out).mono ?_; rintro e w' ⟨rfl, rfl⟩
      go_wp2_with fail
      refine ((HJ _).out).mono ?_; rintro e w' ⟨rfl, rfl⟩
      go_wp2
      go_ret2
      exact ⟨rfl, HR.out⟩

set_option maxRecDepth 100000 in
set_option maxHeartbeats 3200000 in
theorem begins_ok (A : Option Addr) (N C : Nat) (loose : Bool) (B : List Nat) (lo hi : Int) (w : World) (h : rangeV lo hi = true) (hs : SrcAt w (.slice A N C) B) (hN : N = B.length) (hC : N ≤ C) (hC2 : C ≤ 9223372036854775807) (h256 : ∀ x ∈ B, x < 256) :
    Calls Try.prog 18 #[.slice A N C, .bool loose, .agg #[.int .i64 lo, .int .i64 hi]] w (BeginsOf (beginsB B loose lo hi, 0) w) := by
  obtain ⟨hr1, hr2, hr3⟩ := range_cells w lo hi
  obtain ⟨r1, r2, r3⟩ := (rangeV_iff lo hi).1 h
  have HI := fun w => Lib.hid (isInt_at lo true ((okV_iff lo).2 (by omega)) w)
  have HJ := fun w => Lib.hid (isInt_at hi true ((okV_iff hi).2 (by omega)) w)
  have HB := Lib.hid (begin_any A N C B _ (hs.below hr1 hs.lt) hN hC hC2)
  have hl5 := (begL_len B).1
  have hm := begL_mem h256
  have hp := @begW_pos B
  have hr : beginsB B loose lo hi = if begW B = true then decide ((begL B).length = N) && allowB loose (begL B) && decide (lo ≤ (sumV (begL B) : Nat)) && decide (((sumV (begL B) : Nat) : Int) ≤ hi)
      else if (begL B).length = 5 then false else decide (upV (leadV loose (begL B).length (sumV (begL B) : Nat) (128 ^ (begL B).length : Nat)) lo (128 ^ (begL B).length : Nat) ≤ hi) := by rw [hN]; rfl
  obtain ⟨R, hR⟩ : ∃ R, beginsB B loose lo hi = R := ⟨_, rfl⟩
  rw [hR] at hr ⊢
  unfold BegOf at HB
  obtain ⟨D, hD⟩ : ∃ D, begL B = D := ⟨_, rfl⟩
  obtain ⟨W, hW⟩ : ∃ W, begW B = W := ⟨_, rfl⟩
  rw [hD, hW] at HB hr
  rw [hD] at hl5 hm hp
  rw [hW] at hp
  obtain ⟨L, hL⟩ : ∃ L, D.length = L := ⟨_, rfl⟩
  rw [hL] at HB hl5 hr hp
  have HM := Lib.hid hm
  have HL := Lib.hid hL.symm
  obtain ⟨w0, hw0⟩ : ∃ w0, w.alloc (.cells #[.int .i64 lo, .int .i64 hi] 44) = w0 := ⟨_, rfl⟩
  rw [hw0] at hr1 hr2 hr3 HB
  have HW0 := Lib.hid hw0
  have HR1 := Lib.hid hr1
  have HR2 := Lib.hid hr2
  have HR3 := Lib.hid hr3
  clear hD hW hR hs hN h256 hm hL hw0 hr1 hr2 hr3 h
  have HST := fun W A' (w1 : World) (hs1 : SrcAt w1 (.slice A' L L) D) => Lib.hid (StAt.new (W := W) (T := 57) hs1 HL.out)
  have KEEP : ∀ (w1 : World) A' W, Below w0.heap.size w0 w1 → Below w0.heap.size w0 (w1.alloc (.cells #[.slice A' L L, .bool W] 57)) := fun w1 A' W hb => hb.trans (((Below.refl _ _).alloc (Nat.le_refl _) _).mono hb.size)
  have CELLS : ∀ w1, Below w0.heap.size w0 w1 → w1.cell? ⟨w.heap.size, 0, none⟩ = some (.int .i64 lo) ∧ w1.cell? ⟨w.heap.size, 1, none⟩ = some (.int .i64 hi) := fun w1 hb =>
    ⟨(hb.cell (p := ⟨w.heap.size, 0, none⟩) (block_lt_of_cell HR2.out)).trans HR2.out, (hb.cell (p := ⟨w.heap.size, 1, none⟩) (block_lt_of_cell HR3.out)).trans HR3.out⟩
  have CE := Lib.hid CELLS
  have KE := Lib.hid KEEP
  clear CELLS KEEP
  cases W with
  | false =>
    rw [if_neg (by simp)] at hr
    by_cases h5 : L = 5
    · rw [if_pos h5] at hr
      subst hr h5
      clear hp
      go_enter Try.func18, Try.ntmps18
      go_wp2_with fail
      rw [HW0.out]
      refine ((HI _).out).mono ?_; rintro e w' ⟨rfl, rfl⟩
      have hd0 := HR2.out
      have hd1 := HR3.out
      go_wp2_with fail
      refine ((HJ _).out).mono ?_; rintro e w' ⟨rfl, rfl⟩
      go_wp2_with fail
      clear hd0 hd1
      refine HB.out.mono ?_
      rintro e w1 ⟨A', rfl, hs1, _, hb1⟩
      have HB1 := Lib.hid (KE.out w1 A' false hb1)
      clear hb1 hs1
      go_wp2
      go_ret2
      exact ⟨rfl, HR1.out.trans (HB1.out.mono HR1.out.size)⟩
    · rw [if_neg h5] at hr
      have HLE := fun A' c b (w1 : World) hs => Lib.hid (leads_any A' L c b loose D lo hi w1 hs HL.out (by omega) HM.out (by omega) (by omega) (by omega) (by omega))
      have HRR := Lib.hid hr
      rw [HL.out] at hr
      clear hp hr
      have hl5' : (((L : Nat) : Int) == 5) = false := by simp; omega
      go_enter Try.func18, Try.ntmps18
      go_wp2_with fail
      rw [HW0.out]
      refine ((HI _).out).mono ?_; rintro e w' ⟨rfl, rfl⟩
      have hd0 := HR2.out
      have hd1 := HR3.out
      go_wp2_with fail
      refine ((HJ _).out).mono ?_; rintro e w' ⟨rfl, rfl⟩
      go_wp2_with fail
      clear hd0 hd1
      refine HB.out.mono ?_
      rintro e w1 ⟨A', rfl, hs1, _, hb1⟩
      have HB1 := Lib.hid (KE.out w1 A' false hb1)
      have HS1 := Lib.hid (HST false A' w1 hs1).out
      obtain ⟨hd0, hd1⟩ := CE.out _ HB1.out
      clear hb1 hs1
      go_wp2_with fail
      refine (HLE _ _ _ _ HS1.out.src).out.mono ?_
      rintro e w2 ⟨rfl, hb2⟩
      have HB2 := Lib.hid hb2
      clear hb2 hd0 hd1
      go_wp2
      go_ret2
      refine ⟨?_, HR1.out.trans ((HB1.out.trans (HB2.out.mono HB1.out.size)).mono HR1.out.size)⟩
      rw [HRR.out]; rfl
  | true =>
    rw [if_pos rfl] at hr
    have h1 := hp rfl
    clear hp
    have HAL := fun A' c b (w1 : World) hs => Lib.hid (allow_any A' L c b loose D w1 hs HL.out h1 hl5 HM.out)
    have HSU := fun A' c b (w1 : World) hs => Lib.hid (sum_any A' L c b D w1 hs HL.out hl5 HM.out)
    obtain ⟨s, hs0⟩ : ∃ s : Int, ((sumV D : Nat) : Int) = s := ⟨_, rfl⟩
    rw [hs0] at HSU hr
    have HRR := Lib.hid hr
    clear hr hs0
    by_cases hLN : L = N
    · cases ha : allowB loose D with
      | false =>
        have hRf : R = false := by rw [HRR.out, ha]; simp
        subst hRf
        rw [ha] at HAL
        subst hLN
        clear ha
        go_enter Try.func18, Try.ntmps18
        go_wp2_with fail
        rw [HW0.out]
        refine ((HI _).out).mono ?_; rintro e w' ⟨rfl, rfl⟩
        have hd0 := HR2.out
        have hd1 := HR3.out
        go_wp2_with fail
        refine ((HJ _).out).mono ?_; rintro e w' ⟨rfl, rfl⟩
        go_wp2_with fail
        clear hd0 hd1
        refine HB.out.mono ?_
        rintro e w1 ⟨A', rfl, hs1, _, hb1⟩
        have HB1 := Lib.hid (KE.out w1 A' true hb1)
        have HS1 := Lib.hid (HST true A' w1 hs1).out
        clear hb1 hs1
        go_wp2_with fail
        refine (HSU _ _ _ _ HS1.out.src).out.mono ?_
        rintro e w2 ⟨rfl, hb2⟩
        have HB2 := Lib.hid (HB1.out.trans (hb2.mono HB1.out.size))
        have HS2 := Lib.hid (HS1.out.later hb2)
        have c0 := HS2.out.c0
        have c1 := HS2.out.c1
        obtain ⟨hd0, hd1⟩ := CE.out _ HB2.out
        clear hb2
        go_wp2_with fail
        refine (HAL _ _ _ _ HS2.out.src).out.mono ?_
        rintro e w3 ⟨rfl, hb3⟩
        have HB3 := Lib.hid (HB2.out.trans (hb3.mono HB2.out.size))
        clear hb3 hd0 hd1 c0 c1
        go_wp2
        go_ret2
        exact ⟨rfl, HR1.out.trans (HB3.out.mono HR1.out.size)⟩
      | true =>
        rw [ha] at HAL HRR
        subst hLN
        clear ha
        go_enter Try.func18, Try.ntmps18
        go_wp2_with fail
        rw [HW0.out]
        refine ((HI _).out).mono ?_; rintro e w' ⟨rfl, rfl⟩
        have hd0 := HR2.out
        have hd1 := HR3.out
        go_wp2_with fail
        refine ((HJ _).out).mono ?_; rintro e w' ⟨rfl, rfl⟩
        go_wp2_with fail
        clear hd0 hd1
        refine HB.out.mono ?_
        rintro e w1 ⟨A', rfl, hs1, _, hb1⟩
        have HB1 := Lib.hid (KE.out w1 A' true hb1)
        have HS1 := Lib.hid (HST true A' w1 hs1).out
        clear hb1 hs1
        go_wp2_with fail
        refine (HSU _ _ _ _ HS1.out.src).out.mono ?_
        rintro e w2 ⟨rfl, hb2⟩
        have HB2 := Lib.hid (HB1.out.trans (hb2.mono HB1.out.size))
        have HS2 := Lib.hid (HS1.out.later hb2)
        have c0 := HS2.out.c0
        have c1 := HS2.out.c1
        obtain ⟨hd0, hd1⟩ := CE.out _ HB2.out
        clear hb2
        go_wp2_with fail
        refine (HAL _ _ _ _ HS2.out.src).out.mono ?_
        rintro e w3 ⟨rfl, hb3⟩
        have HB3 := Lib.hid (HB2.out.trans (hb3.mono HB2.out.size))
        clear hb3 hd0 hd1 c0 c1
        obtain ⟨hd0, hd1⟩ := CE.out _ HB3.out
        go_wp2
        all_goals
          go_ret2
          refine ⟨?_, HR1.out.trans (HB3.out.mono HR1.out.size)⟩
          rw [HRR.out]
          simp [*]
          try omega
    · have hRf : R = false := by rw [HRR.out]; simp [hLN]
      subst hRf
      have hne : (((L : Nat) : Int) == ((N : Nat) : Int)) = false := by simp; omega
      go_enter Try.func18, Try.ntmps18
      go_wp2_with fail
      rw [HW0.out]
      refine ((HI _).out).mono ?_; rintro e w' ⟨rfl, rfl⟩
      have hd0 := HR2.out
      have hd1 := HR3.out
      go_wp2_with fail
      refine ((HJ _).out).mono ?_; rintro e w' ⟨rfl, rfl⟩
      go_wp2_with fail
      clear hd0 hd1
      refine HB.out.mono ?_
      rintro e w1 ⟨A', rfl, hs1, _, hb1⟩
      have HB1 := Lib.hid (KE.out w1 A' true hb1)
      have HS1 := Lib.hid (HST true A' w1 hs1).out
      clear hb1 hs1
      go_wp2_with fail
      refine (HSU _ _ _ _ HS1.out.src).out.mono ?_
      rintro e w2 ⟨rfl, hb2⟩
      have HB2 := Lib.hid (HB1.out.trans (hb2.mono HB1.out.size))
      have HS2 := Lib.hid (HS1.out.later hb2)
      have c0 := HS2.out.c0
      have c1 := HS2.out.c1
      clear hb2
      go_wp2
      go_ret2
      exact ⟨rfl, HR1.out.trans (HB2.out.mono HR1.out.size)⟩

theorem begins_any (A : Option Addr) (N C : Nat) (loose : Bool) (B : List Nat) (lo hi : Int) (w : World) (hs : SrcAt w (.slice A N C) B) (hN : N = B.length) (hC : N ≤ C) (hC2 : C ≤ 9223372036854775807) (h256 : ∀ x ∈ B, x < 256) :
    Calls Try.prog 18 #[.slice A N C, .bool loose, .agg #[.int .i64 lo, .int .i64 hi]] w (BeginsOf (beginsC B loose lo hi) w) := by
  unfold beginsC
  cases h : rangeV lo hi with
  | false => exact begins_bad A N C loose lo hi w h
  | true => exact begins_ok A N C loose B lo hi w h hs hN hC hC2 h256
end Go.Proofs.Ytfkaghfbngicmaa
