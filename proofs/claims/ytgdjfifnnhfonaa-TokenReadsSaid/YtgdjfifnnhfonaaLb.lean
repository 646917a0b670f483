/- The walk of TokenReads where the text has no tokens: it returns true and changes nothing that was there. Conditions: the calls lie in memory; the text has at most 500 bytes, and there are at most 60 calls. -/
import Derived.Test.YtgdjfifnnhfonaaLa
namespace Go.Proofs.Ytgdjfifnnhfonaa
open Go.RowKit Go.Shelf
attribute [local go_sem] Oper.semAt_some

set_option maxRecDepth 100000 in
set_option maxHeartbeats 16000000 in
theorem reads_bad (l : List UInt8) (v : Value) (L : List TAct) (w : World) (hl : l.length ≤ 500) (hL : L.length ≤ 60) (hv : TActsAt w v L) (q : Nat × Nat) (c : Nat) (hR : scanS l = .bad q c) :
    Calls Try.prog 5 #[.string (strL l), v] w fun e w' => e = .returned (.bool true) ∧ Below w.heap.size w w' := by
  obtain ⟨ao, cL, rfl, hcL1, hcL2, hacts⟩ := hv
  have hs : (strL l).size = l.length := strL_size l
  obtain ⟨w0, hw0⟩ : ∃ w0, (w.alloc (.cells #[.string (strL l)] 9)).alloc (.cells #[.bool false] 4) = w0 := ⟨_, rfl⟩
  have hb0 : Below w.heap.size w w0 := by rw [← hw0]; exact ((Below.refl _ w).alloc (Nat.le_refl _) _).alloc (by simp) _
  have hsb0 : Boxed w0 w.heap.size 9 (.string (strL l)) := by rw [← hw0]; exact (Boxed.new w 9 _).alloc _
  have hrb0 : Boxed w0 (w.heap.size + 1) 4 (.bool false) := by
    rw [← hw0]
    have := Boxed.new (w.alloc (.cells #[.string (strL l)] 9)) 4 (.bool false)
    simpa using this
  have hz0 : w0.heap.size = w.heap.size + 2 := by rw [← hw0]; simp
  have HNEW := fun wx => Lib.hid (new_any l wx (by omega))
  have HRS := fun wx => Lib.hid (refScan_any l wx (by omega))
  have hbad : c = 4 ∨ c = 6 := scanG_bad _ _ _ q c hR
  rw [hR] at HNEW HRS
  have HBD := Lib.hid hbad
  obtain ⟨sb, esb⟩ : ∃ sb, w.heap.size = sb := ⟨_, rfl⟩
  rw [esb] at hsb0 hrb0 hz0
  have ESB := Lib.hid esb
  have HW0 := Lib.hid hw0
  have HB0 := Lib.hid hb0
  have SB0 := Lib.hid hsb0
  have RB0 := Lib.hid hrb0
  have HZ0 := Lib.hid hz0
  have HA := Lib.hid hacts
  have s0 := hsb0.cell
  have hi1 : ((l.length : Nat) : Int) ≤ 500 := by omega
  have hi2 : ((L.length : Nat) : Int) ≤ 60 := by omega
  clear hR hbad hw0 hb0 hsb0 hrb0 hz0 hacts esb
  go_enter Try.func5, Try.ntmps5
  go_upto_region 1 with fail
  rw [HW0.out, ESB.out]
  go_wp2_with fail
  refine ((HNEW _).out).mono ?_
  rintro e w1 ⟨hb1, hm⟩
  subst hm
  have hal := below_alloc w1 (.cells #[.int .i64 q.1, .int .i64 q.2] 25)
  have hbx : (w1.alloc (.cells #[.int .i64 q.1, .int .i64 q.2] 25)).heap[w1.heap.size]? = some (.cells #[.int .i64 q.1, .int .i64 q.2] 25 (0, 0)) := heap_alloc_new w1 _
  obtain ⟨pb, epb⟩ : ∃ pb, w1.heap.size = pb := ⟨_, rfl⟩
  obtain ⟨w2, hw2⟩ : ∃ w2, w1.alloc (.cells #[.int .i64 q.1, .int .i64 q.2] 25) = w2 := ⟨_, rfl⟩
  rw [hw2] at hal hbx
  rw [epb] at hbx
  have hb02 := hb1.trans (hal.mono hb1.size)
  have B2 := Lib.hid hb02
  have BX := Lib.hid hbx
  have W2 := Lib.hid hw2
  have EPB := Lib.hid epb
  have sc2 := (boxed_below SB0.out hb02 SB0.out.lt).cell
  clear hal hbx hw2 epb hb1 hb02 HNEW
  go_upto_region 4 with fail
  rw [W2.out, EPB.out]
  go_wp2_with fail
  refine ((HRS _).out).mono ?_
  rintro e w3 ⟨hb3, a, ha, rfl, rfl⟩
  have hal := below_alloc w3 (.cells #[.slice none 0 0] 29)
  have hb34 := hb3.trans (hal.mono hb3.size)
  have hbx4 := (hb34.block pb (Array.getElem?_eq_some_iff.1 BX.out).1).trans BX.out
  have hb04 := B2.out.trans (hb34.mono B2.out.size)
  obtain ⟨w4, hw4⟩ : ∃ w4, w3.alloc (.cells #[.slice none 0 0] 29) = w4 := ⟨_, rfl⟩
  rw [hw4] at hbx4 hb04
  have W4 := Lib.hid hw4
  have B4 := Lib.hid hb04
  have hat := fun wx => lawAt_any l a wx ha (by omega)
  generalize adv (l.take a) (1, 1) = q at hbx4 hat BX W2
  have HAT := fun wx => Lib.hid (hat wx)
  have hsb4 := boxed_below SB0.out hb04 SB0.out.lt
  have hrb4 := boxed_below RB0.out hb04 RB0.out.lt
  have hnpr : pb ≠ sb + 1 := fun e => by
    have h1 := hrb4
    unfold Boxed at h1
    rw [← e, hbx4] at h1
    simp at h1
  have hkeep : ∀ wx, Below w4.heap.size w4 wx → wx.cell? ⟨pb, 0, none⟩ = some (.int .i64 q.1) ∧ wx.cell? ⟨pb, 1, none⟩ = some (.int .i64 q.2) ∧ wx.cell? ⟨sb, 0, none⟩ = some (.string (strL l)) := fun wx hb => by
    have := (hb.block pb (Array.getElem?_eq_some_iff.1 hbx4).1).trans hbx4
    exact ⟨by simp [World.cell?, this], by simp [World.cell?, this], (boxed_below hsb4 hb hsb4.lt).cell⟩
  have hkeep2 : ∀ wx, Below w4.heap.size w4 wx → (wx.setCell ⟨sb + 1, 0, none⟩ (.bool true)).cell? ⟨pb, 0, none⟩ = some (.int .i64 q.1) ∧ (wx.setCell ⟨sb + 1, 0, none⟩ (.bool true)).cell? ⟨pb, 1, none⟩ = some (.int .i64 q.2) ∧ (wx.setCell ⟨sb + 1, 0, none⟩ (.bool true)).cell? ⟨sb, 0, none⟩ = some (.string (strL l)) := fun wx hb => by
    have hr := (Rest.refl (fun i => i = sb + 1) wx).setCell (S := fun i => i = sb + 1) (p := ⟨sb + 1, 0, none⟩) (fun _ => rfl) (.bool true)
    obtain ⟨h1, h2, h3⟩ := hkeep wx hb
    exact ⟨(hr.cell (p := ⟨pb, 0, none⟩) (World.block_lt_of_cell? _ _ h1) hnpr).trans h1, (hr.cell (p := ⟨pb, 1, none⟩) (World.block_lt_of_cell? _ _ h2) hnpr).trans h2, (hr.cell (p := ⟨sb, 0, none⟩) (World.block_lt_of_cell? _ _ h3) (by show ¬ sb = sb + 1; omega)).trans h3⟩
  have KEEP := Lib.hid hkeep
  have KEEP2 := Lib.hid hkeep2
  have RB4 := Lib.hid hrb4
  have hc : ((c : Nat) : Int) = 4 ∨ ((c : Nat) : Int) = 6 := by rcases HBD.out with h | h <;> simp [h]
  have hq : (((c : Nat) : Int) != 0) = true := by simp; omega
  obtain ⟨p0, p1, p2⟩ := hkeep w4 (Below.refl _ _)
  clear hb3 hal hb34 hbx4 hb04 hw4 hat hkeep hkeep2 hc hsb4 hrb4 hnpr BX W2 B2 HRS sc2 s0
  go_upto_region 5 with fail
  rw [W4.out]
  go_upto_region 8 with fail
  go_region_held (fun w' => w'.cell? ⟨pb, 0, none⟩ = some (.int .i64 q.1) ∧ w'.cell? ⟨pb, 1, none⟩ = some (.int .i64 q.2) ∧ w'.cell? ⟨sb, 0, none⟩ = some (.string (strL l))) (first | exact KEEP.out _ (Below.refl _ _).drew | exact KEEP.out _ HB5.out | exact KEEP.out _ HB6.out | exact KEEP2.out _ HB6.out) (first | (go_at_call 11; refine ((HAT _).out).mono ?_; rintro e w5 ⟨rfl, hb5⟩; have HB5 := Lib.hid ((Below.refl _ _).drew.trans hb5); clear hb5) | (go_at_call 8; refine (known_any _).mono ?_; rintro e w6 ⟨rfl, hb6⟩; have HB6 := Lib.hid (HB5.out.trans (hb6.mono HB5.out.size)); have cr := (boxed_below RB4.out HB6.out RB4.out.lt).cell; have fr := (boxed_below RB4.out HB6.out RB4.out.lt).frozen; clear hb6))
  all_goals
    clear p0 p1 p2
    have hst := Boxed.set (.bool true) (boxed_below RB4.out HB6.out RB4.out.lt)
    have hbw := ((HB0.out.trans (B4.out.mono HB0.out.size)).trans (HB6.out.mono (Nat.le_trans HB0.out.size B4.out.size))).setCell (p := ⟨sb + 1, 0, none⟩) (by show w.heap.size ≤ sb + 1; have := ESB.out; omega) (.bool true)
    have cs := hst.cell
    have HBW := Lib.hid hbw
    clear hst hbw
    go_wp2_with fail
    refine bodyPost_ret (by simp [results, Try.results5, go_sem, cs]; try rfl) rfl ?_
    exact ⟨rfl, HBW.out⟩
end Go.Proofs.Ytgdjfifnnhfonaa
