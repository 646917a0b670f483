/- The walk of TokenScans: it returns true and changes nothing that was there. No conditions. -/
import Derived.Test.YtgdjfifnnhfonaaRi
import Derived.Deep.RegionHeld3
import Derived.StillTailTactics
namespace Go.Proofs.Ytgdjfifnnhfonaa
open Go.RowKit Go.Shelf

/-- The cells of a row. -/
theorem row_cells {w : World} {base n s : Nat} {t : TypeId} {v : Value} {xs : List Value} (h : w.ownsRow base t s v n xs) (hn : 0 < n) :
    ∃ g c, v = .slice (some ⟨g, 0, none⟩) n c ∧ base ≤ g ∧ g < w.heap.size ∧ n ≤ c ∧ c ≤ maxLen ∧ ∀ j u, xs[j]? = some u → w.cell? ⟨g, j, none⟩ = some u := by
  rcases h.2 with ⟨rfl, h0⟩ | ⟨g, cap, cur, rfl, hb, hg, h1, h2, h3, h4⟩
  · omega
  · refine ⟨g, cap, rfl, hb, (Array.getElem?_eq_some_iff.1 hg).1, h1, h2, fun j u hu => ?_⟩
    rw [← h4, List.getElem?_take] at hu
    split at hu
    · simp only [World.cell?, hg]
      simpa using hu
    · cases hu

theorem rCells_get (D : List RTk) (j : Nat) (d : RTk) (h : D[j]? = some d) (i : Nat) (hi : i < 4) : (rCells D)[j * 4 + i]? = d.cells[i]? := by
  obtain ⟨hj', hd⟩ := List.getElem?_eq_some_iff.1 h
  have htk : D.take (j + 1) = D.take j ++ [d] := by rw [← hd]; exact List.take_succ_eq_append_getElem hj'
  have e : D = D.take j ++ [d] ++ D.drop (j + 1) := by
    rw [← htk, List.take_append_drop]
  have hc : rCells D = rCells (D.take j) ++ (d.cells ++ rCells (D.drop (j + 1))) := by
    conv => lhs; rw [e]
    simp [rCells]
  have hl : (rCells (D.take j)).length = j * 4 := by rw [rCells_length, List.length_take]; omega
  rw [hc, List.getElem?_append_right (by omega), hl, Nat.add_sub_cancel_left, List.getElem?_append_left (by simpa [RTk.cells] using hi)]

theorem row_maxLen {w : World} {base n s : Nat} {t : TypeId} {A : Option Addr} {c : Nat} {xs : List Value} (h : w.ownsRow base t s (.slice A n c) n xs) : n ≤ 9223372036854775807 := by
  rcases h.2 with ⟨_, h0⟩ | ⟨g, cap, cur, hv, hb, hg, h1, h2, _⟩
  · omega
  · exact Nat.le_trans h1 h2

set_option maxRecDepth 100000 in
set_option maxHeartbeats 8000000 in
theorem scans_walk (l : List UInt8) (w : World) (hl : l.length ≤ 9223372036854775807) :
    Calls Try.prog 3 #[.string (strL l)] w fun e w' => e = .returned (.bool true) ∧ Below w.heap.size w w' := by
  have hs : (strL l).size = l.length := strL_size l
  by_cases h5 : 1000 < l.length
  · go_enter Try.func3, Try.ntmps3
    go_wp2_with fail
    refine (known_any _).mono ?_
    rintro e w2 ⟨rfl, hb2⟩
    have HB2 := Lib.hid hb2
    clear hb2
    go_wp2_with fail
    go_ret
    exact ⟨rfl, HB2.out⟩
  · have HSC := Lib.hid (Scan_any l w (by omega))
    have HRS := fun wx => Lib.hid (refScan_any l wx (by omega))
    obtain ⟨R, hR⟩ : ∃ R, scanS l = R := ⟨_, rfl⟩
    have hbad : ∀ q c, R = .bad q c → c = 4 ∨ c = 6 := fun q c e => scanG_bad _ _ _ q c (hR.trans e)
    rw [hR] at HSC HRS
    have HBD := Lib.hid hbad
    have HLL := Lib.hid hl
    clear hR hbad
    go_enter Try.func3, Try.ntmps3
    go_wp2_with fail
    refine HSC.out.mono ?_
    rintro e w2 ⟨hb2, hm⟩
    cases R with
    | bad q c =>
      subst hm
      have hal := (Below.refl w2.heap.size w2).alloc (Nat.le_refl _) (.cells #[.int .i64 q.1, .int .i64 q.2] 25)
      have hbx : (w2.alloc (.cells #[.int .i64 q.1, .int .i64 q.2] 25)).heap[w2.heap.size]? = some (.cells #[.int .i64 q.1, .int .i64 q.2] 25 (0, 0)) := heap_alloc_new w2 _
      obtain ⟨pb, epb⟩ : ∃ pb, w2.heap.size = pb := ⟨_, rfl⟩
      obtain ⟨w3, hw3⟩ : ∃ w3, w2.alloc (.cells #[.int .i64 q.1, .int .i64 q.2] 25) = w3 := ⟨_, rfl⟩
      rw [hw3] at hal hbx
      rw [epb] at hbx
      have B3 := Lib.hid (hb2.trans (hal.mono hb2.size))
      have BX := Lib.hid hbx
      have W3 := Lib.hid hw3
      have EPB := Lib.hid epb
      clear hal hbx hw3 epb hb2 HSC
      go_wp2_with fail
      rw [W3.out, EPB.out]
      refine ((HRS _).out).mono ?_
      rintro e w4 ⟨hb4, a, ha, rfl, rfl⟩
      have hbx4 := (hb4.block pb (Array.getElem?_eq_some_iff.1 BX.out).1).trans BX.out
      have B4 := Lib.hid (B3.out.trans (hb4.mono B3.out.size))
      have hat := fun wx => lawAt_any l a wx ha (by omega)
      generalize adv (l.take a) (1, 1) = q at hbx4 hat BX W3 HBD
      have HAT := fun wx => Lib.hid (hat wx)
      have hkeep : ∀ wx, Below w4.heap.size w4 wx → wx.cell? ⟨pb, 0, none⟩ = some (.int .i64 q.1) ∧ wx.cell? ⟨pb, 1, none⟩ = some (.int .i64 q.2) := fun wx hb => by
        have := (hb.block pb (Array.getElem?_eq_some_iff.1 hbx4).1).trans hbx4
        exact ⟨by simp [World.cell?, this], by simp [World.cell?, this]⟩
      have KEEP := Lib.hid hkeep
      have hc : ((c : Nat) : Int) = 4 ∨ ((c : Nat) : Int) = 6 := by rcases HBD.out q c rfl with h | h <;> simp [h]
      have hq : (((c : Nat) : Int) != 0) = true := by simp; omega
      have kp := hkeep w4 (Below.refl _ _)
      obtain ⟨p0, p1⟩ := kp
      clear hb4 hbx4 hat hkeep hc BX W3 B3 HRS
      go_upto_region 8 with fail
      go_region_held (fun w' => w'.cell? ⟨pb, 0, none⟩ = some (.int .i64 q.1) ∧ w'.cell? ⟨pb, 1, none⟩ = some (.int .i64 q.2)) (first | exact KEEP.out _ (Below.refl _ _).drew | exact KEEP.out _ HB5.out | exact KEEP.out _ HB6.out) (first | (go_at_call 11; refine ((HAT _).out).mono ?_; rintro e w5 ⟨rfl, hb5⟩; have HB5 := Lib.hid ((Below.refl _ _).drew.trans hb5); clear hb5) | (go_at_call 8; refine (known_any _).mono ?_; rintro e w6 ⟨rfl, hb6⟩; have HB6 := Lib.hid (HB5.out.trans (hb6.mono HB5.out.size)); clear hb6))
      all_goals
        clear p0 p1
        go_wp2_with fail
        go_ret
        exact ⟨rfl, B4.out.trans (HB6.out.mono B4.out.size)⟩
    | ok ts q =>
      obtain ⟨v1, rfl, hrow⟩ := hm
      obtain ⟨N, hN⟩ : ∃ N, ts.length = N := ⟨_, rfl⟩
      rw [hN] at hrow
      obtain ⟨A1, c1, rfl⟩ := row_shape hrow
      have hal := (Below.refl w2.heap.size w2).alloc (Nat.le_refl _) (.cells #[.int .i64 0, .int .i64 0] 25)
      have hbx : (w2.alloc (.cells #[.int .i64 0, .int .i64 0] 25)).heap[w2.heap.size]? = some (.cells #[.int .i64 0, .int .i64 0] 25 (0, 0)) := heap_alloc_new w2 _
      have hrow3 := Rest.row (S := fun _ => False) (Rest.below hal) hrow (fun _ _ e => e)
      obtain ⟨pb, epb⟩ : ∃ pb, w2.heap.size = pb := ⟨_, rfl⟩
      obtain ⟨w3, hw3⟩ : ∃ w3, w2.alloc (.cells #[.int .i64 0, .int .i64 0] 25) = w3 := ⟨_, rfl⟩
      rw [hw3] at hal hbx hrow3
      rw [epb] at hbx
      have B3 := Lib.hid (hb2.trans (hal.mono hb2.size))
      have BX := Lib.hid hbx
      have ROW3 := Lib.hid hrow3
      have W3 := Lib.hid hw3
      have EPB := Lib.hid epb
      have HN := Lib.hid hN
      clear hal hbx hw3 epb hb2 HSC hrow hrow3 hN
      go_wp2_with fail
      rw [W3.out, EPB.out]
      refine ((HRS _).out).mono ?_
      rintro e w4 ⟨hb4, ws, v2, rfl, hats, rfl, hrow2⟩
      obtain rfl : ws.length = N := by rw [← HN.out, List.length_map]
      obtain ⟨A2, c2, rfl⟩ := row_shape hrow2
      have hbx4 := (hb4.block pb (Array.getElem?_eq_some_iff.1 BX.out).1).trans BX.out
      have B4 := Lib.hid (B3.out.trans (hb4.mono B3.out.size))
      have hrow4 := Rest.row (S := fun _ => False) (Rest.below hb4) ROW3.out (fun _ _ e => e)
      have ROW1 := Lib.hid hrow4
      have ROW2 := Lib.hid hrow2
      have BX4 := Lib.hid hbx4
      have ATS := Lib.hid hats
      have hmN : ws.length ≤ 9223372036854775807 := row_maxLen hrow2
      clear hb4 hbx4 hrow4 hrow2 hats HRS BX ROW3 W3 B3 HN
      go_wp2_with fail
      go_loopw [9] (fun x wr => ∃ k : Nat, k ≤ ws.length ∧ x = .int .i64 ((k : Nat) : Int) ∧ Below w4.heap.size w4 wr) (fun x _ => ws.length - (intOf x).toNat)
      case atStart => exact ⟨0, Nat.zero_le _, rfl, Below.refl _ _⟩
      case round =>
        obtain ⟨k, hk, rfl, hbw⟩ := hrel
        have BW := Lib.hid hbw
        clear hbw
        by_cases hlt : k < ws.length
        · obtain ⟨d, hd⟩ : ∃ d, ws[k]? = some d := ⟨_, List.getElem?_eq_getElem hlt⟩
          have hda := ATS.out d (List.mem_of_getElem? hd)
          have hd1 : (ws.map (RTk.toD l))[k]? = some (d.toD l) := by rw [List.getElem?_map, hd]; rfl
          obtain ⟨g1, cp1, e1, _, _, hca1, hcb1, hx1⟩ := row_cells ROW1.out (by omega)
          obtain ⟨g2, cp2, e2, _, _, hca2, hcb2, hx2⟩ := row_cells ROW2.out (by omega)
          simp only [Value.slice.injEq, true_and] at e1 e2
          obtain ⟨rfl, rfl⟩ := e1
          obtain ⟨rfl, rfl⟩ := e2
          have hmc1 : c1 ≤ 9223372036854775807 := hcb1
          have hmc2 : c2 ≤ 9223372036854775807 := hcb2
          obtain ⟨Q, hQ⟩ : ∃ Q, adv (l.take d.a) (1, 1) = Q := ⟨_, rfl⟩
          have hD : (d.toD l).cells = [.int .i64 d.k, .string (strL d.t), .int .i64 d.v, .int .i64 Q.1, .int .i64 Q.2] := by unfold RTk.toD; rw [hQ]; rfl
          have hkeep : ∀ wx, Below w4.heap.size w4 wx → (wx.cell? ⟨g1, k * 5, none⟩ = some (.int .i64 d.k) ∧ wx.cell? ⟨g1, k * 5 + 1, none⟩ = some (.string (strL d.t)) ∧ wx.cell? ⟨g1, k * 5 + 2, none⟩ = some (.int .i64 d.v) ∧ wx.cell? ⟨g1, k * 5 + 3, none⟩ = some (.int .i64 Q.1) ∧ wx.cell? ⟨g1, k * 5 + 4, none⟩ = some (.int .i64 Q.2)) ∧ wx.cell? ⟨g2, k * 4, none⟩ = some (.int .i64 d.k) ∧ wx.cell? ⟨g2, k * 4 + 1, none⟩ = some (.string (strL d.t)) ∧ wx.cell? ⟨g2, k * 4 + 2, none⟩ = some (.int .i64 d.v) ∧ wx.cell? ⟨g2, k * 4 + 3, none⟩ = some (.int .i64 d.a) := fun wx hb => by
            have y1 : ∀ n u, n < 5 → (d.toD l).cells[n]? = some u → wx.cell? ⟨g1, k * 5 + n, none⟩ = some u := fun n u hn hu => by
              have := hx1 (k * 5 + n) u (by rw [tokCells_get _ k _ hd1 n hn]; exact hu)
              exact (hb.cell (p := ⟨g1, k * 5 + n, none⟩) (World.block_lt_of_cell? _ _ this)).trans this
            have y2 : ∀ n u, n < 4 → d.cells[n]? = some u → wx.cell? ⟨g2, k * 4 + n, none⟩ = some u := fun n u hn hu => by
              have := hx2 (k * 4 + n) u (by rw [rCells_get _ k _ hd n hn]; exact hu)
              exact (hb.cell (p := ⟨g2, k * 4 + n, none⟩) (World.block_lt_of_cell? _ _ this)).trans this
            rw [hD] at y1
            exact ⟨⟨y1 0 _ (by omega) rfl, y1 1 _ (by omega) rfl, y1 2 _ (by omega) rfl, y1 3 _ (by omega) rfl, y1 4 _ (by omega) rfl⟩, y2 0 _ (by omega) rfl, y2 1 _ (by omega) rfl, y2 2 _ (by omega) rfl, y2 3 _ (by omega) rfl⟩
          have KEEP := Lib.hid hkeep
          have HIS := fun wx => Lib.hid (lawIs_same l d.a d.k d.v d.t wx hda (by omega) Q hQ)
          obtain ⟨⟨x0, x1, x2, x3, x4⟩, z0, z1, z2, z3⟩ := hkeep wr BW.out
          have hk0 : (0 : Int) ≤ ((k : Nat) : Int) := by omega
          have hk1 : ((k : Nat) : Int) < ((ws.length : Nat) : Int) := by omega
          clear hkeep hd hda hd1 hx1 hx2 hca1 hcb1 hca2 hcb2 hQ hD
          go_upto_region 12 with fail
          go_still_tail 9, (by kernel_rfl)
          change wpList _ _ _ _ _ wr.drew
          clear x0 x1 x2 x3 x4 z0 z1 z2 z3
          go_wp2_with fail
          refine ((HIS _).out).mono ?_
          rintro e w5 ⟨rfl, hb5⟩
          have HB5 := Lib.hid (BW.out.drew.trans (hb5.mono BW.out.size))
          clear hb5
          go_wp2_with fail
          go_roundw
          case rel => exact ⟨k + 1, hlt, by go_num, HB5.out⟩
          case measure => simp [intOf]; omega
        · obtain rfl : k = ws.length := by omega
          have hbx := (BW.out.block pb (Array.getElem?_eq_some_iff.1 BX4.out).1).trans BX4.out
          have p0 : wr.cell? ⟨pb, 0, none⟩ = some (.int .i64 0) := by simp [World.cell?, hbx]
          have p1 : wr.cell? ⟨pb, 1, none⟩ = some (.int .i64 0) := by simp [World.cell?, hbx]
          clear hbx
          go_wp2_with fail
          refine (known_any _).mono ?_
          rintro e w6 ⟨rfl, hb6⟩
          have HB6 := Lib.hid (BW.out.trans (hb6.mono BW.out.size))
          clear hb6 p0 p1
          go_wp2_with fail
          go_ret
          exact ⟨rfl, B4.out.trans (HB6.out.mono B4.out.size)⟩
end Go.Proofs.Ytgdjfifnnhfonaa
