/- The walk of TokenInverts where the text has tokens: it returns true and changes nothing that was there. Conditions: the text has at most 500 bytes, and tokens; the bytes lie in memory. -/
import Derived.Test.YtgdjfifnnhfonaaId
import Derived.Deep.CutRange
import Derived.Deep.RegionHeld3
namespace Go.Proofs.Ytgdjfifnnhfonaa
open Go.RowKit Go.Shelf

set_option maxRecDepth 100000 in
set_option maxHeartbeats 16000000 in
theorem inverts_ok (l : List UInt8) (v : Value) (B : List Nat) (w : World) (hl : l.length ≤ 500) (hv : BAt w v B) (q : Nat × Nat) (ts : List TokD) (hR : scanS l = .ok ts q) :
    Calls Try.prog 6 #[.string (strL l), v] w fun e w' => e = .returned (.bool true) ∧ Below w.heap.size w w' := by
  have hs : (strL l).size = l.length := strL_size l
  have HSC := Lib.hid (Scan_any l w (by omega))
  have hgood := good_of l.length l (1, 1) q ts (Nat.le_refl _) hR
  have hfew := few_of l.length l (1, 1) q ts (Nat.le_refl _) hR
  rw [hR] at HSC
  obtain ⟨N, hN⟩ : ∃ N, ts.length = N := ⟨_, rfl⟩
  have HG : Hid (∀ d ∈ ts, GoodT d) := Lib.hid (fun d hd => (hgood d hd).1)
  have HWL : Hid (∀ d ∈ ts, (wholeOf d.k d.t).length ≤ 500) := Lib.hid (fun d hd => Nat.le_trans (hgood d hd).2 hl)
  have HTL : Hid (∀ d ∈ ts, d.t.length ≤ 500) := Lib.hid (fun d hd => by
    have h1 := (hgood d hd).2
    have h2 : d.t.length ≤ (wholeOf d.k d.t).length := by unfold wholeOf; split <;> simp; omega
    omega)
  have hN5 : N ≤ 500 := by omega
  have HJN : Hid (joinR (ts.map TokD.toI) = (joinD ts, 0)) := Lib.hid (joinR_good ts (fun d hd => (hgood d hd).1))
  obtain ⟨us, q2, hus, hkey⟩ := join_gives ts (fun d hd => (hgood d hd).1) (1, 1)
  have hjl : (joinD ts).length ≤ 1048576 := by
    rw [← joinT_eq]
    have := joinT_length (ts.map TokD.toI) (by
      intro x hx
      obtain ⟨d, hd, rfl⟩ := List.mem_map.1 hx
      exact Nat.le_trans (HTL.out d hd) (by omega))
    rw [List.length_map] at this
    omega
  have HSJ := fun wx => Lib.hid (Scan_any (joinD ts) wx hjl)
  have hus' : scanS (joinD ts) = .ok us q2 := hus
  rw [hus'] at HSJ
  have hulen := key_length hkey
  have HK1 := Lib.hid hkey
  have HUL := Lib.hid (hulen.trans hN)
  have HNN := Lib.hid hN
  obtain ⟨ao, cB, rfl, hB1, hB2, hB3, hB4, hB5⟩ := hv
  have HB5 : Hid (∀ wx, Below w.heap.size w wx → ∀ (j y : Nat), B[j]? = some y → y < 256 ∧ ∃ g o, ao = some ⟨g, o, none⟩ ∧ wx.cell? ⟨g, o + j, none⟩ = some (.int .u8 ((y : Nat) : Int))) := Lib.hid (fun wx hb j y hy => by
    obtain ⟨g, o, he, hc⟩ := hB5 j y hy
    exact ⟨hB4 y (List.mem_of_getElem? hy), g, o, he, (hb.cell (p := ⟨g, o + j, none⟩) (World.block_lt_of_cell? _ _ hc)).trans hc⟩)
  generalize hJD : joinD ts = JD at HJN HSJ
  have HJD := Lib.hid hJD
  clear hR hgood hfew hus hkey hjl hus' hulen hN hB4 hB5 hJD
  go_enter Try.func6, Try.ntmps6
  go_wp2_with fail
  refine HSC.out.mono ?_
  rintro e w2 ⟨hb2, v1, rfl, hrow⟩
  rw [HNN.out] at hrow
  obtain ⟨A, c, rfl⟩ := row_shape hrow
  have hal := (Below.refl w2.heap.size w2).alloc (Nat.le_refl _) (.cells #[.int .i64 0, .int .i64 0] 25)
  have hrow3 := Rest.row (S := fun _ => False) (Rest.below hal) hrow (fun _ _ e => e)
  obtain ⟨pb, epb⟩ : ∃ pb, w2.heap.size = pb := ⟨_, rfl⟩
  obtain ⟨w3, hw3⟩ : ∃ w3, w2.alloc (.cells #[.int .i64 0, .int .i64 0] 25) = w3 := ⟨_, rfl⟩
  rw [hw3] at hal hrow3
  have B3 := Lib.hid (hb2.trans (hal.mono hb2.size))
  have ROW3 := Lib.hid hrow3
  have W3 := Lib.hid hw3
  have EPB := Lib.hid epb
  have hta := toksAt_row hrow3 HNN.out.symm
  have JO := Lib.hid (join_any _ _ w3 hta (by rw [List.length_map]; have := HNN.out; omega) (by
    intro x hx
    obtain ⟨d, hd, rfl⟩ := List.mem_map.1 hx
    exact Nat.le_trans (HTL.out d hd) (by omega)))
  rw [HJN.out] at JO
  clear hal hw3 epb hb2 HSC hrow hrow3 hta
  go_wp2_with fail
  rw [W3.out, EPB.out]
  refine JO.out.mono ?_
  rintro e w4 ⟨rfl, hb4⟩
  have B4 := Lib.hid (B3.out.trans (hb4.mono B3.out.size))
  have ROW4 := Lib.hid (Rest.row (S := fun _ => False) (Rest.below hb4) ROW3.out (fun _ _ e => e))
  clear hb4 JO ROW3 B3 W3
  go_wp2_with fail
  refine ((HSJ _).out).mono ?_
  rintro e w5 ⟨hb5, v5, rfl, hrow5⟩
  rw [HUL.out] at hrow5
  obtain ⟨A1, c1, rfl⟩ := row_shape hrow5
  have hal := (Below.refl w5.heap.size w5).alloc (Nat.le_refl _) (.cells #[.int .i64 0, .int .i64 0] 25)
  have hrow6 := Rest.row (S := fun _ => False) (Rest.below hal) hrow5 (fun _ _ e => e)
  have hrow6' := Rest.row (S := fun _ => False) (Rest.below hal) (Rest.row (S := fun _ => False) (Rest.below hb5) ROW4.out (fun _ _ e => e)) (fun _ _ e => e)
  obtain ⟨pc, epc⟩ : ∃ pc, w5.heap.size = pc := ⟨_, rfl⟩
  obtain ⟨w6, hw6⟩ : ∃ w6, w5.alloc (.cells #[.int .i64 0, .int .i64 0] 25) = w6 := ⟨_, rfl⟩
  rw [hw6] at hal hrow6 hrow6'
  have B6 := Lib.hid (B4.out.trans ((hb5.trans (hal.mono hb5.size)).mono B4.out.size))
  have ROWA := Lib.hid hrow6'
  have ROWB := Lib.hid hrow6
  have W6 := Lib.hid hw6
  have EPC := Lib.hid epc
  clear hal hrow5 hrow6 hrow6' hw6 epc hb5 HSJ ROW4 B4
  go_upto_region 17 with fail
  rw [W6.out, EPC.out]
  go_wp2_with fail
  go_loopw [19, 20] (fun x19 x20 wr => ∃ (k : Nat) (ps : List (Nat × TokD)), k ≤ N ∧ x19 = .string (strL (wideT ps)) ∧ x20 = .int .i64 ((k : Nat) : Int) ∧ ps.map Prod.snd = ts.take k ∧ (wideT ps).length ≤ 1020 * k ∧ Below w6.heap.size w6 wr) (fun _ x20 _ => N - (intOf x20).toNat)
  case atStart => exact ⟨0, [], Nat.zero_le _, rfl, rfl, by simp, by simp [wideT], Below.refl _ _⟩
  case round =>
    obtain ⟨k, ps, hk, rfl, rfl, hps, hpl, hbw⟩ := hrel
    have PS := Lib.hid hps
    have BW := Lib.hid hbw
    clear hps hbw
    by_cases hlt : k < N
    · obtain ⟨d, hd⟩ : ∃ d, ts[k]? = some d := ⟨_, List.getElem?_eq_getElem (by have := HNN.out; omega)⟩
      have htk : ts.take (k + 1) = ts.take k ++ [d] := by
        obtain ⟨hk', rfl⟩ := List.getElem?_eq_some_iff.1 hd
        exact List.take_succ_eq_append_getElem hk'
      have hdm := List.mem_of_getElem? hd
      obtain ⟨g, cp, e1, _, _, hca, hcb, hx⟩ := row_cells ROWA.out (by omega)
      simp only [Value.slice.injEq, true_and] at e1
      obtain ⟨rfl, rfl⟩ := e1
      have hmc : c ≤ 9223372036854775807 := hcb
      have hta := fun wx (hb : Below w6.heap.size w6 wx) => toksAt_one (w := wx) (g := g) (o := k * 5) (c := c - k) d (by omega) (by unfold maxLen; omega) (fun j u hu => by
        have hj : j < 5 := by
          have := (List.getElem?_eq_some_iff.1 hu).1
          simpa [TokD.cells] using this
        have := hx (k * 5 + j) u (by rw [tokCells_get ts k d hd j hj]; exact hu)
        exact (hb.cell (p := ⟨g, k * 5 + j, none⟩) (World.block_lt_of_cell? _ _ this)).trans this)
      have hjo := fun wx (hb : Below w6.heap.size w6 wx) => join_any _ _ wx (hta wx hb) (by simp) (by
        intro x hx
        simp only [List.map_cons, List.map_nil, List.mem_singleton] at hx
        subst hx
        exact Nat.le_trans (HTL.out d hdm) (by omega))
      rw [joinR_good [d] (fun x hx => by rw [List.mem_singleton] at hx; subst hx; exact HG.out _ hdm), joinD_one] at hjo
      have JO := Lib.hid (hjo wr BW.out)
      have hwl := HWL.out d hdm
      have hkc1 : ((k : Nat) : Int) + 1 ≤ ((c : Nat) : Int) := by omega
      have hkc2 : ¬ c = k := by omega
      obtain ⟨W, hW⟩ : ∃ W, wholeOf d.k d.t = W := ⟨_, rfl⟩
      obtain ⟨X, hX⟩ : ∃ X, wideT ps = X := ⟨_, rfl⟩
      rw [hW] at JO hwl
      rw [hX] at hpl ⊢
      have HW := Lib.hid hW
      have HX := Lib.hid hX
      have HTK := Lib.hid htk
      clear hd htk hdm hca hcb hx hta hjo hW hX
      go_wp2_with fail
      refine JO.out.mono ?_
      rintro e w7 ⟨rfl, hb7⟩
      have BW7 := Lib.hid (BW.out.trans (hb7.mono BW.out.size))
      clear hb7 JO
      go_upto_if 142 with fail
      go_cut [23] from 123 to 160 (fun x23 wx => ∃ s : Nat, s < 4 ∧ x23 = .int .i64 ((s : Nat) : Int) ∧ wx = w7)
      case first =>
        by_cases hB0 : B.length = 0
        · obtain rfl : B = [] := List.length_eq_zero_iff.1 hB0
          clear hB0 HB5 hB2
          go_wp2_with fail
          go_meet
          case rel => exact ⟨0, by omega, rfl, rfl⟩
        · obtain ⟨r, hr⟩ : ∃ r, k % B.length = r := ⟨_, rfl⟩
          have hrl : r < B.length := by rw [← hr]; exact Nat.mod_lt _ (by omega)
          obtain ⟨y, hy⟩ : ∃ y, B[r]? = some y := ⟨_, List.getElem?_eq_getElem hrl⟩
          obtain ⟨hy256, gB, oB, rfl, hcell⟩ := HB5.out w7 (B6.out.trans (BW7.out.mono B6.out.size)) r y hy
          have e0 : decide ((0 : Int) < ((B.length : Nat) : Int)) = true := decide_eq_true (by omega)
          have e1 : decide (0 < B.length) = true := decide_eq_true (by omega)
          have hBn : B ≠ [] := fun h => hB0 (by rw [h]; rfl)
          have hnz : (((B.length : Nat) : Int) == 0) = false := by simp [hBn]
          have hrem1 : ((k : Nat) : Int) % ((B.length : Nat) : Int) = ((r : Nat) : Int) := by rw [← hr]; rfl
          have hrem2 : Int.tmod ((k : Nat) : Int) ((B.length : Nat) : Int) = ((r : Nat) : Int) := by rw [← hr]; rfl
          obtain ⟨s, hs4⟩ : ∃ s, y % 4 = s := ⟨_, rfl⟩
          have hm4 : ((y : Nat) : Int) % 4 = ((s : Nat) : Int) := by rw [← hs4]; rfl
          have hm5 : Int.tmod ((y : Nat) : Int) 4 = ((s : Nat) : Int) := by rw [← hs4]; rfl
          have hs5 : s < 4 := by omega
          have hr0 : (0 : Int) ≤ ((r : Nat) : Int) := by omega
          have hr1 : ((r : Nat) : Int) < ((B.length : Nat) : Int) := by omega
          have hBp : ¬ B.length = 0 := hB0
          clear hB0 hr hy hs4
          go_wp2_with fail
          go_meet
          case rel => exact ⟨s, hs5, rfl, rfl⟩
      case rest =>
        obtain ⟨s, hs4, rfl, hwc⟩ := hcut
        rw [hwc]
        clear hwc
        have PL := Lib.hid hpl
        have WL := Lib.hid hwl
        have hsX : (strL X).size = X.length := strL_size X
        have hsW : (strL W).size = W.length := strL_size W
        obtain ⟨Y1, hY1⟩ : ∃ Y, X ++ [32] = Y := ⟨_, rfl⟩
        obtain ⟨Y2, hY2⟩ : ∃ Y, Y1 ++ sepOf s = Y := ⟨_, rfl⟩
        obtain ⟨Y3, hY3⟩ : ∃ Y, Y2 ++ W = Y := ⟨_, rfl⟩
        have hsY : (strL Y1).size = X.length + 1 := by rw [strL_size, ← hY1]; simp
        have hc1 : strL X ++ (⟨#[32]⟩ : ByteArray) = strL Y1 := by rw [← hY1]; exact strL_append X [32]
        have hc3 : strL Y2 ++ strL W = strL Y3 := by rw [← hY3]; exact strL_append _ _
        have hX6 : X.length ≤ 510000 := by omega
        have hs3 : s = 0 ∨ s = 1 ∨ s = 2 ∨ s = 3 := by omega
        have hfin : ∀ wx, Below w7.heap.size w7 wx → ∃ (k' : Nat) (ps' : List (Nat × TokD)), k' ≤ N ∧ Value.string (strL Y3) = .string (strL (wideT ps')) ∧ Value.int .i64 (((k + 1 : Nat)) : Int) = .int .i64 ((k' : Nat) : Int) ∧ ps'.map Prod.snd = ts.take k' ∧ (wideT ps').length ≤ 1020 * k' ∧ Below w6.heap.size w6 wx := fun wx hb => by
          refine ⟨k + 1, ps ++ [(s, d)], hlt, ?_, rfl, ?_, ?_, BW7.out.trans (hb.mono BW7.out.size)⟩
          · rw [wideT_snoc, HX.out, HW.out, hY1, hY2, hY3]
          · rw [List.map_append, PS.out, HTK.out]; rfl
          · rw [wideT_snoc, HX.out, HW.out]
            have := sepOf_length s
            have := PL.out
            have := WL.out
            simp only [List.length_append, List.length_cons, List.length_nil]
            omega
        have FIN := Lib.hid hfin
        have HY2 := Lib.hid hY2
        have HY1 := Lib.hid hY1
        clear hfin hpl hs4 hY1 hY2 hY3
        rcases hs3 with rfl | rfl | rfl | rfl
        · have hc2 : strL Y1 ++ (⟨#[]⟩ : ByteArray) = strL Y2 := by rw [← HY2.out]; exact strL_append Y1 []
          have hsZ : (strL Y2).size = X.length + 1 := by rw [strL_size, ← HY2.out, ← HY1.out]; simp [sepOf]
          go_wp2_with fail
          go_roundw
          case rel =>
            obtain ⟨k', ps', h1, h2, h3, h4, h5, h6⟩ := FIN.out _ ((Below.refl w7.heap.size w7).alloc (Nat.le_refl _) (.cells #[.string ⟨#[]⟩, .string ⟨#[10]⟩, .string ⟨#[9]⟩, .string ⟨#[35, 32, 97, 32, 34, 32, 98, 10]⟩] 9))
            refine ⟨k', ps', h1, h2, ?_, h4, h5, h6⟩
            rw [← h3]; go_num
          case measure => simp [intOf]; omega
        · have hc2 : strL Y1 ++ (⟨#[10]⟩ : ByteArray) = strL Y2 := by rw [← HY2.out]; exact strL_append Y1 [10]
          have hsZ : (strL Y2).size = X.length + 2 := by rw [strL_size, ← HY2.out, ← HY1.out]; simp [sepOf]
          go_wp2_with fail
          go_roundw
          case rel =>
            obtain ⟨k', ps', h1, h2, h3, h4, h5, h6⟩ := FIN.out _ ((Below.refl w7.heap.size w7).alloc (Nat.le_refl _) (.cells #[.string ⟨#[]⟩, .string ⟨#[10]⟩, .string ⟨#[9]⟩, .string ⟨#[35, 32, 97, 32, 34, 32, 98, 10]⟩] 9))
            refine ⟨k', ps', h1, h2, ?_, h4, h5, h6⟩
            rw [← h3]; go_num
          case measure => simp [intOf]; omega
        · have hc2 : strL Y1 ++ (⟨#[9]⟩ : ByteArray) = strL Y2 := by rw [← HY2.out]; exact strL_append Y1 [9]
          have hsZ : (strL Y2).size = X.length + 2 := by rw [strL_size, ← HY2.out, ← HY1.out]; simp [sepOf]
          go_wp2_with fail
          go_roundw
          case rel =>
            obtain ⟨k', ps', h1, h2, h3, h4, h5, h6⟩ := FIN.out _ ((Below.refl w7.heap.size w7).alloc (Nat.le_refl _) (.cells #[.string ⟨#[]⟩, .string ⟨#[10]⟩, .string ⟨#[9]⟩, .string ⟨#[35, 32, 97, 32, 34, 32, 98, 10]⟩] 9))
            refine ⟨k', ps', h1, h2, ?_, h4, h5, h6⟩
            rw [← h3]; go_num
          case measure => simp [intOf]; omega
        · have hc2 : strL Y1 ++ (⟨#[35, 32, 97, 32, 34, 32, 98, 10]⟩ : ByteArray) = strL Y2 := by rw [← HY2.out]; exact strL_append Y1 [35, 32, 97, 32, 34, 32, 98, 10]
          have hsZ : (strL Y2).size = X.length + 9 := by rw [strL_size, ← HY2.out, ← HY1.out]; simp [sepOf]
          go_wp2_with fail
          go_roundw
          case rel =>
            obtain ⟨k', ps', h1, h2, h3, h4, h5, h6⟩ := FIN.out _ ((Below.refl w7.heap.size w7).alloc (Nat.le_refl _) (.cells #[.string ⟨#[]⟩, .string ⟨#[10]⟩, .string ⟨#[9]⟩, .string ⟨#[35, 32, 97, 32, 34, 32, 98, 10]⟩] 9))
            refine ⟨k', ps', h1, h2, ?_, h4, h5, h6⟩
            rw [← h3]; go_num
          case measure => simp [intOf]; omega
    · obtain rfl : k = N := by omega
      have hpt : ps.map Prod.snd = ts := by rw [PS.out, List.take_of_length_le (by have := HNN.out; omega)]
      obtain ⟨us2, q3, hus2, hk2⟩ := wide_gives [32, 35] (.inr rfl) ps (1, 1) (fun p hp => HG.out p.2 (by rw [← hpt]; exact List.mem_map_of_mem hp))
      rw [hpt] at hk2
      have hul2 : us2.length = k := (key_length hk2).trans HNN.out
      have hus2' : scanS (wideT ps ++ [32, 35]) = .ok us2 q3 := hus2
      obtain ⟨X, hX⟩ : ∃ X, wideT ps = X := ⟨_, rfl⟩
      rw [hX] at hus2' hpl ⊢
      have HS3 := Lib.hid (Scan_any (X ++ [32, 35]) wr (by simp; omega))
      rw [hus2'] at HS3
      have hsX : (strL X).size = X.length := strL_size X
      have hc1 : strL X ++ (⟨#[32, 35]⟩ : ByteArray) = strL (X ++ [32, 35]) := strL_append X [32, 35]
      have hX6 : X.length ≤ 510000 := by omega
      have HK2 := Lib.hid hk2
      have HUL2 := Lib.hid hul2
      clear hpt hus2 hk2 hul2 hus2' hX hpl hlt
      go_wp2_with fail
      refine HS3.out.mono ?_
      rintro e w8 ⟨hb8, v8, rfl, hrow8⟩
      rw [HUL2.out] at hrow8
      obtain ⟨A2, c2, rfl⟩ := row_shape hrow8
      have hal := (Below.refl w8.heap.size w8).alloc (Nat.le_refl _) (.cells #[.int .i64 0, .int .i64 0] 25)
      have hrow9 := Rest.row (S := fun _ => False) (Rest.below hal) hrow8 (fun _ _ e => e)
      have hb9 := BW.out.trans ((hb8.trans (hal.mono hb8.size)).mono BW.out.size)
      obtain ⟨pd, epd⟩ : ∃ pd, w8.heap.size = pd := ⟨_, rfl⟩
      obtain ⟨w9, hw9⟩ : ∃ w9, w8.alloc (.cells #[.int .i64 0, .int .i64 0] 25) = w9 := ⟨_, rfl⟩
      rw [hw9] at hal hrow9 hb9
      have B9 := Lib.hid (B6.out.trans (hb9.mono B6.out.size))
      have RA := Lib.hid (Rest.row (S := fun _ => False) (Rest.below hb9) ROWA.out (fun _ _ e => e))
      have RB := Lib.hid (Rest.row (S := fun _ => False) (Rest.below hb9) ROWB.out (fun _ _ e => e))
      have RC := Lib.hid hrow9
      have W9 := Lib.hid hw9
      have EPD := Lib.hid epd
      clear hal hrow8 hrow9 hw9 epd hb8 hb9 HS3 hc1 hsX hX6
      go_upto_region 29 with fail
      rw [W9.out, EPD.out]
      have hk5 : k ≤ 500 := hN5
      go_wp2_with fail
      go_loopw [27] (fun x27 wr => ∃ i : Nat, i ≤ k ∧ x27 = .int .i64 ((i : Nat) : Int) ∧ Below w9.heap.size w9 wr) (fun x27 _ => k - (intOf x27).toNat)
      case atStart => exact ⟨0, Nat.zero_le _, rfl, Below.refl _ _⟩
      case round =>
        obtain ⟨i, hi, rfl, hbw⟩ := hrel
        have BW := Lib.hid hbw
        clear hbw
        by_cases hlt : i < k
        · obtain ⟨d, hd⟩ : ∃ d, ts[i]? = some d := ⟨_, List.getElem?_eq_getElem (by have := HNN.out; omega)⟩
          obtain ⟨u, hu, huk, hut, huv⟩ := key_get HK1.out i d hd
          obtain ⟨u2, hu2, hu2k, hu2t, hu2v⟩ := key_get HK2.out i d hd
          obtain ⟨gA, cp1, e1, _, _, hca1, hcb1, hx1⟩ := row_cells RA.out (by omega)
          obtain ⟨gB, cp2, e2, _, _, hca2, hcb2, hx2⟩ := row_cells RB.out (by omega)
          obtain ⟨gC, cp3, e3, _, _, hca3, hcb3, hx3⟩ := row_cells RC.out (by omega)
          simp only [Value.slice.injEq, true_and] at e1 e2 e3
          obtain ⟨he1, rfl⟩ := e1
          obtain ⟨rfl, rfl⟩ := e2
          obtain ⟨rfl, rfl⟩ := e3
          subst he1
          have hm1 : c ≤ 9223372036854775807 := hcb1
          have hm2 : c1 ≤ 9223372036854775807 := hcb2
          have hm3 : c2 ≤ 9223372036854775807 := hcb3
          have hkeep : ∀ wx, Below w9.heap.size w9 wx → wx.cell? ⟨gA, i * 5, none⟩ = some (.int .i64 d.k) ∧ wx.cell? ⟨gA, i * 5 + 1, none⟩ = some (.string (strL d.t)) ∧ wx.cell? ⟨gA, i * 5 + 2, none⟩ = some (.int .i64 d.v) ∧ wx.cell? ⟨gA, i * 5 + 3, none⟩ = some (.int .i64 d.ln) ∧ wx.cell? ⟨gA, i * 5 + 4, none⟩ = some (.int .i64 d.cn) ∧ wx.cell? ⟨gB, i * 5, none⟩ = some (.int .i64 d.k) ∧ wx.cell? ⟨gB, i * 5 + 1, none⟩ = some (.string (strL d.t)) ∧ wx.cell? ⟨gB, i * 5 + 2, none⟩ = some (.int .i64 d.v) ∧ wx.cell? ⟨gB, i * 5 + 3, none⟩ = some (.int .i64 u.ln) ∧ wx.cell? ⟨gB, i * 5 + 4, none⟩ = some (.int .i64 u.cn) ∧ wx.cell? ⟨gC, i * 5, none⟩ = some (.int .i64 d.k) ∧ wx.cell? ⟨gC, i * 5 + 1, none⟩ = some (.string (strL d.t)) ∧ wx.cell? ⟨gC, i * 5 + 2, none⟩ = some (.int .i64 d.v) ∧ wx.cell? ⟨gC, i * 5 + 3, none⟩ = some (.int .i64 u2.ln) ∧ wx.cell? ⟨gC, i * 5 + 4, none⟩ = some (.int .i64 u2.cn) := fun wx hb => by
            have y : ∀ (L : List TokD) (g : Nat) (z : TokD), L[i]? = some z → (∀ j v, (tokCells L)[j]? = some v → w9.cell? ⟨g, j, none⟩ = some v) → ∀ n v, n < 5 → z.cells[n]? = some v → wx.cell? ⟨g, i * 5 + n, none⟩ = some v := fun L g z hz hx n v hn hv => by
              have := hx (i * 5 + n) v (by rw [tokCells_get L i z hz n hn]; exact hv)
              exact (hb.cell (p := ⟨g, i * 5 + n, none⟩) (World.block_lt_of_cell? _ _ this)).trans this
            have ya := y ts gA d hd hx1
            have yb := y us gB u hu hx2
            have yc := y us2 gC u2 hu2 hx3
            have hub : u.cells = [.int .i64 d.k, .string (strL d.t), .int .i64 d.v, .int .i64 u.ln, .int .i64 u.cn] := by unfold TokD.cells; rw [huk, hut, huv]
            have huc : u2.cells = [.int .i64 d.k, .string (strL d.t), .int .i64 d.v, .int .i64 u2.ln, .int .i64 u2.cn] := by unfold TokD.cells; rw [hu2k, hu2t, hu2v]
            rw [hub] at yb
            rw [huc] at yc
            exact ⟨ya 0 _ (by omega) rfl, ya 1 _ (by omega) rfl, ya 2 _ (by omega) rfl, ya 3 _ (by omega) rfl, ya 4 _ (by omega) rfl, yb 0 _ (by omega) rfl, yb 1 _ (by omega) rfl, yb 2 _ (by omega) rfl, yb 3 _ (by omega) rfl, yb 4 _ (by omega) rfl, yc 0 _ (by omega) rfl, yc 1 _ (by omega) rfl, yc 2 _ (by omega) rfl, yc 3 _ (by omega) rfl, yc 4 _ (by omega) rfl⟩
          have KEEP := Lib.hid hkeep
          have hi0 : (0 : Int) ≤ ((i : Nat) : Int) := by omega
          have hi1 : ((i : Nat) : Int) < ((k : Nat) : Int) := by omega
          obtain ⟨a0, a1, a2, a3, a4, b0, b1, b2, b3, b4, d0, d1, d2, d3, d4⟩ := hkeep wr BW.out
          clear hkeep hd hu hu2 huk hut huv hu2k hu2t hu2v hx1 hx2 hx3 hca1 hcb1 hca2 hcb2 hca3 hcb3
          go_upto_region 34 with fail
          go_region_held (fun w' => w'.cell? ⟨gA, i * 5, none⟩ = some (.int .i64 d.k) ∧ w'.cell? ⟨gA, i * 5 + 1, none⟩ = some (.string (strL d.t)) ∧ w'.cell? ⟨gA, i * 5 + 2, none⟩ = some (.int .i64 d.v) ∧ w'.cell? ⟨gA, i * 5 + 3, none⟩ = some (.int .i64 d.ln) ∧ w'.cell? ⟨gA, i * 5 + 4, none⟩ = some (.int .i64 d.cn) ∧ w'.cell? ⟨gB, i * 5, none⟩ = some (.int .i64 d.k) ∧ w'.cell? ⟨gB, i * 5 + 1, none⟩ = some (.string (strL d.t)) ∧ w'.cell? ⟨gB, i * 5 + 2, none⟩ = some (.int .i64 d.v) ∧ w'.cell? ⟨gB, i * 5 + 3, none⟩ = some (.int .i64 u.ln) ∧ w'.cell? ⟨gB, i * 5 + 4, none⟩ = some (.int .i64 u.cn) ∧ w'.cell? ⟨gC, i * 5, none⟩ = some (.int .i64 d.k) ∧ w'.cell? ⟨gC, i * 5 + 1, none⟩ = some (.string (strL d.t)) ∧ w'.cell? ⟨gC, i * 5 + 2, none⟩ = some (.int .i64 d.v) ∧ w'.cell? ⟨gC, i * 5 + 3, none⟩ = some (.int .i64 u2.ln) ∧ w'.cell? ⟨gC, i * 5 + 4, none⟩ = some (.int .i64 u2.cn)) (first | exact KEEP.out _ BW.out.drew | exact KEEP.out _ HB5.out | exact KEEP.out _ HB6.out) (first | (go_at_call 16; refine (equal_same _ _ _ _ _ _ _ _).mono ?_; rintro e w5 ⟨rfl, hb5⟩; first | (have HB6 := Lib.hid (HB5.out.trans (hb5.mono HB5.out.size)); clear hb5) | (have HB5 := Lib.hid (BW.out.drew.trans (hb5.mono BW.out.size)); clear hb5)))
          all_goals
            clear a0 a1 a2 a3 a4 b0 b1 b2 b3 b4 d0 d1 d2 d3 d4
            go_wp2_with fail
            go_roundw
            case rel => exact ⟨i + 1, hlt, by go_num, HB6.out⟩
            case measure => simp [intOf]; omega
        · obtain rfl : i = k := by omega
          go_wp2_with fail
          refine (known_any _).mono ?_
          rintro e w6 ⟨rfl, hb6⟩
          have HB6 := Lib.hid (BW.out.trans (hb6.mono BW.out.size))
          clear hb6
          go_wp2_with fail
          go_ret
          exact ⟨rfl, B9.out.trans (HB6.out.mono B9.out.size)⟩
end Go.Proofs.Ytgdjfifnnhfonaa
