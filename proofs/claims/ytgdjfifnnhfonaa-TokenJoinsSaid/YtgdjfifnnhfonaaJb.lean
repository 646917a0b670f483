/- The document's Join: the texts of tokens with spaces between them. Conditions: the tokens lie in memory; at most 1000 of them, with texts of at most 1000 bytes. -/
import Derived.Test.YtgdjfifnnhfonaaJa
namespace Go.Proofs.Ytgdjfifnnhfonaa
open Go.RowKit Go.Shelf

/-- The cells of the document's tokens for these. -/
def TokI.rcells (d : TokI) : List Value := [.int .i64 d.k, .string (strL d.t), .int .i64 d.v, .int .i64 0]
def riCells (L : List TokI) : List Value := L.flatMap TokI.rcells
theorem riCells_length (L : List TokI) : (riCells L).length = L.length * 4 := by
  induction L with
  | nil => rfl
  | cons d L ih => simp [riCells, TokI.rcells] at ih ⊢; omega
theorem riCells_snoc (L : List TokI) (d : TokI) : riCells (L ++ [d]) = riCells L ++ d.rcells := by simp [riCells]
theorem riCells_get (D : List TokI) (j : Nat) (d : TokI) (h : D[j]? = some d) (i : Nat) (hi : i < 4) : (riCells D)[j * 4 + i]? = d.rcells[i]? := by
  obtain ⟨hj', hd⟩ := List.getElem?_eq_some_iff.1 h
  have htk : D.take (j + 1) = D.take j ++ [d] := by rw [← hd]; exact List.take_succ_eq_append_getElem hj'
  have e : D = D.take j ++ [d] ++ D.drop (j + 1) := by
    rw [← htk, List.take_append_drop]
  have hc : riCells D = riCells (D.take j) ++ (d.rcells ++ riCells (D.drop (j + 1))) := by
    conv => lhs; rw [e]
    simp [riCells]
  have hl : (riCells (D.take j)).length = j * 4 := by rw [riCells_length, List.length_take]; omega
  rw [hc, List.getElem?_append_right (by omega), hl, Nat.add_sub_cancel_left, List.getElem?_append_left (by simpa [TokI.rcells] using hi)]

set_option maxRecDepth 100000 in
set_option maxHeartbeats 6400000 in
theorem refJoin_any (base : Nat) (A : Option Addr) (c : Nat) (L : List TokI) (w : World) (hrow : w.ownsRow base 38 4 (.slice A L.length c) L.length (riCells L)) (hL : L.length ≤ 1000) (ht : ∀ d ∈ L, d.t.length ≤ 1000) :
    Calls Try.prog 15 #[.slice A L.length c] w fun e w' => e = .returned (.tuple #[.string (strL (joinR L).1), .int .i64 ((joinR L).2 : Nat)]) ∧ Below w.heap.size w w' := by
  have HROW := Lib.hid hrow
  have HT := Lib.hid ht
  clear hrow ht
  obtain ⟨R, hR⟩ : ∃ R, joinR L = R := ⟨_, rfl⟩
  rw [hR]
  have HR := Lib.hid hR
  have hs0 : (⟨#[]⟩ : ByteArray) = strL [] := rfl
  clear hR
  go_enter Try.func15, Try.ntmps15
  go_wp2_with fail
  go_loopw [4, 5] (fun s x wr => ∃ k : Nat, k ≤ L.length ∧ s = .string (strL (joinT (L.take k))) ∧ x = .int .i64 ((k : Nat) : Int) ∧ (L.take k).all TokI.ok = true ∧ Below w.heap.size w wr) (fun _ x _ => L.length - (intOf x).toNat)
  case atStart => exact ⟨0, Nat.zero_le _, rfl, rfl, by simp, Below.refl _ _⟩
  case round =>
    obtain ⟨k, hk, rfl, rfl, hall, hbw⟩ := hrel
    have BW := Lib.hid hbw
    have ALL := Lib.hid hall
    clear hall hbw hs0
    by_cases hlt : k < L.length
    · obtain ⟨d, hd⟩ : ∃ d, L[k]? = some d := ⟨_, List.getElem?_eq_getElem hlt⟩
      have htk : L.take (k + 1) = L.take k ++ [d] := by
        obtain ⟨hk', rfl⟩ := List.getElem?_eq_some_iff.1 hd
        exact List.take_succ_eq_append_getElem hk'
      have hdt : d.t.length ≤ 1000 := HT.out d (List.mem_of_getElem? hd)
      have hdm : d ∈ L := List.mem_of_getElem? hd
      obtain ⟨g, cp, e1, _, _, hca, hcb, hx⟩ := row_cells HROW.out (by omega)
      simp only [Value.slice.injEq, true_and] at e1
      obtain ⟨rfl, rfl⟩ := e1
      have hkeep : ∀ wx, Below w.heap.size w wx → wx.cell? ⟨g, k * 4, none⟩ = some (.int .i64 d.k) ∧ wx.cell? ⟨g, k * 4 + 1, none⟩ = some (.string (strL d.t)) ∧ wx.cell? ⟨g, k * 4 + 2, none⟩ = some (.int .i64 d.v) ∧ wx.cell? ⟨g, k * 4 + 3, none⟩ = some (.int .i64 0) := fun wx hb => by
        have y2 : ∀ n u, n < 4 → d.rcells[n]? = some u → wx.cell? ⟨g, k * 4 + n, none⟩ = some u := fun n u hn hu => by
          have := hx (k * 4 + n) u (by rw [riCells_get _ k _ hd n hn]; exact hu)
          exact (hb.cell (p := ⟨g, k * 4 + n, none⟩) (World.block_lt_of_cell? _ _ this)).trans this
        exact ⟨y2 0 _ (by omega) rfl, y2 1 _ (by omega) rfl, y2 2 _ (by omega) rfl, y2 3 _ (by omega) rfl⟩
      have KEEP := Lib.hid hkeep
      obtain ⟨x0, x1, x2, x3⟩ := hkeep wr BW.out
      have ONE := fun wx => Lib.hid (refOne_any d.k d.v 0 d.t wx (by omega))
      have WHO := fun wx => Lib.hid (refWhole_any d.k d.v 0 d.t wx (by omega))
      have hmx : c ≤ 9223372036854775807 := hcb
      have hXl : (joinT (L.take k)).length ≤ 1003000 := by
        have := joinT_length (L.take k) (fun d hd => HT.out d (List.mem_of_mem_take hd))
        rw [List.length_take] at this
        omega
      have hwl : (wholeOf d.k d.t).length ≤ 1002 := by have := wholeOf_length d.k d.t; omega
      have HTK := Lib.hid htk
      have HDM := Lib.hid hdm
      have LEN := Lib.hid (And.intro hXl hwl)
      obtain ⟨W, hW⟩ : ∃ W, wholeOf d.k d.t = W := ⟨_, rfl⟩
      rw [hW] at WHO hwl
      have HW := Lib.hid hW
      obtain ⟨X, hX⟩ : ∃ X, joinT (L.take k) = X := ⟨_, rfl⟩
      rw [hX] at hXl ⊢
      have HX := Lib.hid hX
      clear hkeep hx hca hcb htk hd hdm hW hX
      cases hv : validB d.k d.t d.v with
      | false =>
        have hfin : R = ([], 2) := by
          rw [← HR.out]
          unfold joinR
          rw [if_neg]
          intro h
          have h2 : validB d.k d.t d.v = true := List.all_eq_true.1 h d HDM.out
          rw [hv] at h2
          cases h2
        have HFIN := Lib.hid hfin
        rw [hv] at ONE
        clear hv hfin
        go_wp2_with fail
        refine ((ONE _).out).mono ?_
        rintro e w3 ⟨rfl, hb3⟩
        have B3 := Lib.hid (BW.out.trans (hb3.mono BW.out.size))
        clear hb3
        go_wp2_with fail
        go_ret2
        rw [HFIN.out]
        exact ⟨rfl, B3.out⟩
      | true =>
        have HV := Lib.hid hv
        rw [hv] at ONE
        clear hv
        have hgo : ∀ wx, Below w.heap.size w wx → joinT (L.take (k + 1)) = (if k = 0 then [] else X ++ [32]) ++ W ∧ (L.take (k + 1)).all TokI.ok = true := fun wx _ => by
          constructor
          · rw [HTK.out, joinT_snoc]
            by_cases h0 : k = 0
            · rw [if_pos (by rw [h0]; rfl), if_pos h0]
              exact HW.out
            · rw [if_neg (by intro h; rw [List.take_eq_nil_iff] at h; rcases h with h | h; exact h0 h; rw [h] at hlt; simp at hlt), if_neg h0, HX.out]
              have : d.whole = W := HW.out
              rw [this]; simp
          · rw [HTK.out, List.all_append, ALL.out]
            simp only [List.all_cons, List.all_nil, Bool.and_true, Bool.true_and]
            exact HV.out
        have HGO := Lib.hid hgo
        clear hgo
        go_wp2_with fail
        refine ((ONE _).out).mono ?_
        rintro e w3 ⟨rfl, hb3⟩
        have B3 := Lib.hid (BW.out.trans (hb3.mono BW.out.size))
        clear hb3 x0 x1 x2 x3
        obtain ⟨x0, x1, x2, x3⟩ := KEEP.out w3 B3.out
        by_cases hk0 : k = 0
        · have hd1 : decide ((0 : Int) < ((k : Nat) : Int)) = false := decide_eq_false (by omega)
          have hd2 : decide (0 < k) = false := decide_eq_false (by omega)
          have hX0 : X = [] := by rw [← HX.out, hk0]; rfl
          have HK0 := Lib.hid hk0
          subst hX0
          have hc1 : strL [] ++ strL W = strL W := by rw [strL_append]; rfl
          have hz1 : (9223372036854775807 < (strL []).size + (strL W).size) = False := eq_false (by rw [strL_size, strL_size]; simp; omega)
          clear hk0
          go_wp2_with fail
          refine ((WHO _).out).mono ?_
          rintro e w4 ⟨rfl, hb4⟩
          have B4 := Lib.hid (B3.out.trans (hb4.mono B3.out.size))
          clear hb4 x0 x1 x2 x3
          go_wp2_with fail
          go_roundw
          case rel => exact ⟨k + 1, hlt, by rw [(HGO.out _ B4.out).1, if_pos HK0.out]; rfl, by go_num, (HGO.out _ B4.out).2, B4.out⟩
          case measure => simp [intOf]; omega
        · have hd1 : decide ((0 : Int) < ((k : Nat) : Int)) = true := decide_eq_true (by omega)
          have hd2 : decide (0 < k) = true := decide_eq_true (by omega)
          have HK0 := Lib.hid hk0
          have hc1 : strL X ++ (⟨#[32]⟩ : ByteArray) = strL (X ++ [32]) := strL_append X [32]
          have hc2 : strL (X ++ [32]) ++ strL W = strL (X ++ [32] ++ W) := strL_append _ _
          have hz1 : (9223372036854775807 < (strL X).size + (⟨#[32]⟩ : ByteArray).size) = False := eq_false (by rw [strL_size]; show ¬ 9223372036854775807 < X.length + 1; omega)
          have hz2 : (9223372036854775807 < (strL (X ++ [32])).size + (strL W).size) = False := eq_false (by rw [strL_size, strL_size]; simp; omega)
          have hsX : (strL X).size = X.length := strL_size X
          have hsW : (strL W).size = W.length := strL_size W
          have hsY : (strL (X ++ [32])).size = X.length + 1 := by rw [strL_size]; simp
          clear hk0 hz1 hz2
          go_wp2_with fail
          refine ((WHO _).out).mono ?_
          rintro e w4 ⟨rfl, hb4⟩
          have B4 := Lib.hid (B3.out.trans (hb4.mono B3.out.size))
          clear hb4 x0 x1 x2 x3
          go_wp2_with fail
          go_roundw
          case rel => exact ⟨k + 1, hlt, by rw [(HGO.out _ B4.out).1, if_neg HK0.out]; simp, by go_num, (HGO.out _ B4.out).2, B4.out⟩
          case measure => simp [intOf]; omega
    · obtain rfl : k = L.length := by omega
      rw [List.take_length] at ALL ⊢
      have hfin : R = (joinT L, 0) := by rw [← HR.out]; unfold joinR; rw [if_pos ALL.out]
      have HFIN := Lib.hid hfin
      clear hfin
      go_wp2_with fail
      go_ret2
      rw [HFIN.out]
      exact ⟨rfl, BW.out⟩
end Go.Proofs.Ytgdjfifnnhfonaa
