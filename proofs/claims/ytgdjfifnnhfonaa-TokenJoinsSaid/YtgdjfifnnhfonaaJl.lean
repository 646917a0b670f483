/- The walk of TokenJoins: it returns true and changes nothing that was there. Conditions: the tokens lie in memory. -/
import Derived.Test.YtgdjfifnnhfonaaJb
import Derived.Deep.RegionHeld3
namespace Go.Proofs.Ytgdjfifnnhfonaa
open Go.RowKit Go.Shelf

/-- What the first loop has made. -/
structure JW (w W : World) (L : List TokI) (A : Option Addr) (c k : Nat) : Prop where
  row : W.ownsRow w.heap.size 38 4 (.slice A k c) k (riCells (L.take k))
  below : Below w.heap.size w W
  le : k ≤ L.length
  few : ∀ d ∈ L.take k, d.t.length ≤ 50

set_option maxRecDepth 100000 in
set_option maxHeartbeats 8000000 in
theorem joins_walk (v : Value) (L : List TokI) (w : World) (h : ToksAt w v L) (hLm : L.length ≤ 9223372036854775807) :
    Calls Try.prog 4 #[v] w fun e w' => e = .returned (.bool true) ∧ Below w.heap.size w w' := by
  obtain ⟨ao, c, rfl⟩ : ∃ ao c, v = .slice ao L.length c := by
    rcases h with ⟨rfl, ao, c, e⟩ | ⟨g, o, c, e, _⟩
    · exact ⟨ao, c, e⟩
    · exact ⟨_, _, e⟩
  by_cases h30 : 30 < L.length
  · clear h
    go_enter Try.func4, Try.ntmps4
    go_wp2_with fail
    refine (known_any _).mono ?_
    rintro e w2 ⟨rfl, hb2⟩
    have HB2 := Lib.hid hb2
    clear hb2
    go_wp2_with fail
    go_ret
    exact ⟨rfl, HB2.out⟩
  · have hel : ∀ (i : Nat) (d : TokI), L[i]? = some d → ∃ g o, ao = some ⟨g, o, none⟩ ∧ L.length ≤ c ∧ c ≤ maxLen ∧ ∀ wr, Below w.heap.size w wr → wr.cell? ⟨g, o + i * 5, none⟩ = some (.int .i64 d.k) ∧ wr.cell? ⟨g, o + i * 5 + 1, none⟩ = some (.string (strL d.t)) ∧ wr.cell? ⟨g, o + i * 5 + 2, none⟩ = some (.int .i64 d.v) ∧ wr.cell? ⟨g, o + i * 5 + 3, none⟩ = some (.int .i64 d.ln) ∧ wr.cell? ⟨g, o + i * 5 + 4, none⟩ = some (.int .i64 d.cn) := by
      intro i d hi
      rcases h with ⟨rfl, _⟩ | ⟨g, o, c', e, h1, h2, h3⟩
      · simp at hi
      · simp only [Value.slice.injEq, true_and] at e
        obtain ⟨rfl, rfl⟩ := e
        refine ⟨g, o, rfl, h1, h2, fun wr hb => ?_⟩
        have y : ∀ j u, d.cells[j]? = some u → wr.cell? ⟨g, o + i * 5 + j, none⟩ = some u := fun j u hu => by
          have := h3 i d hi j u hu
          exact (hb.cell (p := ⟨g, o + i * 5 + j, none⟩) (World.block_lt_of_cell? _ _ this)).trans this
        exact ⟨y 0 _ rfl, y 1 _ rfl, y 2 _ rfl, y 3 _ rfl, y 4 _ rfl⟩
    have HEL := Lib.hid hel
    have HTA := Lib.hid (fun wr (hb : Below w.heap.size w wr) => h.below hb)
    obtain ⟨i0, hi, hz0, hz1, hz2⟩ := info_parts Try.info38
    have HI := Lib.hid hi
    have HZ := Lib.hid (And.intro hz0 (And.intro hz1 hz2))
    have J0 := Lib.hid (show JW w w L none 0 0 from ⟨⟨by simp [riCells], .inl ⟨rfl, rfl⟩⟩, Below.refl _ _, Nat.zero_le _, by simp⟩)
    clear h hel hi hz0 hz1 hz2
    go_enter Try.func4, Try.ntmps4
    go_wp2_with fail
    go_loopw [3, 4] (fun x3 x4 wr => ∃ (k : Nat) (A : Option Addr) (c2 : Nat), x3 = .slice A k c2 ∧ x4 = .int .i64 ((k : Nat) : Int) ∧ JW w wr L A c2 k) (fun _ x4 _ => L.length - (intOf x4).toNat)
    case atStart => exact ⟨0, none, 0, rfl, rfl, J0.out⟩
    case round =>
      obtain ⟨k, A, c2, rfl, rfl, hJ⟩ := hrel
      have hk := hJ.le
      have J := Lib.hid hJ
      clear hJ
      by_cases hlt : k < L.length
      · obtain ⟨d, hd⟩ : ∃ d, L[k]? = some d := ⟨_, List.getElem?_eq_getElem hlt⟩
        have htk : L.take (k + 1) = L.take k ++ [d] := by
          obtain ⟨hk', rfl⟩ := List.getElem?_eq_some_iff.1 hd
          exact List.take_succ_eq_append_getElem hk'
        obtain ⟨g, o, rfl, hc1, hc2, hx⟩ := HEL.out k d hd
        obtain ⟨x0, x1, x2, x3, x4⟩ := hx wr J.out.below
        have hmx : c ≤ 9223372036854775807 := hc2
        have hst : (strL d.t).size = d.t.length := strL_size d.t
        have HTK := Lib.hid htk
        clear htk hd hx hc2
        by_cases h50 : 50 < d.t.length
        · have e50 : decide ((50 : Int) < ((d.t.length : Nat) : Int)) = true := decide_eq_true (by omega)
          go_wp2_with fail
          refine (known_any _).mono ?_
          rintro e w2 ⟨rfl, hb2⟩
          have HB2 := Lib.hid (J.out.below.trans (hb2.mono J.out.below.size))
          clear hb2
          go_wp2_with fail
          go_ret
          exact ⟨rfl, HB2.out⟩
        · have e50 : decide ((50 : Int) < ((d.t.length : Nat) : Int)) = false := decide_eq_false (by omega)
          have H50 := Lib.hid h50
          clear h50
          go_wp2_with fail
          refine (lawAs_any d.k d.v d.ln d.cn d.t _).mono ?_
          rintro e w2 ⟨rfl, hb2⟩
          have hrow2 := Rest.row (S := fun _ => False) (Rest.below hb2) J.out.row (fun _ _ e => e)
          have hbw2 := J.out.below.trans (hb2.mono J.out.below.size)
          have hal := (Below.refl w2.heap.size w2).alloc (Nat.le_refl _) (.cells #[.int .i64 d.k, .string (strL d.t), .int .i64 d.v, .int .i64 0] 38)
          have hcn : ∀ j u, d.rcells[j]? = some u → (w2.alloc (.cells #[.int .i64 d.k, .string (strL d.t), .int .i64 d.v, .int .i64 0] 38)).cell? ((⟨w2.heap.size, 0, none⟩ : Addr).add j) = some u := fun j u hu => by
            rw [add_at, Nat.zero_add, cell_new_at w2 _ 38 _ j rfl]
            simpa [TokI.rcells] using hu
          have hone : ∀ u ∈ d.rcells, u.oneCell' = true := fun u hu => by
            simp only [TokI.rcells, List.mem_cons, List.not_mem_nil, or_false] at hu
            rcases hu with rfl | rfl | rfl | rfl <;> rfl
          have hrow := Rest.row (S := fun _ => False) (Rest.below hal) hrow2 (fun _ _ e => e)
          have HCN := Lib.hid hcn
          have HONE := Lib.hid hone
          have HROW := Lib.hid hrow
          have HAL := Lib.hid (hbw2.trans (hal.mono hbw2.size))
          have SZ := Lib.hid (Nat.le_trans hbw2.size hal.size)
          clear hal hcn hone hrow hrow2 hbw2 hb2 x0 x1 x2 x3 x4
          go_wp2_with (at_builtin; go_must (refine wpList_append_own_at _ rfl _ _ 29 rfl w.heap.size 38 i0 (.agg #[.int .i64 0, .string ⟨#[]⟩, .int .i64 0, .int .i64 0]) 4 40 Try.underlying29 HI.out HZ.out.1 HZ.out.2.1 HZ.out.2.2 rfl (by decide) _ _ _ rfl HROW.out ⟨w2.heap.size, 0, none⟩ 1 1 d.rcells rfl rfl HCN.out HONE.out (by unfold maxLen; omega) (by omega) SZ.out ?_); go_must (intro v1 w6 hown1 hgrow1 _ _); have HO := Lib.hid hown1; have HG := Lib.hid hgrow1; clear hown1 hgrow1)
          have hr6 : Rest (fun q => some q = (Value.slice A k c2).ownBlock) _ w6 := (Rest.refl _ _).grown HG.out (fun q e _ => e.symm)
          have hb6 := HAL.out.trans (hr6.toBelow w.heap.size SZ.out (fun q hq e => by have := row_ge J.out.row q e.symm; omega))
          obtain ⟨A6, c6, rfl⟩ := row_shape HO.out
          have hJ6 : JW w w6 L A6 c6 (k + 1) := ⟨by rw [HTK.out, riCells_snoc]; exact HO.out, hb6, hlt, fun x hx => by
            rw [HTK.out] at hx
            rcases List.mem_append.1 hx with h | h
            · exact J.out.few x h
            · rw [List.mem_singleton] at h; subst h; have := H50.out; omega⟩
          have J6 := Lib.hid hJ6
          clear hr6 hb6 hJ6
          go_wp2_with fail
          go_roundw
          case rel => exact ⟨k + 1, A6, c6, by first | rfl | go_num, by go_num, J6.out⟩
          case measure => simp [intOf]; omega
      · obtain rfl : k = L.length := by omega
        have hrow := J.out.row
        have hfew := J.out.few
        rw [List.take_length] at hrow hfew
        have ROW := Lib.hid hrow
        have FEW := Lib.hid hfew
        have B1 := Lib.hid J.out.below
        have JO := Lib.hid (join_any (.slice ao L.length c) L wr (HTA.out wr J.out.below) (by omega) (fun d hd => Nat.le_trans (hfew d hd) (by omega)))
        clear hrow hfew J
        go_wp2_with fail
        refine JO.out.mono ?_
        rintro e w2 ⟨rfl, hb2⟩
        have hrow2 := Rest.row (S := fun _ => False) (Rest.below hb2) ROW.out (fun _ _ e => e)
        have RJ := Lib.hid (refJoin_any w.heap.size A c2 L w2 hrow2 (by omega) (fun d hd => Nat.le_trans (FEW.out d hd) (by omega)))
        have B2 := Lib.hid (B1.out.trans (hb2.mono B1.out.size))
        have ROW2 := Lib.hid hrow2
        clear hb2 hrow2 JO ROW
        generalize joinR L = RJR at RJ ⊢
        obtain ⟨jt, jc⟩ := RJR
        go_wp2_with fail
        refine RJ.out.mono ?_
        rintro e w4 ⟨rfl, hb4⟩
        have ROW4 := Lib.hid (Rest.row (S := fun _ => False) (Rest.below hb4) ROW2.out (fun _ _ e => e))
        have B4 := Lib.hid (B2.out.trans (hb4.mono B2.out.size))
        have hmc2 : c2 ≤ 9223372036854775807 := by
          rcases ROW4.out.2 with ⟨hn, _⟩ | ⟨g, cap, cur, hv, _, _, _, h2, _⟩
          · simp only [Value.slice.injEq] at hn; omega
          · simp only [Value.slice.injEq] at hv; have : c2 ≤ maxLen := by omega
            exact this
        clear hb4 RJ ROW2 B1 B2
        go_wp2_with fail
        go_loopw [9] (fun x9 wr => ∃ i : Nat, i ≤ L.length ∧ x9 = .int .i64 ((i : Nat) : Int) ∧ Below w4.heap.size w4 wr) (fun x9 _ => L.length - (intOf x9).toNat)
        case atStart => exact ⟨0, Nat.zero_le _, rfl, Below.refl _ _⟩
        case round =>
          obtain ⟨i, hi, rfl, hbw⟩ := hrel
          have BW := Lib.hid hbw
          clear hbw
          by_cases hlt2 : i < L.length
          · obtain ⟨wo, hwo⟩ : ∃ wo : World, wo = wr := ⟨_, rfl⟩
            rw [← hwo] at BW ⊢
            clear hwo
            go_wp2_with fail
            go_loopw [10] (fun x10 wx => ∃ j : Nat, j ≤ L.length ∧ x10 = .int .i64 ((j : Nat) : Int) ∧ Below w4.heap.size w4 wx) (fun x10 _ => L.length - (intOf x10).toNat)
            case atStart => exact ⟨0, Nat.zero_le _, rfl, BW.out⟩
            case round =>
              obtain ⟨j, hj, rfl, hbx⟩ := hrel
              have BX := Lib.hid hbx
              clear hbx BW
              by_cases hlt3 : j < L.length
              · obtain ⟨da, hda⟩ : ∃ d, L[i]? = some d := ⟨_, List.getElem?_eq_getElem hlt2⟩
                obtain ⟨db, hdb⟩ : ∃ d, L[j]? = some d := ⟨_, List.getElem?_eq_getElem hlt3⟩
                obtain ⟨g, o, rfl, hca, hcb, hxa⟩ := HEL.out i da hda
                obtain ⟨g', o', e', _, _, hxb⟩ := HEL.out j db hdb
                simp only [Option.some.injEq, Addr.mk.injEq, and_true] at e'
                obtain ⟨rfl, rfl⟩ := e'
                obtain ⟨g2, cp2, e2, _, _, hca2, hcb2, hx2⟩ := row_cells ROW4.out (by omega)
                simp only [Value.slice.injEq, true_and] at e2
                obtain ⟨rfl, rfl⟩ := e2
                have hmc : c ≤ 9223372036854775807 := hcb
                have hkeep : ∀ wx, Below w4.heap.size w4 wx → wx.cell? ⟨g, o + i * 5, none⟩ = some (.int .i64 da.k) ∧ wx.cell? ⟨g, o + i * 5 + 1, none⟩ = some (.string (strL da.t)) ∧ wx.cell? ⟨g, o + i * 5 + 2, none⟩ = some (.int .i64 da.v) ∧ wx.cell? ⟨g, o + i * 5 + 3, none⟩ = some (.int .i64 da.ln) ∧ wx.cell? ⟨g, o + i * 5 + 4, none⟩ = some (.int .i64 da.cn) ∧ wx.cell? ⟨g, o + j * 5, none⟩ = some (.int .i64 db.k) ∧ wx.cell? ⟨g, o + j * 5 + 1, none⟩ = some (.string (strL db.t)) ∧ wx.cell? ⟨g, o + j * 5 + 2, none⟩ = some (.int .i64 db.v) ∧ wx.cell? ⟨g, o + j * 5 + 3, none⟩ = some (.int .i64 db.ln) ∧ wx.cell? ⟨g, o + j * 5 + 4, none⟩ = some (.int .i64 db.cn) ∧ wx.cell? ⟨g2, i * 4, none⟩ = some (.int .i64 da.k) ∧ wx.cell? ⟨g2, i * 4 + 1, none⟩ = some (.string (strL da.t)) ∧ wx.cell? ⟨g2, i * 4 + 2, none⟩ = some (.int .i64 da.v) ∧ wx.cell? ⟨g2, i * 4 + 3, none⟩ = some (.int .i64 0) ∧ wx.cell? ⟨g2, j * 4, none⟩ = some (.int .i64 db.k) ∧ wx.cell? ⟨g2, j * 4 + 1, none⟩ = some (.string (strL db.t)) ∧ wx.cell? ⟨g2, j * 4 + 2, none⟩ = some (.int .i64 db.v) ∧ wx.cell? ⟨g2, j * 4 + 3, none⟩ = some (.int .i64 0) := fun wx hb => by
                  have hbw : Below w.heap.size w wx := B4.out.trans (hb.mono B4.out.size)
                  obtain ⟨a0, a1, a2, a3, a4⟩ := hxa wx hbw
                  obtain ⟨b0, b1, b2, b3, b4⟩ := hxb wx hbw
                  have y : ∀ q dd, L[q]? = some dd → ∀ n u, n < 4 → dd.rcells[n]? = some u → wx.cell? ⟨g2, q * 4 + n, none⟩ = some u := fun q dd hq n u hn hu => by
                    have := hx2 (q * 4 + n) u (by rw [riCells_get _ q _ hq n hn]; exact hu)
                    exact (hb.cell (p := ⟨g2, q * 4 + n, none⟩) (World.block_lt_of_cell? _ _ this)).trans this
                  exact ⟨a0, a1, a2, a3, a4, b0, b1, b2, b3, b4, y i da hda 0 _ (by omega) rfl, y i da hda 1 _ (by omega) rfl, y i da hda 2 _ (by omega) rfl, y i da hda 3 _ (by omega) rfl, y j db hdb 0 _ (by omega) rfl, y j db hdb 1 _ (by omega) rfl, y j db hdb 2 _ (by omega) rfl, y j db hdb 3 _ (by omega) rfl⟩
                have KEEP := Lib.hid hkeep
                have HE := fun wy => Lib.hid (equal_any da.k da.v da.ln da.cn db.k db.v db.ln db.cn da.t db.t wy)
                have HF := fun wy => Lib.hid (refEqual_any da.k da.v 0 db.k db.v 0 da.t db.t wy)
                generalize eqTok da.k da.v db.k db.v da.t db.t = EQ at HE HF
                have hi0 : (0 : Int) ≤ ((i : Nat) : Int) := by omega
                have hi1 : ((i : Nat) : Int) < ((L.length : Nat) : Int) := by omega
                have hj0 : (0 : Int) ≤ ((j : Nat) : Int) := by omega
                have hj1 : ((j : Nat) : Int) < ((L.length : Nat) : Int) := by omega
                obtain ⟨x0, x1, x2, x3, x4, y0, y1, y2, y3, y4, z0, z1, z2, z3, u0, u1, u2', u3'⟩ := hkeep wr BX.out
                clear hkeep hda hdb hxa hxb hx2 hcb hca2 hcb2
                go_upto_region 20 with fail
                go_region_held (fun w' => w'.cell? ⟨g, o + i * 5, none⟩ = some (.int .i64 da.k) ∧ w'.cell? ⟨g, o + i * 5 + 1, none⟩ = some (.string (strL da.t)) ∧ w'.cell? ⟨g, o + i * 5 + 2, none⟩ = some (.int .i64 da.v) ∧ w'.cell? ⟨g, o + i * 5 + 3, none⟩ = some (.int .i64 da.ln) ∧ w'.cell? ⟨g, o + i * 5 + 4, none⟩ = some (.int .i64 da.cn) ∧ w'.cell? ⟨g, o + j * 5, none⟩ = some (.int .i64 db.k) ∧ w'.cell? ⟨g, o + j * 5 + 1, none⟩ = some (.string (strL db.t)) ∧ w'.cell? ⟨g, o + j * 5 + 2, none⟩ = some (.int .i64 db.v) ∧ w'.cell? ⟨g, o + j * 5 + 3, none⟩ = some (.int .i64 db.ln) ∧ w'.cell? ⟨g, o + j * 5 + 4, none⟩ = some (.int .i64 db.cn) ∧ w'.cell? ⟨g2, i * 4, none⟩ = some (.int .i64 da.k) ∧ w'.cell? ⟨g2, i * 4 + 1, none⟩ = some (.string (strL da.t)) ∧ w'.cell? ⟨g2, i * 4 + 2, none⟩ = some (.int .i64 da.v) ∧ w'.cell? ⟨g2, i * 4 + 3, none⟩ = some (.int .i64 0) ∧ w'.cell? ⟨g2, j * 4, none⟩ = some (.int .i64 db.k) ∧ w'.cell? ⟨g2, j * 4 + 1, none⟩ = some (.string (strL db.t)) ∧ w'.cell? ⟨g2, j * 4 + 2, none⟩ = some (.int .i64 db.v) ∧ w'.cell? ⟨g2, j * 4 + 3, none⟩ = some (.int .i64 0)) (first | exact KEEP.out _ BX.out.drew | exact KEEP.out _ HB5.out | exact KEEP.out _ HB6.out) (first | (go_at_call 16; refine ((HE _).out).mono ?_; rintro e w5 ⟨rfl, hb5⟩; have HB5 := Lib.hid (by first | exact HB6.out.trans (hb5.mono HB6.out.size) | exact BX.out.drew.trans (hb5.mono BX.out.size) : Below w4.heap.size w4 w5); clear hb5) | (go_at_call 17; refine ((HF _).out).mono ?_; rintro e w6 ⟨rfl, hb6⟩; have HB6 := Lib.hid (by first | exact HB5.out.trans (hb6.mono HB5.out.size) | exact BX.out.drew.trans (hb6.mono BX.out.size) : Below w4.heap.size w4 w6); clear hb6))
                all_goals
                  clear x0 x1 x2 x3 x4 y0 y1 y2 y3 y4 z0 z1 z2 z3 u0 u1 u2' u3'
                  have hne : (EQ != EQ) = false := by simp
                  go_wp2_with fail
                  go_roundw
                  case rel => first | exact ⟨j + 1, hlt3, by go_num, HB6.out⟩ | exact ⟨j + 1, hlt3, by go_num, HB5.out⟩
                  case measure => simp [intOf]; omega
              · obtain rfl : j = L.length := by omega
                go_wp2_with fail
                go_roundw
                case rel => exact ⟨i + 1, hlt2, by go_num, BX.out⟩
                case measure => simp [intOf]; omega
          · obtain rfl : i = L.length := by omega
            go_wp2_with fail
            refine (known_any _).mono ?_
            rintro e w6 ⟨rfl, hb6⟩
            have HB6 := Lib.hid (BW.out.trans (hb6.mono BW.out.size))
            clear hb6
            go_wp2_with fail
            go_ret
            exact ⟨rfl, B4.out.trans (HB6.out.mono B4.out.size)⟩
end Go.Proofs.Ytgdjfifnnhfonaa
