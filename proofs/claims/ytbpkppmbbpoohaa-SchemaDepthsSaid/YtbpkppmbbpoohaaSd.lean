/- Which sizes are valid. Conditions: the terms lie in memory. -/
import Derived.Test.YtbpkppmbbpoohaaSb
import Derived.StillTailTactics
namespace Go.Proofs.Ytbpkppmbbpoohaa
open Go.RowKit Go.Shelf

def okT (pre : List TermD) (d : TermD) : Bool := nameB d.f && ((d.k != 0) && (inB d.k (-1048576) 1048576 && decide (idxOf (fun x : TermD => x.f == d.f) pre < 0)))
def okFrom : List TermD → List TermD → Bool
  | _, [] => true
  | pre, d :: D => okT pre d && okFrom (pre ++ [d]) D
def validS (base : Int) (D : List TermD) : Bool := (inB base (-1048576) 1048576 && decide (D.length ≤ 4)) && okFrom [] D

/-- A size's two cells. -/
theorem szbox (w : World) (x0 x1 : Value) : (w.alloc (.cells #[x0, x1] 25)).heap[w.heap.size]? = some (.cells #[x0, x1] 25 (0, 0)) := heap_alloc_new w _

theorem ok_step {pre : List TermD} {d : TermD} {D : List TermD} (h : okT pre d = true) : okFrom pre (d :: D) = okFrom (pre ++ [d]) D := by simp [okFrom, h]
theorem ok_stop {pre : List TermD} {d : TermD} {D : List TermD} (h : okT pre d = false) : okFrom pre (d :: D) = false := by simp [okFrom, h]
theorem drop_of {α : Type} {D : List α} {i : Nat} {d : α} (h : D[i]? = some d) : D.drop i = d :: D.drop (i + 1) ∧ D.take (i + 1) = D.take i ++ [d] := by
  obtain ⟨hl, rfl⟩ := List.getElem?_eq_some_iff.1 h
  exact ⟨List.drop_eq_getElem_cons hl, List.take_succ_eq_append_getElem hl⟩
theorem SlAt.take {α : Type} {cs : α → List Value} {s c : Nat} {S : Nat → Prop} {W : World} {A : Option Addr} {D : List α} (h : SlAt cs s S W A c D) (i : Nat) (c' : Nat) (hc : i ≤ c') (hc2 : c' ≤ 9223372036854775807) : SlAt cs s S W A c' (D.take i) :=
  ⟨by rw [List.length_take]; omega, hc2, fun j d hj => h.2.2 j d (by
    rw [List.getElem?_take] at hj
    split at hj
    · exact hj
    · cases hj)⟩

set_option maxRecDepth 100000 in
set_option maxHeartbeats 3200000 in
theorem sizeValid (base : Int) (A : Option Addr) (c : Nat) (D : List TermD) (S : Nat → Prop) (w : World) (h : SlAt TermD.cells 2 S w A c D) :
    Calls Try.prog 105 #[.agg #[.int .i64 base, .slice A D.length c]] w fun e w' => e = .returned (.bool (validS base D)) ∧ Below w.heap.size w w' := by
  have hl : D.length ≤ 9223372036854775807 := Nat.le_trans h.1 h.2.1
  have hal := below_alloc w (.cells #[.int .i64 base, .slice A D.length c] 25)
  have hbx := szbox w (.int .i64 base) (.slice A D.length c)
  have h1 := h.below hal
  obtain ⟨b, eb⟩ : ∃ b, w.heap.size = b := ⟨_, rfl⟩
  obtain ⟨w1, hw1⟩ : ∃ w1, w.alloc (.cells #[.int .i64 base, .slice A D.length c] 25) = w1 := ⟨_, rfl⟩
  rw [hw1] at hal hbx h1
  rw [eb] at hbx
  have hbl : b < w1.heap.size := (Array.getElem?_eq_some_iff.1 hbx).1
  have KEEP : Hid (∀ wx, Below w1.heap.size w1 wx → wx.cell? ⟨b, 0, none⟩ = some (.int .i64 base) ∧ wx.cell? ⟨b, 1, none⟩ = some (.slice A D.length c)) := Lib.hid (fun wx hb => by
    have := (hb.block b hbl).trans hbx
    exact ⟨by simp [World.cell?, this], by simp [World.cell?, this]⟩)
  have HW := Lib.hid hw1
  have EB := Lib.hid eb
  have HAL := Lib.hid hal
  have H1 := Lib.hid h1
  obtain ⟨y0, y1⟩ := KEEP.out w1 (Below.refl _ _)
  have HS := fun w => Lib.hid (sizeSmall base w)
  obtain ⟨s0, hs0⟩ : ∃ s0, inB base (-1048576) 1048576 = s0 := ⟨_, rfl⟩
  obtain ⟨e0, he0⟩ : ∃ e0, decide (((D.length : Nat) : Int) ≤ 4) = e0 := ⟨_, rfl⟩
  have he1 : decide (D.length ≤ 4) = e0 := by rw [← he0]; exact decide_eq_decide.2 (by omega)
  obtain ⟨R, hR⟩ : ∃ R, validS base D = R := ⟨_, rfl⟩
  have hR2 := hR
  unfold validS at hR2
  rw [hs0, he1] at hR2
  rw [hs0] at HS
  rw [hR]
  have HR := Lib.hid hR2
  clear h hw1 eb hal hbx h1 hs0 hR hR2 hbl he1
  cases hc : (s0 && e0) with
  | false =>
    have hRf : R = false := by rw [← HR.out, hc]; rfl
    have HALL : ∀ wx g, wx.heap[g]? = some (.cells #[.bool s0, .bool e0] 4 (0, 0)) → Hid (Calls Try.prog 118 #[.slice (some ⟨g, 0, none⟩) 2 2] wx fun e w' => e = .returned (.bool false) ∧ w' = wx) := fun wx g h => Lib.hid (by
      have := all2 wx g s0 e0 _ h
      rwa [hc] at this)
    subst hRf
    clear hc HR
    go_enter Try.func105, Try.ntmps105
    go_upto_region 1 with fail
    rw [HW.out, EB.out]
    go_region_held (fun w' => w'.cell? ⟨b, 0, none⟩ = some (.int .i64 base) ∧ w'.cell? ⟨b, 1, none⟩ = some (.slice A D.length c)) (first | exact KEEP.out _ (Below.refl _ _).drew | exact KEEP.out _ (below_alloc _ _).drew | exact KEEP.out _ (below_alloc _ _) | exact KEEP.out _ (Below.refl _ _)) (first | (go_at_call 119; refine ((HS _).out).mono ?_; rintro e w' ⟨rfl, rfl⟩) | (go_at_call 118; refine ((HALL _ _ (by exact heap_alloc_new w1 _)).out).mono ?_; rintro e w2 ⟨rfl, rfl⟩))
    all_goals
      go_wp2_with fail
      go_ret
      exact ⟨rfl, HAL.out.trans ((below_alloc _ _).drew.mono HAL.out.size)⟩
  | true =>
    have hRt : R = okFrom [] D := by rw [← HR.out, hc]; rfl
    have HRT := Lib.hid hRt
    have HALL : ∀ wx g, wx.heap[g]? = some (.cells #[.bool s0, .bool e0] 4 (0, 0)) → Hid (Calls Try.prog 118 #[.slice (some ⟨g, 0, none⟩) 2 2] wx fun e w' => e = .returned (.bool true) ∧ w' = wx) := fun wx g h => Lib.hid (by
      have := all2 wx g s0 e0 _ h
      rwa [hc] at this)
    clear hc HR hRt
    go_enter Try.func105, Try.ntmps105
    go_upto_region 1 with fail
    rw [HW.out, EB.out]
    go_region_held (fun w' => w'.cell? ⟨b, 0, none⟩ = some (.int .i64 base) ∧ w'.cell? ⟨b, 1, none⟩ = some (.slice A D.length c)) (first | exact KEEP.out _ (Below.refl _ _).drew | exact KEEP.out _ (below_alloc _ _).drew | exact KEEP.out _ (below_alloc _ _) | exact KEEP.out _ (Below.refl _ _)) (first | (go_at_call 119; refine ((HS _).out).mono ?_; rintro e w' ⟨rfl, rfl⟩) | (go_at_call 118; refine ((HALL _ _ (by exact heap_alloc_new w1 _)).out).mono ?_; rintro e w2 ⟨rfl, rfl⟩))
    all_goals
      have hb2 : Below w1.heap.size w1 (w1.alloc (.cells #[.bool s0, .bool e0] 4)).drew := (below_alloc _ _).drew
      obtain ⟨w2, hw2⟩ : ∃ w2, (w1.alloc (.cells #[.bool s0, .bool e0] 4)).drew = w2 := ⟨_, rfl⟩
      rw [hw2] at hb2 ⊢
      obtain ⟨z0, z1⟩ := KEEP.out w2 hb2
      have HB2 := Lib.hid hb2
      clear hb2 hw2 y0 y1 HALL HS he0
      go_wp2_with fail
      clear z0 z1
      go_loopw [18] (fun x18 wr => ∃ i : Nat, i ≤ D.length ∧ x18 = .int .i64 ((i : Nat) : Int) ∧ okFrom [] D = okFrom (D.take i) (D.drop i) ∧ Below w1.heap.size w1 wr) (fun x18 _ => D.length - (intOf x18).toNat)
      case atStart => exact ⟨0, Nat.zero_le _, rfl, by simp, HB2.out⟩
      case round =>
        obtain ⟨i, hi, rfl, hok, hbw⟩ := hrel
        have HOK := Lib.hid hok
        have HBW := Lib.hid hbw
        clear hok hbw HB2
        by_cases hlt : i < D.length
        · obtain ⟨d, hd⟩ : ∃ d, D[i]? = some d := ⟨_, List.getElem?_eq_getElem hlt⟩
          have hSr := H1.out.rest (Rest.below HBW.out) (fun _ _ e => e)
          have hcl := hSr.1
          have hcm := hSr.2.1
          obtain ⟨g, o, rfl, hx⟩ := hSr.at_ hd
          have x0 : wr.cell? ⟨g, o + i * 2, none⟩ = some (.string (strL d.f)) := hx 0 _ rfl
          have x1 : wr.cell? ⟨g, o + i * 2 + 1, none⟩ = some (.int .i64 d.k) := hx 1 _ rfl
          have hal5 := below_alloc wr (.cells #[.string (strL d.f), .int .i64 d.k] 76)
          have hbx5 : (wr.alloc (.cells #[.string (strL d.f), .int .i64 d.k] 76)).heap[wr.heap.size]? = some (.cells #[.string (strL d.f), .int .i64 d.k] 76 (0, 0)) := heap_alloc_new wr _
          obtain ⟨tb, etb⟩ : ∃ tb, wr.heap.size = tb := ⟨_, rfl⟩
          obtain ⟨w5, hw5⟩ : ∃ w5, wr.alloc (.cells #[.string (strL d.f), .int .i64 d.k] 76) = w5 := ⟨_, rfl⟩
          rw [hw5] at hal5 hbx5
          rw [etb] at hbx5
          have hb5 := HBW.out.trans (hal5.mono HBW.out.size)
          have htl : tb < w5.heap.size := (Array.getElem?_eq_some_iff.1 hbx5).1
          have KEEP5 : Hid (∀ wx, Below w5.heap.size w5 wx → wx.cell? ⟨b, 0, none⟩ = some (.int .i64 base) ∧ wx.cell? ⟨b, 1, none⟩ = some (.slice (some ⟨g, o, none⟩) D.length c) ∧ wx.cell? ⟨tb, 0, none⟩ = some (.string (strL d.f)) ∧ wx.cell? ⟨tb, 1, none⟩ = some (.int .i64 d.k)) := Lib.hid (fun wx hb => by
            have h1 := (hb.block tb htl).trans hbx5
            obtain ⟨h2, h3⟩ := KEEP.out wx (hb5.trans (hb.mono hb5.size))
            exact ⟨h2, h3, by simp [World.cell?, h1], by simp [World.cell?, h1]⟩)
          have hti : (D.take i).length = i := by rw [List.length_take]; omega
          have HFIND : Hid (∀ wx, Below w5.heap.size w5 wx → Calls Try.prog 120 #[.slice (some ⟨g, o, none⟩) i c, .string (strL d.f)] wx fun e w' => e = .returned (.int .i64 (idxOf (fun x : TermD => x.f == d.f) (D.take i))) ∧ Below wx.heap.size wx w') := Lib.hid (fun wx hb => by
            have := sizeFind (some ⟨g, o, none⟩) c (D.take i) d.f S wx (((hSr.rest (Rest.below hal5) (fun _ _ e => e)).rest (Rest.below hb) (fun _ _ e => e)).take i c (by omega) hcm)
            rwa [hti] at this)
          have HNAME := fun wx => Lib.hid (sizeName d.f wx)
          have HSM := fun wx => Lib.hid (sizeSmall d.k wx)
          obtain ⟨n1, hn1⟩ : ∃ n1, nameB d.f = n1 := ⟨_, rfl⟩
          obtain ⟨n2, hn2⟩ : ∃ n2, (d.k != 0) = n2 := ⟨_, rfl⟩
          obtain ⟨n3, hn3⟩ : ∃ n3, inB d.k (-1048576) 1048576 = n3 := ⟨_, rfl⟩
          obtain ⟨kf, hkf⟩ : ∃ kf, idxOf (fun x : TermD => x.f == d.f) (D.take i) = kf := ⟨_, rfl⟩
          obtain ⟨n4, hn4⟩ : ∃ n4, decide (kf < 0) = n4 := ⟨_, rfl⟩
          have hokT : okT (D.take i) d = (n1 && (n2 && (n3 && n4))) := by unfold okT; rw [hn1, hn2, hn3, hkf, hn4]
          rw [hn1] at HNAME
          rw [hn3] at HSM
          rw [hkf] at HFIND
          have HOKT := Lib.hid hokT
          have HDR := Lib.hid (drop_of hd)
          have W5 := Lib.hid hw5
          have ETB := Lib.hid etb
          have B5 := Lib.hid hb5
          have HC := Lib.hid hcl
          clear hd hSr hx hal5 hbx5 hw5 etb hb5 htl hti hn1 hn3 hkf hokT hcl
          obtain ⟨q0, q1, q2, q3⟩ := KEEP5.out w5 (Below.refl _ _)
          have hii : ((i : Nat) : Int) ≤ 9223372036854775807 := by omega
          have hic : i ≤ c := by have := HC.out; omega
          have hkn : decide ((kf : Int) < 0) = n4 := hn4
          cases hv : (n1 && (n2 && (n3 && n4))) with
          | false =>
            have hRf : R = false := by
              rw [HRT.out, HOK.out, HDR.out.1, ok_stop]
              rw [HOKT.out, hv]
            have HRF := Lib.hid hRf
            have HALL : ∀ wx g, wx.heap[g]? = some (.cells #[.bool n1, .bool n2, .bool n3, .bool n4] 4 (0, 0)) → Hid (Calls Try.prog 118 #[.slice (some ⟨g, 0, none⟩) 4 4] wx fun e w' => e = .returned (.bool false) ∧ w' = wx) := fun wx g h => Lib.hid (by
              have := all4 wx g n1 n2 n3 n4 _ h
              rwa [hv] at this)
            clear hRf hv
            go_upto_region 6 with fail
            rw [W5.out, ETB.out]
            go_region_held (fun w' => w'.cell? ⟨b, 0, none⟩ = some (.int .i64 base) ∧ w'.cell? ⟨b, 1, none⟩ = some (.slice (some ⟨g, o, none⟩) D.length c) ∧ w'.cell? ⟨tb, 0, none⟩ = some (.string (strL d.f)) ∧ w'.cell? ⟨tb, 1, none⟩ = some (.int .i64 d.k)) (first | exact KEEP5.out _ (Below.refl _ _).drew | exact KEEP5.out _ HB7.out | exact KEEP5.out _ (HB7.out.trans ((below_alloc _ _).mono HB7.out.size)).drew | exact KEEP5.out _ (HB7.out.trans ((below_alloc _ _).mono HB7.out.size)) | exact KEEP5.out _ (Below.refl _ _)) (first | (go_at_call 94; refine ((HNAME _).out).mono ?_; rintro e w' ⟨rfl, rfl⟩) | (go_at_call 119; refine ((HSM _).out).mono ?_; rintro e w' ⟨rfl, rfl⟩) | (go_at_call 120; refine (HFIND.out _ (by first | exact (Below.refl _ _).drew | exact Below.refl _ _)).mono ?_; rintro e w7 ⟨rfl, hb7⟩; have HB7 := Lib.hid (by first | exact (Below.refl _ _).drew.trans hb7 | exact hb7 : Below w5.heap.size w5 w7); clear hb7) | (go_at_call 118; refine ((HALL _ _ (by exact heap_alloc_new _ _)).out).mono ?_; rintro e w8 ⟨rfl, rfl⟩))
            all_goals
              go_wp2_with fail
              go_ret
              exact ⟨ret_bool HRF.out.symm, HAL.out.trans ((B5.out.trans ((HB7.out.trans ((below_alloc _ _).mono HB7.out.size)).mono B5.out.size)).mono HAL.out.size)⟩
          | true =>
            have hst : okFrom [] D = okFrom (D.take (i + 1)) (D.drop (i + 1)) := by
              rw [HOK.out, HDR.out.1, HDR.out.2, ok_step]
              rw [HOKT.out, hv]
            have HST := Lib.hid hst
            have HALL : ∀ wx g, wx.heap[g]? = some (.cells #[.bool n1, .bool n2, .bool n3, .bool n4] 4 (0, 0)) → Hid (Calls Try.prog 118 #[.slice (some ⟨g, 0, none⟩) 4 4] wx fun e w' => e = .returned (.bool true) ∧ w' = wx) := fun wx g h => Lib.hid (by
              have := all4 wx g n1 n2 n3 n4 _ h
              rwa [hv] at this)
            clear hst hv
            go_upto_region 6 with fail
            rw [W5.out, ETB.out]
            go_region_held (fun w' => w'.cell? ⟨b, 0, none⟩ = some (.int .i64 base) ∧ w'.cell? ⟨b, 1, none⟩ = some (.slice (some ⟨g, o, none⟩) D.length c) ∧ w'.cell? ⟨tb, 0, none⟩ = some (.string (strL d.f)) ∧ w'.cell? ⟨tb, 1, none⟩ = some (.int .i64 d.k)) (first | exact KEEP5.out _ (Below.refl _ _).drew | exact KEEP5.out _ HB7.out | exact KEEP5.out _ (HB7.out.trans ((below_alloc _ _).mono HB7.out.size)).drew | exact KEEP5.out _ (HB7.out.trans ((below_alloc _ _).mono HB7.out.size)) | exact KEEP5.out _ (Below.refl _ _)) (first | (go_at_call 94; refine ((HNAME _).out).mono ?_; rintro e w' ⟨rfl, rfl⟩) | (go_at_call 119; refine ((HSM _).out).mono ?_; rintro e w' ⟨rfl, rfl⟩) | (go_at_call 120; refine (HFIND.out _ (by first | exact (Below.refl _ _).drew | exact Below.refl _ _)).mono ?_; rintro e w7 ⟨rfl, hb7⟩; have HB7 := Lib.hid (by first | exact (Below.refl _ _).drew.trans hb7 | exact hb7 : Below w5.heap.size w5 w7); clear hb7) | (go_at_call 118; refine ((HALL _ _ (by exact heap_alloc_new _ _)).out).mono ?_; rintro e w8 ⟨rfl, rfl⟩))
            all_goals
              go_wp2_with fail
              go_roundw
              case rel => exact ⟨i + 1, by omega, by go_num, HST.out, B5.out.trans ((HB7.out.trans ((below_alloc _ _).mono HB7.out.size)).mono B5.out.size)⟩
              case measure => simp [intOf]; omega
        · obtain rfl : i = D.length := by omega
          have hRe : R = true := by
            rw [HRT.out, HOK.out, List.drop_length]
            rfl
          have HRE := Lib.hid hRe
          clear hRe
          go_wp2_with fail
          go_ret
          exact ⟨ret_bool HRE.out.symm, HAL.out.trans (HBW.out.mono HAL.out.size)⟩
end Go.Proofs.Ytbpkppmbbpoohaa
