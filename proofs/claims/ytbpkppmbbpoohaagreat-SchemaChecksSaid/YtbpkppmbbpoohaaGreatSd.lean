/- Which sizes are valid. Conditions: the terms lie in memory. Maps keyed by texts, with whatever elements: looking up and storing. Conditions: the map lies in memory. The names of a size's terms. Conditions: the terms lie in memory. -/
import Derived.Test.YtbpkppmbbpoohaaGreatM
import Derived.StillTailTactics
import Derived.WideMake
import Derived.Maps.AppendAt
import Derived.Lib.SmallJoins
namespace Go.Proofs.YtbpkppmbbpoohaaGreat
open Go.RowKit Go.Shelf

def okT (pre : List TermD) (d : TermD) : Bool := nameB d.f && ((d.k != 0) && (inB d.k (-1048576) 1048576 && decide (idxOf (fun x : TermD => x.f == d.f) pre < 0)))
def okFrom : List TermD → List TermD → Bool
  | _, [] => true
  | pre, d :: D => okT pre d && okFrom (pre ++ [d]) D
def validS (base : Int) (D : List TermD) : Bool := (inB base (-1048576) 1048576 && decide (D.length ≤ 4)) && okFrom [] D

/-- A size's two cells. -/
theorem szbox (w : World) (x0 x1 : Value) : (w.alloc (.cells #[x0, x1] 52)).heap[w.heap.size]? = some (.cells #[x0, x1] 52 (0, 0)) := heap_alloc_new w _

theorem ok_step {pre : List TermD} {d : TermD} {D : List TermD} (h : okT pre d = true) : okFrom pre (d :: D) = okFrom (pre ++ [d]) D := by simp [okFrom, h]
theorem ok_stop {pre : List TermD} {d : TermD} {D : List TermD} (h : okT pre d = false) : okFrom pre (d :: D) = false := by simp [okFrom, h]
theorem drop_of {α : Type} {D : List α} {i : Nat} {d : α} (h : D[i]? = some d) : D.drop i = d :: D.drop (i + 1) ∧ D.take (i + 1) = D.take i ++ [d] := by
  obtain ⟨hl, rfl⟩ := List.getElem?_eq_some_iff.1 h
  exact ⟨List.drop_eq_getElem_cons hl, List.take_succ_eq_append_getElem hl⟩
theorem SlAt.take {α : Type} {cs : α → List Value} {s c : Nat} {S : Nat → Prop} {W : World} {A : Option Addr} {D : List α} (h : SlAt cs s S W A c D) (i : Nat) (c' : Nat) (hc : i ≤ c') (hc2 : c' ≤ 9223372036854775807) : SlAt cs s S W A c' (D.take i) :=
  ⟨by rw [List.length_take]; omega, hc2, fun j d hj => h.2.2 j d (by
    rw [List.getElem?_take] at hj
    split at hj
    · exact hj
    · cases hj)⟩

set_option maxRecDepth 100000 in
set_option maxHeartbeats 3200000 in
theorem sizeValid (base : Int) (A : Option Addr) (c : Nat) (D : List TermD) (S : Nat → Prop) (w : World) (h : SlAt TermD.cells 2 S w A c D) :
    Calls Tryz.prog 136 #[.agg #[.int .i64 base, .slice A D.length c]] w fun e w' => e = .returned (.bool (validS base D)) ∧ Below w.heap.size w w' := by
  have hl : D.length ≤ 9223372036854775807 := Nat.le_trans h.1 h.2.1
  have hal := below_alloc w (.cells #[.int .i64 base, .slice A D.length c] 52)
  have hbx := szbox w (.int .i64 base) (.slice A D.length c)
  have h1 := h.below hal
  obtain ⟨b, eb⟩ : ∃ b, w.heap.size = b := ⟨_, rfl⟩
  obtain ⟨w1, hw1⟩ : ∃ w1, w.alloc (.cells #[.int .i64 base, .slice A D.length c] 52) = w1 := ⟨_, rfl⟩
  rw [hw1] at hal hbx h1
  rw [eb] at hbx
  have hbl : b < w1.heap.size := (Array.getElem?_eq_some_iff.1 hbx).1
  have KEEP : Hid (∀ wx, Below w1.heap.size w1 wx → wx.cell? ⟨b, 0, none⟩ = some (.int .i64 base) ∧ wx.cell? ⟨b, 1, none⟩ = some (.slice A D.length c)) := Lib.hid (fun wx hb => by
    have := (hb.block b hbl).trans hbx
    exact ⟨by simp [World.cell?, this], by simp [World.cell?, this]⟩)
  have HW := Lib.hid hw1
  have EB := Lib.hid eb
  have HAL := Lib.hid hal
  have H1 := Lib.hid h1
  obtain ⟨y0, y1⟩ := KEEP.out w1 (Below.refl _ _)
  have HS := fun w => Lib.hid (sizeSmall base w)
  obtain ⟨s0, hs0⟩ : ∃ s0, inB base (-1048576) 1048576 = s0 := ⟨_, rfl⟩
  obtain ⟨e0, he0⟩ : ∃ e0, decide (((D.length : Nat) : Int) ≤ 4) = e0 := ⟨_, rfl⟩
  have he1 : decide (D.length ≤ 4) = e0 := by rw [← he0]; exact decide_eq_decide.2 (by omega)
  obtain ⟨R, hR⟩ : ∃ R, validS base D = R := ⟨_, rfl⟩
  have hR2 := hR
  unfold validS at hR2
  rw [hs0, he1] at hR2
  rw [hs0] at HS
  rw [hR]
  have HR := Lib.hid hR2
  clear h hw1 eb hal hbx h1 hs0 hR hR2 hbl he1
  cases hc : (s0 && e0) with
  | false =>
    have hRf : R = false := by rw [← HR.out, hc]; rfl
    have HALL : ∀ wx g, wx.heap[g]? = some (.cells #[.bool s0, .bool e0] 4 (0, 0)) → Hid (Calls Tryz.prog 152 #[.slice (some ⟨g, 0, none⟩) 2 2] wx fun e w' => e = .returned (.bool false) ∧ w' = wx) := fun wx g h => Lib.hid (by
      have := all2 wx g s0 e0 _ h
      rwa [hc] at this)
    subst hRf
    clear hc HR
    go_enter Tryz.func136, Tryz.ntmps136
    go_upto_region 1 with fail
    rw [HW.out, EB.out]
    go_region_held (fun w' => w'.cell? ⟨b, 0, none⟩ = some (.int .i64 base) ∧ w'.cell? ⟨b, 1, none⟩ = some (.slice A D.length c)) (first | exact KEEP.out _ (Below.refl _ _).drew | exact KEEP.out _ (below_alloc _ _).drew | exact KEEP.out _ (below_alloc _ _) | exact KEEP.out _ (Below.refl _ _)) (first | (go_at_call 153; refine ((HS _).out).mono ?_; rintro e w' ⟨rfl, rfl⟩) | (go_at_call 152; refine ((HALL _ _ (by exact heap_alloc_new w1 _)).out).mono ?_; rintro e w2 ⟨rfl, rfl⟩))
    all_goals
      go_wp2_with fail
      go_ret
      exact ⟨rfl, HAL.out.trans ((below_alloc _ _).drew.mono HAL.out.size)⟩
  | true =>
    have hRt : R = okFrom [] D := by rw [← HR.out, hc]; rfl
    have HRT := Lib.hid hRt
    have HALL : ∀ wx g, wx.heap[g]? = some (.cells #[.bool s0, .bool e0] 4 (0, 0)) → Hid (Calls Tryz.prog 152 #[.slice (some ⟨g, 0, none⟩) 2 2] wx fun e w' => e = .returned (.bool true) ∧ w' = wx) := fun wx g h => Lib.hid (by
      have := all2 wx g s0 e0 _ h
      rwa [hc] at this)
    clear hc HR hRt
    go_enter Tryz.func136, Tryz.ntmps136
    go_upto_region 1 with fail
    rw [HW.out, EB.out]
    go_region_held (fun w' => w'.cell? ⟨b, 0, none⟩ = some (.int .i64 base) ∧ w'.cell? ⟨b, 1, none⟩ = some (.slice A D.length c)) (first | exact KEEP.out _ (Below.refl _ _).drew | exact KEEP.out _ (below_alloc _ _).drew | exact KEEP.out _ (below_alloc _ _) | exact KEEP.out _ (Below.refl _ _)) (first | (go_at_call 153; refine ((HS _).out).mono ?_; rintro e w' ⟨rfl, rfl⟩) | (go_at_call 152; refine ((HALL _ _ (by exact heap_alloc_new w1 _)).out).mono ?_; rintro e w2 ⟨rfl, rfl⟩))
    all_goals
      have hb2 : Below w1.heap.size w1 (w1.alloc (.cells #[.bool s0, .bool e0] 4)).drew := (below_alloc _ _).drew
      obtain ⟨w2, hw2⟩ : ∃ w2, (w1.alloc (.cells #[.bool s0, .bool e0] 4)).drew = w2 := ⟨_, rfl⟩
      rw [hw2] at hb2 ⊢
      obtain ⟨z0, z1⟩ := KEEP.out w2 hb2
      have HB2 := Lib.hid hb2
      clear hb2 hw2 y0 y1 HALL HS he0
      go_wp2_with fail
      clear z0 z1
      go_loopw [18] (fun x18 wr => ∃ i : Nat, i ≤ D.length ∧ x18 = .int .i64 ((i : Nat) : Int) ∧ okFrom [] D = okFrom (D.take i) (D.drop i) ∧ Below w1.heap.size w1 wr) (fun x18 _ => D.length - (intOf x18).toNat)
      case atStart => exact ⟨0, Nat.zero_le _, rfl, by simp, HB2.out⟩
      case round =>
        obtain ⟨i, hi, rfl, hok, hbw⟩ := hrel
        have HOK := Lib.hid hok
        have HBW := Lib.hid hbw
        clear hok hbw HB2
        by_cases hlt : i < D.length
        · obtain ⟨d, hd⟩ : ∃ d, D[i]? = some d := ⟨_, List.getElem?_eq_getElem hlt⟩
          have hSr := H1.out.rest (Rest.below HBW.out) (fun _ _ e => e)
          have hcl := hSr.1
          have hcm := hSr.2.1
          obtain ⟨g, o, rfl, hx⟩ := hSr.at_ hd
          have x0 : wr.cell? ⟨g, o + i * 2, none⟩ = some (.string (strL d.f)) := hx 0 _ rfl
          have x1 : wr.cell? ⟨g, o + i * 2 + 1, none⟩ = some (.int .i64 d.k) := hx 1 _ rfl
          have hal5 := below_alloc wr (.cells #[.string (strL d.f), .int .i64 d.k] 67)
          have hbx5 : (wr.alloc (.cells #[.string (strL d.f), .int .i64 d.k] 67)).heap[wr.heap.size]? = some (.cells #[.string (strL d.f), .int .i64 d.k] 67 (0, 0)) := heap_alloc_new wr _
          obtain ⟨tb, etb⟩ : ∃ tb, wr.heap.size = tb := ⟨_, rfl⟩
          obtain ⟨w5, hw5⟩ : ∃ w5, wr.alloc (.cells #[.string (strL d.f), .int .i64 d.k] 67) = w5 := ⟨_, rfl⟩
          rw [hw5] at hal5 hbx5
          rw [etb] at hbx5
          have hb5 := HBW.out.trans (hal5.mono HBW.out.size)
          have htl : tb < w5.heap.size := (Array.getElem?_eq_some_iff.1 hbx5).1
          have KEEP5 : Hid (∀ wx, Below w5.heap.size w5 wx → wx.cell? ⟨b, 0, none⟩ = some (.int .i64 base) ∧ wx.cell? ⟨b, 1, none⟩ = some (.slice (some ⟨g, o, none⟩) D.length c) ∧ wx.cell? ⟨tb, 0, none⟩ = some (.string (strL d.f)) ∧ wx.cell? ⟨tb, 1, none⟩ = some (.int .i64 d.k)) := Lib.hid (fun wx hb => by
            have h1 := (hb.block tb htl).trans hbx5
            obtain ⟨h2, h3⟩ := KEEP.out wx (hb5.trans (hb.mono hb5.size))
            exact ⟨h2, h3, by simp [World.cell?, h1], by simp [World.cell?, h1]⟩)
          have hti : (D.take i).length = i := by rw [List.length_take]; omega
          have HFIND : Hid (∀ wx, Below w5.heap.size w5 wx → Calls Tryz.prog 154 #[.slice (some ⟨g, o, none⟩) i c, .string (strL d.f)] wx fun e w' => e = .returned (.int .i64 (idxOf (fun x : TermD => x.f == d.f) (D.take i))) ∧ Below wx.heap.size wx w') := Lib.hid (fun wx hb => by
            have := sizeFind (some ⟨g, o, none⟩) c (D.take i) d.f S wx (((hSr.rest (Rest.below hal5) (fun _ _ e => e)).rest (Rest.below hb) (fun _ _ e => e)).take i c (by omega) hcm)
            rwa [hti] at this)
          have HNAME := fun wx => Lib.hid (sizeName d.f wx)
          have HSM := fun wx => Lib.hid (sizeSmall d.k wx)
          obtain ⟨n1, hn1⟩ : ∃ n1, nameB d.f = n1 := ⟨_, rfl⟩
          obtain ⟨n2, hn2⟩ : ∃ n2, (d.k != 0) = n2 := ⟨_, rfl⟩
          obtain ⟨n3, hn3⟩ : ∃ n3, inB d.k (-1048576) 1048576 = n3 := ⟨_, rfl⟩
          obtain ⟨kf, hkf⟩ : ∃ kf, idxOf (fun x : TermD => x.f == d.f) (D.take i) = kf := ⟨_, rfl⟩
          obtain ⟨n4, hn4⟩ : ∃ n4, decide (kf < 0) = n4 := ⟨_, rfl⟩
          have hokT : okT (D.take i) d = (n1 && (n2 && (n3 && n4))) := by unfold okT; rw [hn1, hn2, hn3, hkf, hn4]
          rw [hn1] at HNAME
          rw [hn3] at HSM
          rw [hkf] at HFIND
          have HOKT := Lib.hid hokT
          have HDR := Lib.hid (drop_of hd)
          have W5 := Lib.hid hw5
          have ETB := Lib.hid etb
          have B5 := Lib.hid hb5
          have HC := Lib.hid hcl
          clear hd hSr hx hal5 hbx5 hw5 etb hb5 htl hti hn1 hn3 hkf hokT hcl
          obtain ⟨q0, q1, q2, q3⟩ := KEEP5.out w5 (Below.refl _ _)
          have hii : ((i : Nat) : Int) ≤ 9223372036854775807 := by omega
          have hic : i ≤ c := by have := HC.out; omega
          have hkn : decide ((kf : Int) < 0) = n4 := hn4
          cases hv : (n1 && (n2 && (n3 && n4))) with
          | false =>
            have hRf : R = false := by
              rw [HRT.out, HOK.out, HDR.out.1, ok_stop]
              rw [HOKT.out, hv]
            have HRF := Lib.hid hRf
            have HALL : ∀ wx g, wx.heap[g]? = some (.cells #[.bool n1, .bool n2, .bool n3, .bool n4] 4 (0, 0)) → Hid (Calls Tryz.prog 152 #[.slice (some ⟨g, 0, none⟩) 4 4] wx fun e w' => e = .returned (.bool false) ∧ w' = wx) := fun wx g h => Lib.hid (by
              have := all4 wx g n1 n2 n3 n4 _ h
              rwa [hv] at this)
            clear hRf hv
            go_upto_region 6 with fail
            rw [W5.out, ETB.out]
            go_region_held (fun w' => w'.cell? ⟨b, 0, none⟩ = some (.int .i64 base) ∧ w'.cell? ⟨b, 1, none⟩ = some (.slice (some ⟨g, o, none⟩) D.length c) ∧ w'.cell? ⟨tb, 0, none⟩ = some (.string (strL d.f)) ∧ w'.cell? ⟨tb, 1, none⟩ = some (.int .i64 d.k)) (first | exact KEEP5.out _ (Below.refl _ _).drew | exact KEEP5.out _ HB7.out | exact KEEP5.out _ (HB7.out.trans ((below_alloc _ _).mono HB7.out.size)).drew | exact KEEP5.out _ (HB7.out.trans ((below_alloc _ _).mono HB7.out.size)) | exact KEEP5.out _ (Below.refl _ _)) (first | (go_at_call 116; refine ((HNAME _).out).mono ?_; rintro e w' ⟨rfl, rfl⟩) | (go_at_call 153; refine ((HSM _).out).mono ?_; rintro e w' ⟨rfl, rfl⟩) | (go_at_call 154; refine (HFIND.out _ (by first | exact (Below.refl _ _).drew | exact Below.refl _ _)).mono ?_; rintro e w7 ⟨rfl, hb7⟩; have HB7 := Lib.hid (by first | exact (Below.refl _ _).drew.trans hb7 | exact hb7 : Below w5.heap.size w5 w7); clear hb7) | (go_at_call 152; refine ((HALL _ _ (by exact heap_alloc_new _ _)).out).mono ?_; rintro e w8 ⟨rfl, rfl⟩))
            all_goals
              go_wp2_with fail
              go_ret
              exact ⟨ret_bool HRF.out.symm, HAL.out.trans ((B5.out.trans ((HB7.out.trans ((below_alloc _ _).mono HB7.out.size)).mono B5.out.size)).mono HAL.out.size)⟩
          | true =>
            have hst : okFrom [] D = okFrom (D.take (i + 1)) (D.drop (i + 1)) := by
              rw [HOK.out, HDR.out.1, HDR.out.2, ok_step]
              rw [HOKT.out, hv]
            have HST := Lib.hid hst
            have HALL : ∀ wx g, wx.heap[g]? = some (.cells #[.bool n1, .bool n2, .bool n3, .bool n4] 4 (0, 0)) → Hid (Calls Tryz.prog 152 #[.slice (some ⟨g, 0, none⟩) 4 4] wx fun e w' => e = .returned (.bool true) ∧ w' = wx) := fun wx g h => Lib.hid (by
              have := all4 wx g n1 n2 n3 n4 _ h
              rwa [hv] at this)
            clear hst hv
            go_upto_region 6 with fail
            rw [W5.out, ETB.out]
            go_region_held (fun w' => w'.cell? ⟨b, 0, none⟩ = some (.int .i64 base) ∧ w'.cell? ⟨b, 1, none⟩ = some (.slice (some ⟨g, o, none⟩) D.length c) ∧ w'.cell? ⟨tb, 0, none⟩ = some (.string (strL d.f)) ∧ w'.cell? ⟨tb, 1, none⟩ = some (.int .i64 d.k)) (first | exact KEEP5.out _ (Below.refl _ _).drew | exact KEEP5.out _ HB7.out | exact KEEP5.out _ (HB7.out.trans ((below_alloc _ _).mono HB7.out.size)).drew | exact KEEP5.out _ (HB7.out.trans ((below_alloc _ _).mono HB7.out.size)) | exact KEEP5.out _ (Below.refl _ _)) (first | (go_at_call 116; refine ((HNAME _).out).mono ?_; rintro e w' ⟨rfl, rfl⟩) | (go_at_call 153; refine ((HSM _).out).mono ?_; rintro e w' ⟨rfl, rfl⟩) | (go_at_call 154; refine (HFIND.out _ (by first | exact (Below.refl _ _).drew | exact Below.refl _ _)).mono ?_; rintro e w7 ⟨rfl, hb7⟩; have HB7 := Lib.hid (by first | exact (Below.refl _ _).drew.trans hb7 | exact hb7 : Below w5.heap.size w5 w7); clear hb7) | (go_at_call 152; refine ((HALL _ _ (by exact heap_alloc_new _ _)).out).mono ?_; rintro e w8 ⟨rfl, rfl⟩))
            all_goals
              go_wp2_with fail
              go_roundw
              case rel => exact ⟨i + 1, by omega, by go_num, HST.out, B5.out.trans ((HB7.out.trans ((below_alloc _ _).mono HB7.out.size)).mono B5.out.size)⟩
              case measure => simp [intOf]; omega
        · obtain rfl : i = D.length := by omega
          have hRe : R = true := by
            rw [HRT.out, HOK.out, List.drop_length]
            rfl
          have HRE := Lib.hid hRe
          clear hRe
          go_wp2_with fail
          go_ret
          exact ⟨ret_bool HRE.out.symm, HAL.out.trans (HBW.out.mono HAL.out.size)⟩
end Go.Proofs.YtbpkppmbbpoohaaGreat

namespace Go.Proofs.YtbpkppmbbpoohaaGreat
open Go.RowKit Go.Shelf

/-- Entries, in the order in which they were laid. -/
abbrev Ents := List (List UInt8 × Value)
def getE : Ents → List UInt8 → Option Value
  | [], _ => none
  | p :: E, k => if p.1 = k then some p.2 else getE E k
def setE : Ents → List UInt8 → Value → Ents
  | [], k, v => [(k, v)]
  | p :: E, k, v => if p.1 = k then (k, v) :: E else p :: setE E k v
def hasE (E : Ents) (k : List UInt8) : Bool := (getE E k).isSome

def entOf (p : List UInt8 × Value) : Value × Value := (.string (strL p.1), p.2)
def MapAt (W : World) (r : Nat) (E : Ents) : Prop := ∃ es clock, W.heap[r]? = some (.map es clock) ∧ es.toList.map (fun e => (e.key, e.val)) = E.map entOf

theorem MapAt.lt {W : World} {r : Nat} {E : Ents} (h : MapAt W r E) : r < W.heap.size := by
  obtain ⟨es, c, h, _⟩ := h
  exact (Array.getElem?_eq_some_iff.1 h).1
theorem MapAt.below {W W' : World} {r n : Nat} {E : Ents} (h : MapAt W r E) (hb : Below n W W') (hn : r < n) : MapAt W' r E := by
  obtain ⟨es, c, h, h2⟩ := h
  exact ⟨es, c, (hb.block r hn).trans h, h2⟩
theorem MapAt.rest {S : Nat → Prop} {W W' : World} {r : Nat} {E : Ents} (h : MapAt W r E) (hr : Rest S W W') (hs : ¬ S r) : MapAt W' r E := by
  have hl := h.lt
  obtain ⟨es, c, h, h2⟩ := h
  exact ⟨es, c, (hr.block r hl hs).trans h, h2⟩
theorem MapAt.new (W : World) : MapAt (W.alloc (.map #[] 0)) W.heap.size [] := ⟨#[], 0, heap_alloc_new W _, rfl⟩

theorem strL_beq (a b : List UInt8) : (strL a == strL b) = (a == b) := by
  show (a.toArray == b.toArray) = _
  simp
theorem find_str (k : List UInt8) : ∀ (l : List MapEntry) (E : Ents) (i : Nat), l.map (fun e => (e.key, e.val)) = E.map entOf →
    (getE E k = none ∧ Instr.findNow .string (.string (strL k)) l i = some none ∧ setE E k = fun v => E ++ [(k, v)]) ∨
    ∃ j v, getE E k = some v ∧ Instr.findNow .string (.string (strL k)) l i = some (some (i + j, v)) ∧ j < l.length ∧ (∀ u, setE E k u = E.set j (k, u)) ∧ ∃ p, E[j]? = some p ∧ p.1 = k := by
  intro l
  induction l with
  | nil =>
    intro E i h
    have : E = [] := by cases E with
      | nil => rfl
      | cons p E => simp at h
    subst this
    exact .inl ⟨rfl, rfl, rfl⟩
  | cons e l ih =>
    intro E i h
    cases E with
    | nil => simp at h
    | cons p E =>
      simp only [List.map_cons, List.cons.injEq, entOf, Prod.mk.injEq] at h
      obtain ⟨⟨hk, hv⟩, ht⟩ := h
      by_cases hp : p.1 = k
      · refine .inr ⟨0, p.2, by simp [getE, hp], ?_, by simp, fun u => by simp [setE, hp], p, by simp, hp⟩
        unfold Instr.findNow
        rw [hk, hp]
        simp [Instr.sameNow, hv, strL_beq]
      · have hne : (strL k == strL p.1) = false := by
          rw [strL_beq]
          simpa using fun e : k = p.1 => hp e.symm
        rcases ih E (i + 1) ht with ⟨h1, h2, h3⟩ | ⟨j, v, h1, h2, h3, h4, q, h5, h6⟩
        · refine .inl ⟨by simp [getE, hp, h1], ?_, ?_⟩
          · unfold Instr.findNow
            rw [hk]
            simp [Instr.sameNow, hne, h2]
          · funext v
            simp [setE, hp, h3]
        · refine .inr ⟨j + 1, v, by simp [getE, hp, h1], ?_, by simpa using h3, fun u => by simp [setE, hp, h4], q, by simpa using h5, h6⟩
          unfold Instr.findNow
          rw [hk]
          simp [Instr.sameNow, hne, h2]
          omega

section
variable {P : Program} {mt kt et : TypeId}
theorem run_look {W : World} {r : Nat} {E : Ents} {z : Value} (hm : P.underlying mt = some (.map kt et)) (hk : P.underlying kt = some .string) (hz : (zeroValue et).run P W = .ok z W) (h : MapAt W r E) (k : List UInt8) :
    (Instr.lookup mt (.map (some r)) (.string (strL k)) false).run P W = .ok ((getE E k).getD z) W := by
  obtain ⟨es, clock, hb, he⟩ := h
  have hc : ∀ b, (Instr.checkKey b 10000 kt (.string (strL k))).run P W = .ok () W := fun b => MapKept.run_checkKey (k := .string (strL k)) hk (by simp [MapKept.IsKey]) b 9999
  rcases find_str k es.toList E 0 he with ⟨h1, h2, _⟩ | ⟨j, v, h1, h2, _⟩
  · simp [Instr.lookup, run_underlying hm, MapKept.run_getObj_map hb, hc, MapKept.run_findKey hk h2, hz, Result.andThen, h1]
  · simp [Instr.lookup, run_underlying hm, MapKept.run_getObj_map hb, hc, MapKept.run_findKey hk h2, Result.andThen, h1]
theorem run_look_ok {W : World} {r : Nat} {E : Ents} {z : Value} (hm : P.underlying mt = some (.map kt et)) (hk : P.underlying kt = some .string) (hz : (zeroValue et).run P W = .ok z W) (h : MapAt W r E) (k : List UInt8) :
    (Instr.lookup mt (.map (some r)) (.string (strL k)) true).run P W = .ok (.tuple #[(getE E k).getD z, .bool (hasE E k)]) W := by
  obtain ⟨es, clock, hb, he⟩ := h
  have hc : ∀ b, (Instr.checkKey b 10000 kt (.string (strL k))).run P W = .ok () W := fun b => MapKept.run_checkKey (k := .string (strL k)) hk (by simp [MapKept.IsKey]) b 9999
  rcases find_str k es.toList E 0 he with ⟨h1, h2, _⟩ | ⟨j, v, h1, h2, _⟩
  · simp [Instr.lookup, run_underlying hm, MapKept.run_getObj_map hb, hc, MapKept.run_findKey hk h2, hz, Result.andThen, h1, hasE]
  · simp [Instr.lookup, run_underlying hm, MapKept.run_getObj_map hb, hc, MapKept.run_findKey hk h2, Result.andThen, h1, hasE]

theorem map_set {es : Array MapEntry} {E : Ents} {j : Nat} {k : List UInt8} {u : Value} (he : es.toList.map (fun e => (e.key, e.val)) = E.map entOf) :
    (es.modify j fun e => { e with key := .string (strL k), val := u }).toList.map (fun e => (e.key, e.val)) = (E.set j (k, u)).map entOf := by
  rw [List.map_set, ← he]
  apply List.ext_getElem?
  intro i
  simp only [List.getElem?_map, List.getElem?_set, Array.getElem?_toList, Array.getElem?_modify]
  by_cases hij : j = i
  · subst hij
    cases hx : es[j]? with
    | none =>
      have hl : ¬ j < es.size := by
        rw [Array.getElem?_eq_none_iff] at hx; omega
      simp [hl]
    | some e =>
      have hl : j < es.size := (Array.getElem?_eq_some_iff.1 hx).1
      simp [hl, entOf]
  · simp [hij]

/-- A store: the map alone turns. -/
theorem run_store {W : World} {r : Nat} {E : Ents} (hm : P.underlying mt = some (.map kt et)) (hk : P.underlying kt = some .string) (h : MapAt W r E) (k : List UInt8) (u : Value) :
    ∃ W', (Instr.mapUpdate mt (.map (some r)) (.string (strL k)) u).run P W = .ok () W' ∧ MapAt W' r (setE E k u) ∧ Rest (fun i => i = r) W W' := by
  obtain ⟨es, clock, hb, he⟩ := h
  have hlt : r < W.heap.size := (Array.getElem?_eq_some_iff.1 hb).1
  have hc : ∀ b, (Instr.checkKey b 10000 kt (.string (strL k))).run P W = .ok () W := fun b => MapKept.run_checkKey (k := .string (strL k)) hk (by simp [MapKept.IsKey]) b 9999
  have hrest : ∀ o, Rest (fun i => i = r) W { W with heap := W.heap.setIfInBounds r o } := fun o => ⟨rfl, rfl, rfl, by simp, fun i _ hi => by simp [Ne.symm hi]⟩
  rcases find_str k es.toList E 0 he with ⟨h1, h2, h3⟩ | ⟨j, v, h1, h2, h3, h4, q, h5, h6⟩
  · refine ⟨_, ?_, ?_, hrest (.map (es.push { key := .string (strL k), val := u, born := clock }) (clock + 1))⟩
    · simp [Instr.mapUpdate, run_underlying hm, MapKept.run_getObj_map hb, hc, MapKept.run_findKey hk h2, MapKept.run_setObj_map _ hb, Result.andThen]
    · refine ⟨_, _, (MapKept.heap_set hb).1, ?_⟩
      rw [congrFun h3 u]
      simp [he, entOf]
  · have hj : ∃ e, es[j]? = some e := by
      have : j < es.size := by simpa using h3
      exact ⟨es[j], Array.getElem?_eq_getElem this⟩
    obtain ⟨e0, he0⟩ := hj
    have hke : e0.key = .string (strL k) := by
      have : (es.toList.map (fun e => (e.key, e.val)))[j]? = (E.map entOf)[j]? := by rw [he]
      simp only [List.getElem?_map, Array.getElem?_toList, he0, h5, Option.map_some, Option.some.injEq, entOf, Prod.mk.injEq] at this
      rw [this.1, h6]
    have hstay : (Instr.keyThatStays (((es[j]?).map (·.key)).getD (.string (strL k))) (.string (strL k))).run P W = .ok (.string (strL k)) W := by
      simp [he0, hke, Instr.keyThatStays, Instr.sameBits, strL_beq]
    have h2' : Instr.findNow .string (.string (strL k)) es.toList 0 = some (some (j, v)) := by rw [h2, Nat.zero_add]
    refine ⟨_, ?_, ?_, hrest (.map (es.modify j fun e => { e with key := .string (strL k), val := u }) clock)⟩
    · simp [Instr.mapUpdate, run_underlying hm, MapKept.run_getObj_map hb, hc, MapKept.run_findKey hk h2', MapKept.run_setObj_map _ hb, Result.andThen, hstay]
    · refine ⟨_, _, (MapKept.heap_set hb).1, ?_⟩
      rw [h4 u]
      exact map_set he
end
end Go.Proofs.YtbpkppmbbpoohaaGreat

namespace Go.Proofs.YtbpkppmbbpoohaaGreat
open Go.RowKit Go.Shelf

def strCells (t : List UInt8) : List Value := [.string (strL t)]
theorem strCells_flat (N : List (List UInt8)) : N.flatMap strCells = N.map fun t => .string (strL t) := by
  induction N with
  | nil => rfl
  | cons t N ih => simp [strCells, List.flatMap_cons, ih]

theorem row_ge {w : World} {base : Nat} {e : TypeId} {size : Nat} {v : Value} {n : Nat} {xs : List Value} (h : w.ownsRow base e size v n xs) : ∀ k, v.ownBlock = some k → base ≤ k := by
  intro k hk
  rcases h.2 with ⟨rfl, _⟩ | ⟨g, cap, cur, rfl, hb, _⟩
  · simp [Value.ownBlock] at hk
  · simp [Value.ownBlock] at hk; omega
theorem row_shape {w : World} {base n : Nat} {e : TypeId} {size : Nat} {v : Value} {xs : List Value} (h : w.ownsRow base e size v n xs) : ∃ A c, v = .slice A n c := by
  rcases Joins.ownsRow_forms h with ⟨rfl, h0⟩ | ⟨g, cap, rfl⟩
  · exact ⟨none, 0, by rw [h0]⟩
  · exact ⟨_, _, rfl⟩
theorem cell_new_at (W : World) (cs : Array Value) (t : TypeId) (s j : Nat) (hs : W.heap.size = s) : (W.alloc (.cells cs t)).cell? ⟨s, j, none⟩ = cs[j]? := by
  subst hs
  have h := World.alloc_heap_new W (.cells cs t)
  exact cell_of_row (W.alloc (.cells cs t)) W.heap.size j cs t (0, 0) h
theorem add_at (g t j : Nat) : (⟨g, t, none⟩ : Addr).add j = ⟨g, t + j, none⟩ := by
  by_cases h0 : j = 0
  · subst h0; simp [Addr.add]
  · simp [Addr.add, h0]

theorem Tryz.infoStr : (Tryz.prog.info? 9).map (fun i => (i.zero, i.size, i.bytes)) = some (some (.string ⟨#[]⟩), 1, 16) := by kernel_rfl

set_option maxRecDepth 100000 in
set_option maxHeartbeats 800000 in
theorem valuesStr (A : Option Addr) (n c : Nat) (w : World) :
    Calls Tryz.prog 75 #[.slice A n c] w fun e w' => e = .returned (.func (.func 101) #[] #[.pointer (some ⟨w.heap.size, 0, none⟩)]) ∧ w.alloc (.cells #[.slice A n c] 94) = w' := by
  have hmf : ∀ (fn : Fn) (first cap : Array Value) (w : World), (Instr.makeFunc fn first cap).run Tryz.prog w = .ok (.func fn first cap) w := fun _ _ _ _ => rfl
  go_enter Tryz.func75, Tryz.ntmps75
  go_wp2_with fail
  go_ret
  exact ⟨rfl, rfl⟩

/-- An iterator of texts that are of new memory. -/
structure SeqAt (base : Nat) (W : World) (qb : Nat) (N : List (List UInt8)) (A : Option Addr) (c : Nat) : Prop where
  ge : base ≤ qb
  bx : Boxed W qb 94 (.slice A N.length c)
  sl : SlAt strCells 1 (fun i => i < base) W A c N
theorem SeqAt.below {base qb c : Nat} {W W' : World} {N : List (List UInt8)} {A : Option Addr} (h : SeqAt base W qb N A c) (hb : Below W.heap.size W W') : SeqAt base W' qb N A c := ⟨h.ge, boxed_below h.bx hb h.bx.lt, h.sl.below hb⟩

def namesOf (base : Int) (D : List TermD) : List (List UInt8) := if validS base D then D.map (·.f) else []

theorem slAt_names {W : World} {base n c : Nat} {A : Option Addr} {N : List (List UInt8)} (h : W.ownsRow base 9 1 (.slice A n c) n (N.map fun t => .string (strL t))) (hn : n = N.length) : SlAt strCells 1 (fun i => i < base) W A c N := by
  refine slAt_row (base := base) (n := n) (t := 9) (by rw [strCells_flat]; exact h) hn (fun i d hi j hj => ?_) (fun d => rfl) (fun k hk hlt => ?_)
  · have h0 : j = 0 := by omega
    subst h0
    rw [strCells_flat]
    simp [hi, strCells]
  · cases A with
    | none => cases hk
    | some a =>
      have := row_ge h k (by simpa [Value.ownBlock] using hk)
      omega

theorem valid_len {base : Int} {D : List TermD} (h : validS base D = true) : D.length ≤ 4 := by
  unfold validS at h
  simp at h
  exact h.1.2

set_option maxRecDepth 100000 in
set_option maxHeartbeats 3200000 in
theorem sizeNames (base : Int) (A : Option Addr) (c : Nat) (D : List TermD) (S : Nat → Prop) (w : World) (h : SlAt TermD.cells 2 S w A c D) :
    Calls Tryz.prog 138 #[.agg #[.int .i64 base, .slice A D.length c]] w fun e w' => ∃ qb A' c', e = .returned (.func (.func 101) #[] #[.pointer (some ⟨qb, 0, none⟩)]) ∧ Below w.heap.size w w' ∧ SeqAt w.heap.size w' qb (namesOf base D) A' c' := by
  have hl : D.length ≤ 9223372036854775807 := Nat.le_trans h.1 h.2.1
  have hal := below_alloc w (.cells #[.int .i64 base, .slice A D.length c] 52)
  have hbx := szbox w (.int .i64 base) (.slice A D.length c)
  have h1 := h.below hal
  obtain ⟨b, eb⟩ : ∃ b, w.heap.size = b := ⟨_, rfl⟩
  obtain ⟨w1, hw1⟩ : ∃ w1, w.alloc (.cells #[.int .i64 base, .slice A D.length c] 52) = w1 := ⟨_, rfl⟩
  rw [hw1] at hal hbx h1
  rw [eb] at hbx
  have hbl : b < w1.heap.size := (Array.getElem?_eq_some_iff.1 hbx).1
  have KEEP : Hid (∀ wx, Below w1.heap.size w1 wx → wx.cell? ⟨b, 0, none⟩ = some (.int .i64 base) ∧ wx.cell? ⟨b, 1, none⟩ = some (.slice A D.length c)) := Lib.hid (fun wx hb => by
    have := (hb.block b hbl).trans hbx
    exact ⟨by simp [World.cell?, this], by simp [World.cell?, this]⟩)
  have HV := Lib.hid (sizeValid base A c D S w1 h1)
  have HW := Lib.hid hw1
  have EB := Lib.hid eb
  have HAL := Lib.hid hal
  have H1 := Lib.hid h1
  have HSZ := Lib.hid (show w.heap.size + 1 = w1.heap.size by rw [← hw1]; simp)
  obtain ⟨y0, y1⟩ := KEEP.out w1 (Below.refl _ _)
  have HVN := fun A n c w => Lib.hid (valuesStr A n c w)
  obtain ⟨i0, hi, hz0, hz1, hz2⟩ := info_parts Tryz.infoStr
  have HI := Lib.hid hi
  clear h hw1 eb hal hbx h1 hbl hi
  cases hv : validS base D with
  | false =>
    rw [hv] at HV
    have hN : namesOf base D = [] := by unfold namesOf; rw [hv]; rfl
    have HN := Lib.hid hN
    clear hv hN
    rw [HN.out]
    go_enter Tryz.func138, Tryz.ntmps138
    go_upto_region 1 with fail
    rw [HW.out, EB.out]
    go_wp2_with fail
    refine HV.out.mono ?_
    rintro e w2 ⟨rfl, hb2⟩
    have HB2 := Lib.hid hb2
    clear hb2 y0 y1
    go_wp2_with fail
    refine ((HVN _ _ _ _).out).mono ?_
    rintro e w3 ⟨rfl, hw3⟩
    have hb3 : Below w2.heap.size w2 w3 := by rw [← hw3]; exact below_alloc _ _
    have hx3 : Boxed w3 w2.heap.size 94 (.slice none 0 0) := by rw [← hw3]; exact Boxed.new w2 _ _
    have HB3 := Lib.hid (HAL.out.trans ((HB2.out.trans (hb3.mono HB2.out.size)).mono HAL.out.size))
    have HX3 := Lib.hid hx3
    have HS3 := Lib.hid (Nat.le_trans HAL.out.size HB2.out.size)
    clear hw3 hb3 hx3
    go_wp2_with fail
    go_ret
    exact ⟨_, none, 0, rfl, HB3.out, HS3.out, HX3.out, ⟨Nat.le_refl _, by decide, fun i d hi => by simp at hi⟩⟩
  | true =>
    rw [hv] at HV
    have hlen := valid_len hv
    have hN : namesOf base D = D.map (·.f) := by unfold namesOf; rw [hv]; rfl
    have HN := Lib.hid hN
    clear hv hN
    rw [HN.out]
    go_enter Tryz.func138, Tryz.ntmps138
    go_upto_region 1 with fail
    rw [HW.out, EB.out]
    go_wp2_with fail
    refine HV.out.mono ?_
    rintro e w2 ⟨rfl, hb2⟩
    have HB2 := Lib.hid hb2
    obtain ⟨z0, z1⟩ := KEEP.out w2 hb2
    clear hb2 y0 y1
    go_wp2_with fail
    clear z0 z1
    go_loopw [3, 11] (fun out x11 wr => ∃ i : Nat, i ≤ D.length ∧ x11 = .int .i64 ((i : Nat) : Int) ∧ wr.ownsRow w1.heap.size 9 1 out i (((D.take i).map (·.f)).map fun t => .string (strL t)) ∧ Below w1.heap.size w1 wr) (fun _ x11 _ => D.length - (intOf x11).toNat)
    case atStart => exact ⟨0, Nat.zero_le _, rfl, ⟨by simp, .inl ⟨rfl, rfl⟩⟩, HB2.out⟩
    case round =>
      obtain ⟨i, hi, rfl, hrow, hbw⟩ := hrel
      obtain ⟨A1, c1, rfl⟩ := row_shape hrow
      have HROW := Lib.hid hrow
      have HBW := Lib.hid hbw
      clear hrow hbw HB2
      by_cases hlt : i < D.length
      · obtain ⟨d, hd⟩ : ∃ d, D[i]? = some d := ⟨_, List.getElem?_eq_getElem hlt⟩
        have hSr := H1.out.rest (Rest.below HBW.out) (fun _ _ e => e)
        obtain ⟨g, o, rfl, hx⟩ := hSr.at_ hd
        have x0 : wr.cell? ⟨g, o + i * 2, none⟩ = some (.string (strL d.f)) := hx 0 _ rfl
        have x1 : wr.cell? ⟨g, o + i * 2 + 1, none⟩ = some (.int .i64 d.k) := hx 1 _ rfl
        have HDT := Lib.hid (drop_of hd).2
        have hal := below_alloc wr (.cells #[.string (strL d.f), .int .i64 d.k] 67)
        have hal2 := hal.trans ((below_alloc (wr.alloc (.cells #[.string (strL d.f), .int .i64 d.k] 67)) (.cells #[.string (strL d.f)] 9)).mono hal.size)
        obtain ⟨w4, hw4⟩ : ∃ w4, wr.alloc (.cells #[.string (strL d.f), .int .i64 d.k] 67) = w4 := ⟨_, rfl⟩
        rw [hw4] at hal2
        obtain ⟨tb, etb⟩ : ∃ tb, wr.heap.size = tb := ⟨_, rfl⟩
        have hbx4 : w4.heap[tb]? = some (.cells #[.string (strL d.f), .int .i64 d.k] 67 (0, 0)) := by rw [← hw4, ← etb]; exact heap_alloc_new wr _
        have t0 : w4.cell? ⟨tb, 0, none⟩ = some (.string (strL d.f)) := by simp [World.cell?, hbx4]
        have ETB := Lib.hid etb
        have HAL2 := Lib.hid hal2
        have hrow4 := Rest.row (S := fun _ => False) (Rest.below hal2) HROW.out (fun _ _ e => e)
        have hcn : ∀ j u, [Value.string (strL d.f)][j]? = some u → (w4.alloc (.cells #[.string (strL d.f)] 9)).cell? ((⟨w4.heap.size, 0, none⟩ : Addr).add j) = some u := fun j u hu => by
          rw [add_at, Nat.zero_add, cell_new_at w4 _ _ _ j rfl]
          simpa using hu
        have HCN := Lib.hid hcn
        have HROW4 := Lib.hid hrow4
        have hi4 : i ≤ 4 := by omega
        have HGE : Hid (w1.heap.size ≤ (w4.alloc (.cells #[.string (strL d.f)] 9)).heap.size) := Lib.hid (Nat.le_trans HBW.out.size hal2.size)
        have W4 := Lib.hid hw4
        clear hd hSr hx hal hal2 hrow4 hcn hw4 etb hbx4
        go_upto_region 6 with fail
        rw [W4.out, ETB.out]
        go_wp2_with (at_builtin; go_must (refine wpList_append_own_at _ rfl _ _ 94 rfl w1.heap.size 9 i0 (.string ⟨#[]⟩) 1 16 Tryz.underlying94 HI.out hz0 hz1 hz2 rfl (by decide) _ _ _ rfl HROW4.out ⟨w4.heap.size, 0, none⟩ 1 1 [.string (strL d.f)] rfl rfl HCN.out (fun u hu => by simp only [List.mem_cons, List.not_mem_nil, or_false] at hu; rw [hu]; rfl) (by unfold maxLen; omega) (by omega) HGE.out ?_); go_must (intro v1 w5 hown1 hgrow1 _ _); have HO := Lib.hid hown1; have HG := Lib.hid hgrow1; clear hown1 hgrow1)
        have hb5 := (HBW.out.trans (HAL2.out.mono HBW.out.size)).grown HG.out (Nat.le_trans HBW.out.size HAL2.out.size) (fun k hk => row_ge HROW4.out k hk)
        have HB5 := Lib.hid hb5
        clear hb5
        go_wp2_with fail
        go_roundw
        case rel =>
          refine ⟨i + 1, by omega, by go_num, ?_, HB5.out⟩
          rw [HDT.out, List.map_append, List.map_append]
          exact HO.out
        case measure => simp [intOf]; omega
      · obtain rfl : i = D.length := by omega
        have hrow2 := HROW.out
        rw [List.take_length] at hrow2
        have HROW2 := Lib.hid hrow2
        clear hrow2
        go_wp2_with fail
        refine ((HVN _ _ _ _).out).mono ?_
        rintro e w3 ⟨rfl, hw3⟩
        have hb3 : Below wr.heap.size wr w3 := by rw [← hw3]; exact below_alloc _ _
        have hx3 : Boxed w3 wr.heap.size 94 (.slice A1 D.length c1) := by rw [← hw3]; exact Boxed.new wr _ _
        have hrow3 := Rest.row (S := fun _ => False) (Rest.below hb3) HROW2.out (fun _ _ e => e)
        have hs3 := slAt_names (base := w1.heap.size) hrow3 (by simp)
        have HB3 := Lib.hid (HAL.out.trans ((HBW.out.trans (hb3.mono HBW.out.size)).mono HAL.out.size))
        have HX3 := Lib.hid hx3
        have HS3 := Lib.hid (Nat.le_trans HAL.out.size HBW.out.size)
        have HSL := Lib.hid hs3
        clear hw3 hb3 hx3 hrow3 hs3
        go_wp2_with fail
        go_ret
        refine ⟨_, A1, c1, rfl, HB3.out, HS3.out, by rw [List.length_map]; exact HX3.out, HSL.out.1, HSL.out.2.1, fun k x hk => ?_⟩
        obtain ⟨g, o, h1, h2, h3⟩ := HSL.out.2.2 k x hk
        exact ⟨g, o, h1, fun hlt => h2 (Nat.lt_of_lt_of_le hlt HAL.out.size), h3⟩
end Go.Proofs.YtbpkppmbbpoohaaGreat
