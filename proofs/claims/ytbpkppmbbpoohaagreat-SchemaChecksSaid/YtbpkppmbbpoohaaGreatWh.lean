/- The flaw of the size of a field, as the document says. Conditions: the fields and their terms lie in memory; the fields ahead have passed. The flaws of numbers, tags and cases, as the document says. Conditions: the fields, cases and messages lie in memory. -/
import Derived.Test.YtbpkppmbbpoohaaGreatWg
import Derived.Test.YtbpkppmbbpoohaaGreatVo
import Derived.Test.YtbpkppmbbpoohaaGreatFb
import Derived.Test.YtbpkppmbbpoohaaGreatCa
import Derived.Lib.QuietBelow
namespace Go.Proofs.YtbpkppmbbpoohaaGreat
open Go.RowKit Go.Shelf

theorem Tryz.infoRan : (Tryz.prog.info? 182).map (fun i => (i.zero, i.size, i.bytes)) = some (some (.agg #[.string ⟨#[]⟩, .int .i64 0, .int .i64 0]), 3, 32) := by kernel_rfl
theorem ran_one (r : RanD) : ∀ u ∈ r.cells, u.oneCell' = true := fun u hu => by
  simp only [RanD.cells, List.mem_cons, List.not_mem_nil, or_false] at hu
  rcases hu with rfl | rfl | rfl <;> rfl
theorem SlAt.weak {α : Type} {cs : α → List Value} {s c : Nat} {S : Nat → Prop} {W : World} {A : Option Addr} {D : List α} (h : SlAt cs s S W A c D) : SlAt cs s (fun _ => False) W A c D := ⟨h.1, h.2.1, fun i d hi => by
  obtain ⟨g, o, a, _, x⟩ := h.2.2 i d hi
  exact ⟨g, o, a, fun e => e, x⟩⟩
theorem own_nilR (w : World) (lo : Nat) : w.ownsRow lo 182 3 (.slice none 0 0) 0 (([] : List RanD).flatMap RanD.cells) := ⟨rfl, .inl ⟨rfl, rfl⟩⟩
theorem slAt_ran {lo c n : Nat} {W : World} {A : Option Addr} {L : List RanD} (hn : L.length = n) (h : W.ownsRow lo 182 3 (.slice A n c) n (L.flatMap RanD.cells)) : SlAt RanD.cells 3 (fun k => k < lo) W A c L := by
  subst hn
  exact slAt_own (cf := RanD.cells) (s := 3) (t := 182) (fun _ => rfl) h
def codeI (r : Option Int) : Int := r.getD 0
theorem sizeAll_bad {B : List FieldD} {d : FieldD} (h : validS d.base d.terms = false) : sizeAllR B d = some 9 := by
  unfold sizeAllR
  rw [h]
  rfl
theorem sizeAll_miss {B : List FieldD} {d : FieldD} {t : TermD} (h : validS d.base d.terms = true) (ht : t ∈ d.terms) (hn : getP (ransP B) t.f = none) : sizeAllR B d = some 8 := by
  unfold sizeAllR
  have : d.terms.all (fun t => (getP (ransP B) t.f).isSome) = false := by
    rw [List.all_eq_false]
    exact ⟨t, ht, by rw [hn]; simp⟩
  rw [h, this]
  rfl
theorem sizeAll_ok {B : List FieldD} {d : FieldD} (h : validS d.base d.terms = true) (ht : ∀ t ∈ d.terms, (getP (ransP B) t.f).isSome = true) : sizeAllR B d = sizeR (ransP B) d := by
  unfold sizeAllR
  have : d.terms.all (fun t => (getP (ransP B) t.f).isSome) = true := List.all_eq_true.2 ht
  rw [h, this]
  rfl

set_option maxRecDepth 100000 in
set_option maxHeartbeats 12800000 in
theorem refSized (nm : List UInt8) (A : Option Addr) (c : Nat) (D : List FieldD) (S : Nat → Prop) (w : World) (h : FieldsAt S w A c D) (i : Nat) (d : FieldD) (hd : D[i]? = some d) (ho : Once (D.take i)) (hal : AllowB (D.take i)) :
    Calls Tryz.prog 123 #[.agg #[.string (strL nm), .slice A D.length c], .int .i64 ((i : Nat) : Int)] w fun e w' => e = .returned (.int .i64 (codeI (sizeAllR (D.take i) d))) ∧ Below w.heap.size w w' := by
  have hl : D.length ≤ 9223372036854775807 := Nat.le_trans h.1.1 h.1.2.1
  have hil : i < D.length := (List.getElem?_eq_some_iff.1 hd).1
  have b1 := below_alloc w (.cells #[.string (strL nm), .slice A D.length c] 36)
  have x1 := msgbox w (.string (strL nm)) (.slice A D.length c)
  have h1 := h.below b1
  obtain ⟨b, eb⟩ : ∃ b, w.heap.size = b := ⟨_, rfl⟩
  obtain ⟨w1, hw1⟩ : ∃ w1, w.alloc (.cells #[.string (strL nm), .slice A D.length c] 36) = w1 := ⟨_, rfl⟩
  rw [hw1] at b1 x1 h1
  rw [eb] at x1
  obtain ⟨R, hR⟩ : ∃ R, codeI (sizeAllR (D.take i) d) = R := ⟨_, rfl⟩
  rw [hR]
  have HR := Lib.hid hR
  have HW := Lib.hid hw1
  have EB := Lib.hid eb
  have HB1 := Lib.hid b1
  have HD := Lib.hid hd
  have HO := Lib.hid ho
  have HAL := Lib.hid hal
  obtain ⟨g, o, rfl, hx⟩ := h1.1.at_ hd
  have KB : Hid (∀ wx, Below w1.heap.size w1 wx → wx.cell? ⟨b, 0, none⟩ = some (.string (strL nm)) ∧ wx.cell? ⟨b, 1, none⟩ = some (.slice (some ⟨g, o, none⟩) D.length c)) := Lib.hid (fun wx hb => by
    have := (hb.block b (Array.getElem?_eq_some_iff.1 x1).1).trans x1
    exact ⟨by simp [World.cell?, this], by simp [World.cell?, this]⟩)
  have H1 : Hid (∀ wx, Below w1.heap.size w1 wx → FieldsAt S wx (some ⟨g, o, none⟩) c D) := Lib.hid (fun wx hb => h1.rest (Rest.below (S := fun _ => False) hb) (fun _ _ e => e.elim))
  have a7 : w1.cell? ⟨g, o + i * 15 + 7, none⟩ = some (.int .i64 d.base) := hx 7 _ rfl
  have a8 : w1.cell? ⟨g, o + i * 15 + 8, none⟩ = some (.slice d.ta d.terms.length d.tc) := hx 8 _ rfl
  obtain ⟨q0, q1⟩ := KB.out w1 (Below.refl _ _)
  have hal2 := below_alloc w1 (.cells #[.int .i64 d.base, .slice d.ta d.terms.length d.tc] 52)
  have hbx2 := szbox w1 (.int .i64 d.base) (.slice d.ta d.terms.length d.tc)
  obtain ⟨tb, etb⟩ : ∃ tb, w1.heap.size = tb := ⟨_, rfl⟩
  obtain ⟨w2, hw2⟩ : ∃ w2, w1.alloc (.cells #[.int .i64 d.base, .slice d.ta d.terms.length d.tc] 52) = w2 := ⟨_, rfl⟩
  rw [hw2] at hal2 hbx2
  rw [etb] at hbx2
  have W2 := Lib.hid hw2
  have ETB := Lib.hid etb
  have HB2 := Lib.hid hal2
  have KT : Hid (∀ wx, Below w2.heap.size w2 wx → wx.cell? ⟨tb, 0, none⟩ = some (.int .i64 d.base) ∧ wx.cell? ⟨tb, 1, none⟩ = some (.slice d.ta d.terms.length d.tc)) := Lib.hid (fun wx hb => by
    have := (hb.block tb (Array.getElem?_eq_some_iff.1 hbx2).1).trans hbx2
    exact ⟨by simp [World.cell?, this], by simp [World.cell?, this]⟩)
  have HT : Hid (∀ wx, Below w1.heap.size w1 wx → SlAt TermD.cells 2 S wx d.ta d.tc d.terms) := Lib.hid (fun wx hb => ((H1.out wx hb).2 d (List.mem_of_getElem? HD.out)).1)
  have htl : d.terms.length ≤ 9223372036854775807 := by
    have := HT.out w1 (Below.refl _ _)
    exact Nat.le_trans this.1 this.2.1
  have HVL : Hid (∀ wx, Below w1.heap.size w1 wx → Calls Tryz.prog 148 #[.agg #[.int .i64 d.base, .slice d.ta d.terms.length d.tc]] wx fun e w' => e = .returned (.bool (validS d.base d.terms)) ∧ Below wx.heap.size wx w') := Lib.hid (fun wx hb => refSizeValid d.base d.ta d.tc d.terms S wx (HT.out wx hb))
  obtain ⟨v, hv⟩ : ∃ v, validS d.base d.terms = v := ⟨_, rfl⟩
  rw [hv] at HVL
  have HV := Lib.hid hv
  obtain ⟨i0, hi0, hz0, hz1, hz2⟩ := info_parts Tryz.infoRan
  have INF := Lib.hid (And.intro hi0 (And.intro hz0 (And.intro hz1 hz2)))
  clear h hd ho hal h1 b1 x1 hw1 eb hR hx hal2 hbx2 hw2 etb hv hi0 hz0 hz1 hz2
  go_enter Tryz.func123, Tryz.ntmps123
  go_upto_region 1 with fail
  rw [HW.out, EB.out]
  go_upto_region 2 with fail
  rw [W2.out, ETB.out]
  clear q0 q1 a7 a8
  obtain ⟨t0, t1⟩ := KT.out w2 (Below.refl _ _)
  cases v with
  | false =>
    have hRf := Lib.hid (show R = 9 by rw [← HR.out, sizeAll_bad HV.out]; rfl)
    go_wp2_with (go_at_call 148; refine (HVL.out _ HB2.out).mono ?_; rintro e w3 ⟨rfl, hb3⟩)
    go_ret
    exact ⟨ret_int hRf.out.symm, HB1.out.trans ((HB2.out.trans (hb3.mono HB2.out.size)).mono HB1.out.size)⟩
  | true =>
  go_upto_region 4 with (go_at_call 148; refine (HVL.out _ HB2.out).mono ?_; rintro e w3 ⟨rfl, hb3⟩)
  have HB3 := Lib.hid hb3
  clear hb3 t0 t1 HVL
  have HVP := Lib.hid (valid_parts HV.out)
  go_wp2_with fail
  go_loopw [6, 7] (fun x6 x7 wr => ∃ k : Nat, k ≤ d.terms.length ∧ x7 = .int .i64 ((k : Nat) : Int) ∧ (∀ t ∈ d.terms.take k, (getP (ransP (D.take i)) t.f).isSome = true) ∧ ∃ LA lc, x6 = .slice LA k lc ∧ wr.ownsRow w2.heap.size 182 3 (.slice LA k lc) k (((d.terms.take k).map (toRan (ransP (D.take i)))).flatMap RanD.cells) ∧ Below w2.heap.size w2 wr) (fun _ x7 _ => d.terms.length - (intOf x7).toNat)
  case atStart => exact ⟨0, Nat.zero_le _, rfl, by simp, none, 0, rfl, own_nilR _ _, HB3.out⟩
  case round =>
    obtain ⟨k, hk, rfl, hall, LA, lc, rfl, hro, hb4⟩ := hrel
    have HA := Lib.hid hall
    have RO := Lib.hid hro
    have HB4 := Lib.hid hb4
    have HB14 := Lib.hid (HB2.out.trans (hb4.mono HB2.out.size))
    clear hall hro hb4
    obtain ⟨t0, t1⟩ := KT.out _ HB4.out
    by_cases hlt : k < d.terms.length
    · obtain ⟨t, ht⟩ : ∃ t, d.terms[k]? = some t := ⟨_, List.getElem?_eq_getElem hlt⟩
      have HTM := Lib.hid ht
      obtain ⟨tg, tt, eta, hx⟩ := (HT.out _ HB14.out).at_ ht
      rw [eta] at t1
      have u0 : wr.cell? ⟨tg, tt + k * 2, none⟩ = some (.string (strL t.f)) := hx 0 _ rfl
      obtain ⟨q0, q1⟩ := KB.out _ HB14.out
      have kq0 := cell_regrown q0
      have kq1 := cell_regrown q1
      have kt1 := cell_regrown t1
      have ku0 := cell_regrown u0
      obtain ⟨q, hq⟩ : ∃ q, idxOf (fun e : FieldD => e.name == t.f) (D.take i) = q := ⟨_, rfl⟩
      have HQ := Lib.hid hq
      have FC : ∀ wx, Below w1.heap.size w1 wx → Hid (Calls Tryz.prog 59 #[.agg #[.string (strL nm), .slice (some ⟨g, o, none⟩) D.length c], .string (strL t.f), .int .i64 ((i : Nat) : Int)] wx fun e w' => e = .returned (.int .i64 q) ∧ Below wx.heap.size wx w') := fun wx hb => Lib.hid (by
        have := refField_any nm (some ⟨g, o, none⟩) c D t.f i (by omega) S wx (H1.out wx hb).1
        rwa [hq] at this)
      have BD : Hid (∀ wx, Below wr.heap.size wr wx → Below w1.heap.size w1 wx) := Lib.hid (fun wx hb => HB14.out.trans (hb.mono HB14.out.size))
      have hk0 : (0 : Int) ≤ ((k : Nat) : Int) := by omega
      have hk1 : ((k : Nat) : Int) < ((d.terms.length : Nat) : Int) := by omega
      clear ht hx hq
      go_upto_region 8 with fail
      clear q0 q1 t0 t1 u0
      refine wp_region_quiet_below (by kernel_rfl) (by kernel_rfl) ?_
      repeat (go_big_quiet_step ((first | (go_at_call 59; exact Calls.regrown_of ((FC _ (BD.out _ (below_regrown _ _ _))).out)))))
      refine wpQuiet_nil ?_
      rintro _ ⟨p, rfl⟩
      have hb5 := below_regrown wr p.d p.os
      obtain ⟨w5, hw5⟩ : ∃ w5, Go.Sort.grow (redrawn wr p.d) p.os = w5 := ⟨_, rfl⟩
      rw [hw5] at hb5 ⊢
      have HB5 := Lib.hid (HB4.out.trans (hb5.mono HB4.out.size))
      have HB15 := Lib.hid (BD.out w5 hb5)
      have RO5 := Lib.hid (own_below RO.out hb5)
      clear kq0 kq1 kt1 ku0 FC BD hw5 hb5 RO
      obtain ⟨q0, q1⟩ := KB.out _ HB15.out
      have hri := ran_idx HO.out t.f
      rw [HQ.out] at hri
      rcases hri with ⟨rfl, hg⟩ | ⟨j, e, hj, rfl, hg⟩
      · have hRf := Lib.hid (show R = 8 by rw [← HR.out, sizeAll_miss HV.out (List.mem_of_getElem? HTM.out) hg]; rfl)
        go_wp2_with fail
        go_ret
        exact ⟨ret_int hRf.out.symm, HB1.out.trans (HB15.out.mono HB1.out.size)⟩
      · have hji : j < i := by
          have := (List.getElem?_eq_some_iff.1 hj).1
          rw [List.length_take] at this
          omega
        rw [List.getElem?_take, if_pos hji] at hj
        obtain ⟨g', o', eg, hx⟩ := (H1.out _ HB15.out).1.at_ hj
        cases eg
        have x0 : w5.cell? ⟨g, o + j * 15, none⟩ = some (.string (strL e.name)) := hx 0 _ rfl
        have x1 : w5.cell? ⟨g, o + j * 15 + 1, none⟩ = some (.int .i64 e.kind) := hx 1 _ rfl
        have x2 : w5.cell? ⟨g, o + j * 15 + 2, none⟩ = some (.int .i64 e.bits) := hx 2 _ rfl
        have x3 : w5.cell? ⟨g, o + j * 15 + 3, none⟩ = some (.bool e.little) := hx 3 _ rfl
        have x4 : w5.cell? ⟨g, o + j * 15 + 4, none⟩ = some (.bool e.loose) := hx 4 _ rfl
        have x5 : w5.cell? ⟨g, o + j * 15 + 5, none⟩ = some (.int .i64 e.low) := hx 5 _ rfl
        have x6 : w5.cell? ⟨g, o + j * 15 + 6, none⟩ = some (.int .i64 e.high) := hx 6 _ rfl
        have x7 : w5.cell? ⟨g, o + j * 15 + 7, none⟩ = some (.int .i64 e.base) := hx 7 _ rfl
        have x8 : w5.cell? ⟨g, o + j * 15 + 8, none⟩ = some (.slice e.ta e.terms.length e.tc) := hx 8 _ rfl
        have x9 : w5.cell? ⟨g, o + j * 15 + 9, none⟩ = some (.string (strL e.of_)) := hx 9 _ rfl
        have x10 : w5.cell? ⟨g, o + j * 15 + 10, none⟩ = some (.string (strL e.tag)) := hx 10 _ rfl
        have x11 : w5.cell? ⟨g, o + j * 15 + 11, none⟩ = some (.string (strL e.from_)) := hx 11 _ rfl
        have x12 : w5.cell? ⟨g, o + j * 15 + 12, none⟩ = some (.slice e.ca e.cases.length e.cc) := hx 12 _ rfl
        have x13 : w5.cell? ⟨g, o + j * 15 + 13, none⟩ = some (.int .i64 e.check) := hx 13 _ rfl
        have x14 : w5.cell? ⟨g, o + j * 15 + 14, none⟩ = some (.int .i64 e.key) := hx 14 _ rfl
        have HJ := Lib.hid hj
        have HG := Lib.hid hg
        have hj0 : (0 : Int) ≤ ((j : Nat) : Int) := by omega
        have hj1 : ((j : Nat) : Int) < ((D.length : Nat) : Int) := by omega
        have HNU := fun w => Lib.hid (refNumber_any e w)
        have HRN := fun w => Lib.hid (refRange_any e w)
        unfold FieldD.agg at HNU HRN
        obtain ⟨nb, hnb⟩ : ∃ nb, numB e = nb := ⟨_, rfl⟩
        rw [hnb] at HG
        simp only [hnb] at HNU
        clear hx hj hg hnb
        cases nb with
        | false =>
          have hRf := Lib.hid (show R = 8 by rw [← HR.out, sizeAll_miss HV.out (List.mem_of_getElem? HTM.out) HG.out]; rfl)
          go_wp2_with (go_at_call 61; refine ((HNU _).out).mono ?_; rintro e w6 ⟨rfl, hb6⟩)
          go_ret
          exact ⟨ret_int hRf.out.symm, HB1.out.trans ((HB15.out.trans (hb6.mono HB15.out.size)).mono HB1.out.size)⟩
        | true =>
          obtain ⟨⟨lo, hi⟩, hlh⟩ : ∃ p, ranP e = p := ⟨_, rfl⟩
          simp only [hlh] at HRN
          have hg := HG.out
          rw [if_pos rfl, hlh] at hg
          have HGP := Lib.hid hg
          clear hlh hg
          go_upto_region 11 with (go_at_call 61; refine ((HNU _).out).mono ?_; rintro e w6 ⟨rfl, hb6⟩)
          have HB6 := Lib.hid (HB5.out.trans (hb6.mono HB5.out.size))
          have HB16 := Lib.hid (HB15.out.trans (hb6.mono HB15.out.size))
          have RO6 := Lib.hid (own_below RO5.out hb6)
          clear hb6 x0 x1 x2 x3 x4 x5 x6 x7 x8 x9 x10 x11 x12 x13 x14 q0 q1
          obtain ⟨q0, q1⟩ := KB.out _ HB16.out
          obtain ⟨g', o', eg, hx⟩ := (H1.out _ HB16.out).1.at_ HJ.out
          cases eg
          have x0 : w6.cell? ⟨g, o + j * 15, none⟩ = some (.string (strL e.name)) := hx 0 _ rfl
          have x1 : w6.cell? ⟨g, o + j * 15 + 1, none⟩ = some (.int .i64 e.kind) := hx 1 _ rfl
          have x2 : w6.cell? ⟨g, o + j * 15 + 2, none⟩ = some (.int .i64 e.bits) := hx 2 _ rfl
          have x3 : w6.cell? ⟨g, o + j * 15 + 3, none⟩ = some (.bool e.little) := hx 3 _ rfl
          have x4 : w6.cell? ⟨g, o + j * 15 + 4, none⟩ = some (.bool e.loose) := hx 4 _ rfl
          have x5 : w6.cell? ⟨g, o + j * 15 + 5, none⟩ = some (.int .i64 e.low) := hx 5 _ rfl
          have x6 : w6.cell? ⟨g, o + j * 15 + 6, none⟩ = some (.int .i64 e.high) := hx 6 _ rfl
          have x7 : w6.cell? ⟨g, o + j * 15 + 7, none⟩ = some (.int .i64 e.base) := hx 7 _ rfl
          have x8 : w6.cell? ⟨g, o + j * 15 + 8, none⟩ = some (.slice e.ta e.terms.length e.tc) := hx 8 _ rfl
          have x9 : w6.cell? ⟨g, o + j * 15 + 9, none⟩ = some (.string (strL e.of_)) := hx 9 _ rfl
          have x10 : w6.cell? ⟨g, o + j * 15 + 10, none⟩ = some (.string (strL e.tag)) := hx 10 _ rfl
          have x11 : w6.cell? ⟨g, o + j * 15 + 11, none⟩ = some (.string (strL e.from_)) := hx 11 _ rfl
          have x12 : w6.cell? ⟨g, o + j * 15 + 12, none⟩ = some (.slice e.ca e.cases.length e.cc) := hx 12 _ rfl
          have x13 : w6.cell? ⟨g, o + j * 15 + 13, none⟩ = some (.int .i64 e.check) := hx 13 _ rfl
          have x14 : w6.cell? ⟨g, o + j * 15 + 14, none⟩ = some (.int .i64 e.key) := hx 14 _ rfl
          clear hx
          go_upto_region 12 with (go_at_call 125; refine ((HRN _).out).mono ?_; rintro e w7 ⟨rfl, hb7⟩)
          have HB7 := Lib.hid (HB6.out.trans (hb7.mono HB6.out.size))
          have HB17 := Lib.hid (HB16.out.trans (hb7.mono HB16.out.size))
          have RO7 := Lib.hid (own_below RO6.out hb7)
          clear hb7 x0 x1 x2 x3 x4 x5 x6 x7 x8 x9 x10 x11 x12 x13 x14 q0 q1
          obtain ⟨t0, t1⟩ := KT.out _ HB7.out
          obtain ⟨tg', tt', eta', hx⟩ := (HT.out _ HB17.out).at_ HTM.out
          rw [eta] at t1 eta'
          cases eta'
          have u0 : w7.cell? ⟨tg, tt + k * 2, none⟩ = some (.string (strL t.f)) := hx 0 _ rfl
          have hrd : toRan (ransP (D.take i)) t = ⟨t.f, lo, hi⟩ := by
            unfold toRan loE hiE
            rw [HGP.out]
            rfl
          have hstep : (d.terms.take (k + 1)).map (toRan (ransP (D.take i))) = (d.terms.take k).map (toRan (ransP (D.take i))) ++ [RanD.mk t.f lo hi] := by
            rw [(drop_of HTM.out).2, List.map_append, List.map_cons, hrd]
            rfl
          have HSTEP := Lib.hid hstep
          obtain ⟨L, hL⟩ : ∃ L, (d.terms.take k).map (toRan (ransP (D.take i))) = L := ⟨_, rfl⟩
          rw [hL] at RO7 HSTEP
          have hLl : L.length = k := by rw [← hL, List.length_map, List.length_take]; omega
          have h4 := HVP.out.2.1
          have HAN := Lib.hid (show ∀ t' ∈ d.terms.take (k + 1), (getP (ransP (D.take i)) t'.f).isSome = true from fun x hx => by
            rw [(drop_of HTM.out).2] at hx
            rcases List.mem_append.1 hx with hx | hx
            · exact HA.out x hx
            · simp only [List.mem_singleton] at hx
              rw [hx, HGP.out]
              rfl)
          have hal7 := below_alloc w7 (.cells #[.string (strL t.f), .int .i64 lo, .int .i64 hi] 182)
          have HALq := Lib.hid hal7
          have HNEW := Lib.hid (World.news_of_block (cs := #[Value.string (strL t.f), .int .i64 lo, .int .i64 hi]) (t := 182) (fr := (0, 0)) (heap_alloc_new w7 (.cells #[.string (strL t.f), .int .i64 lo, .int .i64 hi] 182)))
          have HLL := Lib.hid hLl
          clear hx hrd hstep hL hLl hal7 HA
          go_wp2_with (at_builtin; go_must (refine wpList_append_own_at _ rfl _ _ 180 rfl w2.heap.size 182 i0 _ 3 32 Tryz.underlying180 INF.out.1 INF.out.2.1 INF.out.2.2.1 INF.out.2.2.2 rfl (by decide) _ _ _ rfl (own_below RO7.out HALq.out) ⟨w7.heap.size, 0, none⟩ 1 1 (RanD.cells (RanD.mk t.f lo hi)) rfl rfl HNEW.out (ran_one _) (by have := HLL.out; unfold maxLen; omega) (by have := HLL.out; omega) (by have := HB7.out.size; simp; omega) ?_); go_must (intro v1 w8 hown1 hgrow1 _ hblk1); have HG1 := Lib.hid (And.intro hown1 (And.intro hgrow1 hblk1)); clear hown1 hgrow1 hblk1)
          obtain ⟨hown, hgrow, hblk⟩ := HG1.out
          have hown' : w8.ownsRow w2.heap.size 182 3 v1 (k + 1) ((L ++ [RanD.mk t.f lo hi]).flatMap RanD.cells) := by
            rw [List.flatMap_append]
            simpa using hown
          obtain ⟨LA2, lc2, rfl⟩ := row_shape hown'
          have hb8 : Below w2.heap.size w2 w8 := by
            have h0 := HB7.out.trans (HALq.out.mono HB7.out.size)
            exact h0.grown hgrow h0.size (fun k hk => (own_ge RO7.out k hk).1)
          have R8 := Lib.hid hown'
          have B8 := Lib.hid hb8
          clear hown hgrow hblk hown' hb8 HG1
          go_wp2_with fail
          refine ⟨⟨_, .slice LA2 (k + 1) lc2, .int .i64 (((k : Nat) : Int) + 1), ⟨k + 1, by omega, by go_num, HAN.out, LA2, lc2, rfl, ?own, B8.out⟩, rfl, rfl, rfl⟩, by simp [intOf]; omega⟩
          have := R8.out
          rw [← HSTEP.out] at this
          simpa using this
    · obtain rfl : k = d.terms.length := by omega
      rw [List.take_length] at RO
      have hall := HA.out
      rw [List.take_length] at hall
      have hall2 : ∀ t ∈ d.terms, ∃ p, getP (ransP (D.take i)) t.f = some p ∧ allowP p = true := fun t ht => by
        obtain ⟨p, hp⟩ := Option.isSome_iff_exists.1 (hall t ht)
        exact ⟨p, hp, HAL.out _ _ hp⟩
      have hiv := refInterval_ok d.base d.ta d.tc d.terms LA lc (ransP (D.take i)) (fun _ => False) wr (HT.out _ HB14.out).weak (slAt_ran (by simp) RO.out).weak HV.out hall2
      have hsz := sizeAll_ok HV.out hall
      obtain ⟨⟨lo, hi⟩, hlh⟩ : ∃ p, ivS (ransP (D.take i)) d.base d.terms = p := ⟨_, rfl⟩
      rw [hlh] at hiv
      have hRR : R = codeI (ifR (decide (0 ≤ lo) && decide (hi ≤ 1048576)) 9) := by
        rw [← HR.out, hsz]
        unfold sizeR
        rw [hlh]
      have HIV := Lib.hid hiv
      have HRR := Lib.hid hRR
      clear hall hall2 hiv hsz hlh hRR
      by_cases h1 : lo < 0
      · have hRf := Lib.hid (show R = 9 by rw [HRR.out, decide_eq_false (by omega)]; rfl)
        go_wp2_with (go_at_call 149; refine (HIV.out).mono ?_; rintro e w6 ⟨rfl, hb6⟩)
        go_ret
        exact ⟨ret_int hRf.out.symm, HB1.out.trans ((HB14.out.trans (hb6.mono HB14.out.size)).mono HB1.out.size)⟩
      · by_cases h2 : 1048576 < hi
        · have hRf := Lib.hid (show R = 9 by rw [HRR.out, decide_eq_false (show ¬ hi ≤ 1048576 by omega), Bool.and_false]; rfl)
          go_wp2_with (go_at_call 149; refine (HIV.out).mono ?_; rintro e w6 ⟨rfl, hb6⟩)
          go_ret
          exact ⟨ret_int hRf.out.symm, HB1.out.trans ((HB14.out.trans (hb6.mono HB14.out.size)).mono HB1.out.size)⟩
        · have hRf := Lib.hid (show R = 0 by rw [HRR.out, decide_eq_true (show 0 ≤ lo by omega), decide_eq_true (show hi ≤ 1048576 by omega)]; rfl)
          go_wp2_with (go_at_call 149; refine (HIV.out).mono ?_; rintro e w6 ⟨rfl, hb6⟩)
          go_ret
          exact ⟨ret_int hRf.out.symm, HB1.out.trans ((HB14.out.trans (hb6.mono HB14.out.size)).mono HB1.out.size)⟩
end Go.Proofs.YtbpkppmbbpoohaaGreat

namespace Go.Proofs.YtbpkppmbbpoohaaGreat
open Go.RowKit Go.Shelf

set_option maxRecDepth 100000 in
set_option maxHeartbeats 800000 in
theorem refWide (a b : Int) (w : World) : Calls Tryz.prog 122 #[.int .i64 a, .int .i64 b] w fun e w' => e = .returned (.bool (decide (0 ≤ a) && decide (a ≤ b) && decide (b < 34359738368))) ∧ w' = w := by
  go_enter Tryz.func122, Tryz.ntmps122
  go_wp2
  all_goals (go_ret; refine ⟨ret_bool ?_, rfl⟩; rw [Bool.eq_iff_iff]; simp [*]; try omega)

theorem wrap_pow {n : Nat} (h : n ≤ 32) : wrap64 ((2 : Int) ^ n) = (2 : Int) ^ n := by
  have hq : 2 ^ n ≤ 2 ^ 32 := Nat.pow_le_pow_right (by omega) h
  have hr : (2 : Int) ^ n = ((2 ^ n : Nat) : Int) := by simp
  rw [hr]
  generalize 2 ^ n = q at hq
  unfold wrap64
  omega

set_option maxRecDepth 100000 in
set_option maxHeartbeats 12800000 in
theorem refNum_any (d : FieldD) (w : World) : Calls Tryz.prog 121 #[d.agg] w fun e w' => e = .returned (.int .i64 (codeI (unsR (if d.kind == 2 then conD d else d)))) ∧ Below w.heap.size w w' := by
  unfold FieldD.agg
  have hal := below_alloc w (.cells #[.string (strL d.name), .int .i64 d.kind, .int .i64 d.bits, .bool d.little, .bool d.loose, .int .i64 d.low, .int .i64 d.high, .int .i64 d.base, .slice d.ta d.terms.length d.tc, .string (strL d.of_), .string (strL d.tag), .string (strL d.from_), .slice d.ca d.cases.length d.cc, .int .i64 d.check, .int .i64 d.key] 55)
  have hbx := FBox.new w d
  obtain ⟨b, eb⟩ : ∃ b, w.heap.size = b := ⟨_, rfl⟩
  obtain ⟨w1, hw1⟩ : ∃ w1, w.alloc (.cells #[.string (strL d.name), .int .i64 d.kind, .int .i64 d.bits, .bool d.little, .bool d.loose, .int .i64 d.low, .int .i64 d.high, .int .i64 d.base, .slice d.ta d.terms.length d.tc, .string (strL d.of_), .string (strL d.tag), .string (strL d.from_), .slice d.ca d.cases.length d.cc, .int .i64 d.check, .int .i64 d.key] 55) = w1 := ⟨_, rfl⟩
  rw [hw1] at hal hbx
  rw [eb] at hbx
  have HW := Lib.hid hw1
  have EB := Lib.hid eb
  have HAL := Lib.hid hal
  have y1 := hbx.c1
  have y2 := hbx.c2
  have y3 := hbx.c3
  have y5 := hbx.c5
  have y6 := hbx.c6
  obtain ⟨k2, ek⟩ : ∃ k, (d.kind == 2) = k := ⟨_, rfl⟩
  obtain ⟨li, eli⟩ : ∃ li, d.little = li := ⟨_, rfl⟩
  obtain ⟨top, etop⟩ : ∃ t, (if k2 then d.low else d.high) = t := ⟨_, rfl⟩
  obtain ⟨R, hR⟩ : ∃ R, codeI (unsR (if d.kind == 2 then conD d else d)) = R := ⟨_, rfl⟩
  have hR2 : R = codeI (orR (ifR (inB d.bits 1 32) 6) (orR (ifR (!li || d.bits == 16 || d.bits == 24 || d.bits == 32) 6) (ifR (decide (0 ≤ d.low) && decide (d.low ≤ top) && decide (top < (2 : Int) ^ d.bits.toNat)) 7))) := by
    rw [← hR, ek, ← etop, ← eli]
    cases k2 <;> rfl
  rw [hR]
  have HR := Lib.hid hR2
  rw [eli] at y3
  clear hal hbx eb hw1 hR hR2 eli
  by_cases h1 : d.bits < 1
  · have hRf := Lib.hid (show R = 6 by rw [HR.out, show inB d.bits 1 32 = false by unfold inB; rw [decide_eq_false (show ¬ 1 ≤ d.bits by omega), Bool.false_and]]; rfl)
    clear ek etop
    go_enter Tryz.func121, Tryz.ntmps121
    go_upto_region 1 with fail
    rw [HW.out, EB.out]
    go_wp2_with fail
    go_ret
    exact ⟨ret_int hRf.out.symm, HAL.out⟩
  by_cases h2 : 32 < d.bits
  · have hRf := Lib.hid (show R = 6 by rw [HR.out, show inB d.bits 1 32 = false by unfold inB; rw [decide_eq_false (show ¬ d.bits ≤ 32 by omega), Bool.and_false]]; rfl)
    clear ek etop
    go_enter Tryz.func121, Tryz.ntmps121
    go_upto_region 1 with fail
    rw [HW.out, EB.out]
    go_wp2_with fail
    go_ret
    exact ⟨ret_int hRf.out.symm, HAL.out⟩
  have hin : inB d.bits 1 32 = true := by unfold inB; rw [decide_eq_true (by omega), decide_eq_true (by omega)]; rfl
  obtain ⟨nb, hnb⟩ : ∃ n : Nat, d.bits = (n : Int) := ⟨d.bits.toNat, by omega⟩
  rw [hnb] at y2 HR
  have hin2 : inB ((nb : Nat) : Int) 1 32 = true := by rw [← hnb]; exact hin
  have hn32 : nb ≤ 32 := by omega
  have hn1 : ¬ ((nb : Nat) : Int) < 1 := by omega
  have hn2 : ¬ 32 < ((nb : Nat) : Int) := by omega
  obtain ⟨P2, hP2⟩ : ∃ P2, (2 : Int) ^ nb = P2 := ⟨_, rfl⟩
  have hw2 : wrap64 ((2 : Int) ^ nb) = P2 := by rw [wrap_pow hn32, hP2]
  obtain ⟨s16, e16⟩ : ∃ s, ((((nb : Nat) : Int)) == 16) = s := ⟨_, rfl⟩
  obtain ⟨s24, e24⟩ : ∃ s, ((((nb : Nat) : Int)) == 24) = s := ⟨_, rfl⟩
  obtain ⟨s32, e32⟩ : ∃ s, ((((nb : Nat) : Int)) == 32) = s := ⟨_, rfl⟩
  have hR3 : R = codeI (orR (ifR (!li || s16 || s24 || s32) 6) (ifR (decide (0 ≤ d.low) && decide (d.low ≤ top) && decide (top < P2)) 7)) := by
    rw [HR.out, hin2, e16, e24, e32, Int.toNat_natCast, hP2]
    rfl
  have f16 : (((nb : Nat) : Int) != 16) = !s16 := by rw [← e16]; rfl
  have f24 : (((nb : Nat) : Int) != 24) = !s24 := by rw [← e24]; rfl
  have f32 : (((nb : Nat) : Int) != 32) = !s32 := by rw [← e32]; rfl
  have HR3 := Lib.hid hR3
  obtain ⟨fin, hfin⟩ : ∃ f, codeI (ifR (decide (0 ≤ d.low) && decide (d.low ≤ top) && decide (top < P2)) 7) = f := ⟨_, rfl⟩
  have hfc : (d.low < 0 ∧ fin = 7) ∨ (¬ d.low < 0 ∧ top < d.low ∧ fin = 7) ∨ (¬ d.low < 0 ∧ ¬ top < d.low ∧ P2 ≤ top ∧ fin = 7) ∨ (¬ d.low < 0 ∧ ¬ top < d.low ∧ ¬ P2 ≤ top ∧ fin = 0) := by
    rw [← hfin]
    by_cases a1 : d.low < 0
    · exact .inl ⟨a1, by rw [decide_eq_false (show ¬ 0 ≤ d.low by omega)]; rfl⟩
    by_cases a2 : top < d.low
    · exact .inr (.inl ⟨a1, a2, by rw [decide_eq_false (show ¬ d.low ≤ top by omega), Bool.and_false]; rfl⟩)
    by_cases a3 : P2 ≤ top
    · exact .inr (.inr (.inl ⟨a1, a2, a3, by rw [decide_eq_false (show ¬ top < P2 by omega), Bool.and_false]; rfl⟩))
    · exact .inr (.inr (.inr ⟨a1, a2, a3, by rw [decide_eq_true (show 0 ≤ d.low by omega), decide_eq_true (show d.low ≤ top by omega), decide_eq_true (show top < P2 by omega)]; rfl⟩))
  have HFC := Lib.hid hfc
  have hcs : (li = false ∧ R = fin) ∨ (li = true ∧ s16 = true ∧ R = fin) ∨ (li = true ∧ s16 = false ∧ s24 = true ∧ R = fin) ∨ (li = true ∧ s16 = false ∧ s24 = false ∧ s32 = true ∧ R = fin) ∨ (li = true ∧ s16 = false ∧ s24 = false ∧ s32 = false ∧ R = 6) := by
    have h := HR3.out
    rw [← hfin]
    cases li <;> cases s16 <;> cases s24 <;> cases s32 <;> simp <;> exact h
  clear hin hnb hin2 hP2 hR3 HR HR3 h1 h2 hfin e16 e24 e32 hfc
  rcases hcs with ⟨rfl, h⟩ | ⟨rfl, rfl, h⟩ | ⟨rfl, rfl, rfl, h⟩ | ⟨rfl, rfl, rfl, rfl, h⟩ | ⟨rfl, rfl, rfl, rfl, h⟩
  all_goals
    have HRF := Lib.hid h
    clear h
    cases k2
    · have ht : d.high = top := etop
      rw [ht] at y6
      clear etop ht
      rcases HFC.out with ⟨g1, g⟩ | ⟨g1, g2, g⟩ | ⟨g1, g2, g3, g⟩ | ⟨g1, g2, g3, g⟩
      all_goals
        have G := Lib.hid g
        clear g
        go_enter Tryz.func121, Tryz.ntmps121
        go_upto_region 1 with fail
        rw [HW.out, EB.out]
        go_wp2_with fail
        go_ret
        exact ⟨ret_int (by first | rw [HRF.out, G.out] | rw [HRF.out]), HAL.out⟩
    · have ht : d.low = top := etop
      have HT := Lib.hid ht
      have hfc := HFC.out
      rw [ht] at hfc y5
      clear etop ht
      rcases hfc with ⟨g1, g⟩ | ⟨g1, g2, g⟩ | ⟨g1, g2, g3, g⟩ | ⟨g1, g2, g3, g⟩
      all_goals
        first
        | (exfalso; omega; done)
        | (have G := Lib.hid g
           clear g
           go_enter Tryz.func121, Tryz.ntmps121
           go_upto_region 1 with fail
           rw [HW.out, EB.out]
           go_wp2_with fail
           go_ret
           exact ⟨ret_int (by first | rw [HRF.out, G.out] | rw [HRF.out]), HAL.out⟩)
end Go.Proofs.YtbpkppmbbpoohaaGreat
