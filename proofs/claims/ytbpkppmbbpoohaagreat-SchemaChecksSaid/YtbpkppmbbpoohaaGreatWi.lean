/- Which tags are taken, and the flaws of cases, as the document says. Conditions: the fields, cases and messages lie in memory. -/
import Derived.Test.YtbpkppmbbpoohaaGreatWh
import Derived.Test.YtbpkppmbbpoohaaGreatVg
namespace Go.Proofs.YtbpkppmbbpoohaaGreat
open Go.RowKit Go.Shelf

set_option maxRecDepth 100000 in
set_option maxHeartbeats 1600000 in
theorem refTagged (nm : List UInt8) (A : Option Addr) (c : Nat) (D : List FieldD) (s : List UInt8) (k : Nat) (hk : k ≤ D.length) (S : Nat → Prop) (w : World) (h : SlAt FieldD.cells 15 S w A c D) :
    Calls Tryz.prog 124 #[.agg #[.string (strL nm), .slice A D.length c], .string (strL s), .int .i64 ((k : Nat) : Int)] w fun e w' => e = .returned (.bool ((D.take k).any (fun b => b.kind == 9 && b.tag == s))) ∧ Below w.heap.size w w' := by
  have hl : D.length ≤ 9223372036854775807 := Nat.le_trans h.1 h.2.1
  have hal := below_alloc w (.cells #[.string (strL nm), .slice A D.length c] 36)
  have hbx := msgbox w (.string (strL nm)) (.slice A D.length c)
  have h1 := h.below hal
  obtain ⟨b, eb⟩ : ∃ b, w.heap.size = b := ⟨_, rfl⟩
  obtain ⟨w1, hw1⟩ : ∃ w1, w.alloc (.cells #[.string (strL nm), .slice A D.length c] 36) = w1 := ⟨_, rfl⟩
  rw [hw1] at hal hbx h1
  rw [eb] at hbx
  have y1 : w1.cell? ⟨b, 1, none⟩ = some (.slice A D.length c) := by simp [World.cell?, hbx]
  obtain ⟨R, hR⟩ : ∃ R, (D.take k).any (fun b => b.kind == 9 && b.tag == s) = R := ⟨_, rfl⟩
  rw [hR]
  have HR := Lib.hid hR
  have HW := Lib.hid hw1
  have EB := Lib.hid eb
  have HAL := Lib.hid hal
  have H := Lib.hid h1
  clear h hal hbx h1 eb hw1 hR
  go_enter Tryz.func124, Tryz.ntmps124
  go_upto_region 1 with fail
  rw [HW.out, EB.out]
  go_wp2_with fail
  go_loop [7] (fun x7 => ∃ i : Nat, i ≤ k ∧ x7 = .int .i64 ((i : Nat) : Int) ∧ ∀ x ∈ D.take i, (x.kind == 9 && x.tag == s) = false) (fun x7 => k - (intOf x7).toNat)
  case atStart => exact ⟨0, Nat.zero_le _, rfl, by simp⟩
  case round =>
    obtain ⟨i, hi, rfl, hb⟩ := hrel
    have HB := Lib.hid hb
    clear hb
    by_cases hlt : i < k
    · have hlt2 : i < D.length := by omega
      obtain ⟨d, hd⟩ : ∃ d, D[i]? = some d := ⟨_, List.getElem?_eq_getElem hlt2⟩
      obtain ⟨g, o, rfl, hx⟩ := H.out.at_ hd
      have x1 : w1.cell? ⟨g, o + i * 15 + 1, none⟩ = some (.int .i64 d.kind) := hx 1 _ rfl
      have x10 : w1.cell? ⟨g, o + i * 15 + 10, none⟩ = some (.string (strL d.tag)) := hx 10 _ rfl
      have HD := Lib.hid hd
      clear hd hx
      obtain ⟨s9, e9⟩ : ∃ s, (d.kind == 9) = s := ⟨_, rfl⟩
      have HRT : Hid (s9 = true → d.tag = s → R = true) := Lib.hid (fun h1 h2 => by
        rw [← HR.out]
        exact List.any_eq_true.2 ⟨d, List.mem_of_getElem? (show (D.take k)[i]? = some d by rw [List.getElem?_take, if_pos hlt]; exact HD.out), by rw [e9, h1, h2]; simp⟩)
      have HNN : Hid ((s9 && d.tag == s) = false → ∀ x ∈ D.take (i + 1), (x.kind == 9 && x.tag == s) = false) := Lib.hid (fun h => take_none (p := fun x : FieldD => x.kind == 9 && x.tag == s) HD.out HB.out (by rw [e9]; exact h))
      cases s9 with
      | false =>
        have HN := Lib.hid (HNN.out rfl)
        clear HNN HRT
        go_wp2_with fail
        go_round
        case rel => exact ⟨i + 1, by omega, by go_num, HN.out⟩
        case measure => simp [intOf]; omega
      | true =>
        by_cases he : d.tag = s
        · have HRi := Lib.hid (HRT.out rfl he)
          rw [he] at x10
          clear he HNN HRT
          go_wp2_with fail
          go_ret
          exact ⟨ret_bool HRi.out.symm, HAL.out⟩
        · have e1 := text_ne he
          have HN := Lib.hid (HNN.out (by simpa using he))
          clear he HNN HRT
          go_wp2_with fail
          go_round
          case rel => exact ⟨i + 1, by omega, by go_num, HN.out⟩
          case measure => simp [intOf]; omega
    · obtain rfl : i = k := by omega
      have hRi : R = false := by
        rw [← HR.out, List.any_eq_false]
        intro x hx
        rw [HB.out x hx]
        simp
      have HRI := Lib.hid hRi
      clear hRi
      go_wp2_with fail
      go_ret
      exact ⟨ret_bool HRI.out.symm, HAL.out⟩

theorem has_idx (D : List MsgD) (n : Nat) (s : List UInt8) : hasN (defE (D.take n)) s = decide (0 ≤ idxOf (fun d : MsgD => d.name == s) (D.take n)) := by
  rw [defE_has, Bool.eq_iff_iff, decide_eq_true_eq]
  have := idx_nonneg (fun d : MsgD => d.name == s) (D.take n) 0
  unfold idxOf
  rw [this]
  simp [List.any_eq_true]
theorem casesR_bad {E : Nats} {hi least : Int} {c : CaseD} {cs : List CaseD} (h : (decide (least ≤ c.lo) && decide (c.lo ≤ c.hi) && decide (c.hi ≤ hi)) = false) : casesR E hi least (c :: cs) = some 7 := by
  unfold casesR
  rw [h]
  rfl
theorem casesR_no {E : Nats} {hi least : Int} {c : CaseD} {cs : List CaseD} (h : (decide (least ≤ c.lo) && decide (c.lo ≤ c.hi) && decide (c.hi ≤ hi)) = true) (hn : hasN E c.of_ = false) : casesR E hi least (c :: cs) = some 8 := by
  unfold casesR
  rw [h, hn]
  rfl
theorem casesR_ok {E : Nats} {hi least : Int} {c : CaseD} {cs : List CaseD} (h : (decide (least ≤ c.lo) && decide (c.lo ≤ c.hi) && decide (c.hi ≤ hi)) = true) (hn : hasN E c.of_ = true) : casesR E hi least (c :: cs) = casesR E hi (c.hi + 1) cs := by
  conv => lhs; unfold casesR
  rw [h, hn]
  rfl
/-- What the next case's least tag may be. -/
def leastAt (lo : Int) (C : List CaseD) (i : Nat) : Int := if i = 0 then lo else (C[i - 1]?).elim lo (fun c => c.hi + 1)

set_option maxRecDepth 100000 in
set_option maxHeartbeats 12800000 in
theorem refCased (nm st : List UInt8) (A : Option Addr) (c : Nat) (D : List MsgD) (n : Nat) (hn : n ≤ D.length) (f : FieldD) (lo hi : Int) (S : Nat → Prop) (w : World) (h : SlAt MsgD.cells 2 S w A c D) (hC : SlAt CaseD.cells 3 S w f.ca f.cc f.cases) :
    Calls Tryz.prog 126 #[.agg #[.string (strL nm), .slice A D.length c, .string (strL st)], .int .i64 ((n : Nat) : Int), f.agg, .int .i64 lo, .int .i64 hi] w fun e w' => e = .returned (.int .i64 (codeI (orR (ifR (inB f.cases.length 1 40) 3) (casesR (defE (D.take n)) hi lo f.cases)))) ∧ Below w.heap.size w w' := by
  unfold FieldD.agg
  have hcl : f.cases.length ≤ 9223372036854775807 := Nat.le_trans hC.1 hC.2.1
  obtain ⟨wa, hwa⟩ : ∃ wa, w.alloc (.cells #[.string (strL nm), .slice A D.length c, .string (strL st)] 24) = wa := ⟨_, rfl⟩
  obtain ⟨w1, hw1⟩ : ∃ w1, wa.alloc (.cells #[.string (strL f.name), .int .i64 f.kind, .int .i64 f.bits, .bool f.little, .bool f.loose, .int .i64 f.low, .int .i64 f.high, .int .i64 f.base, .slice f.ta f.terms.length f.tc, .string (strL f.of_), .string (strL f.tag), .string (strL f.from_), .slice f.ca f.cases.length f.cc, .int .i64 f.check, .int .i64 f.key] 55) = w1 := ⟨_, rfl⟩
  have hw : (w.alloc (.cells #[.string (strL nm), .slice A D.length c, .string (strL st)] 24)).alloc (.cells #[.string (strL f.name), .int .i64 f.kind, .int .i64 f.bits, .bool f.little, .bool f.loose, .int .i64 f.low, .int .i64 f.high, .int .i64 f.base, .slice f.ta f.terms.length f.tc, .string (strL f.of_), .string (strL f.tag), .string (strL f.from_), .slice f.ca f.cases.length f.cc, .int .i64 f.check, .int .i64 f.key] 55) = w1 := by rw [hwa, hw1]
  have ba : Below w.heap.size w wa := by rw [← hwa]; exact below_alloc _ _
  have b1 : Below wa.heap.size wa w1 := by rw [← hw1]; exact below_alloc _ _
  have sa : wa.heap.size = w.heap.size + 1 := by rw [← hwa]; simp
  have s1 : w1.heap.size = w.heap.size + 2 := by rw [← hw1]; simp; omega
  have hb1 : Below w.heap.size w w1 := ba.trans (b1.mono (by omega))
  have hxd : w1.heap[w.heap.size]? = some (.cells #[.string (strL nm), .slice A D.length c, .string (strL st)] 24 (0, 0)) := (b1.block _ (by omega)).trans (by rw [← hwa]; exact heap_alloc_new w _)
  have hxf : FBox w1 (w.heap.size + 1) f := by rw [← hw1, ← sa]; exact FBox.new wa f
  have h1 := h.below hb1
  have hC1 := hC.below hb1
  obtain ⟨b, eb⟩ : ∃ b, w.heap.size = b := ⟨_, rfl⟩
  rw [eb] at hxd hxf s1
  have KD : Hid (∀ wx, Below w1.heap.size w1 wx → wx.cell? ⟨b, 0, none⟩ = some (.string (strL nm)) ∧ wx.cell? ⟨b, 1, none⟩ = some (.slice A D.length c) ∧ wx.cell? ⟨b, 2, none⟩ = some (.string (strL st)) ∧ FBox wx (b + 1) f) := Lib.hid (fun wx hb => by
    have := (hb.block b (by omega)).trans hxd
    exact ⟨by simp [World.cell?, this], by simp [World.cell?, this], by simp [World.cell?, this], hxf.below hb hxf.lt⟩)
  have H1 : Hid (∀ wx, Below w1.heap.size w1 wx → SlAt MsgD.cells 2 S wx A c D) := Lib.hid (fun wx hb => h1.rest (Rest.below (S := fun _ => False) hb) (fun _ _ e => e.elim))
  have HC : Hid (∀ wx, Below w1.heap.size w1 wx → SlAt CaseD.cells 3 S wx f.ca f.cc f.cases) := Lib.hid (fun wx hb => hC1.rest (Rest.below (S := fun _ => False) hb) (fun _ _ e => e.elim))
  obtain ⟨R, hR⟩ : ∃ R, codeI (orR (ifR (inB f.cases.length 1 40) 3) (casesR (defE (D.take n)) hi lo f.cases)) = R := ⟨_, rfl⟩
  rw [hR]
  have HR := Lib.hid hR
  have HW := Lib.hid hw
  have EB := Lib.hid eb
  have HB1 := Lib.hid hb1
  have HF : Hid (∀ s wx, Below w1.heap.size w1 wx → Calls Tryz.prog 50 #[.agg #[.string (strL nm), .slice A D.length c, .string (strL st)], .string (strL s), .int .i64 ((n : Nat) : Int)] wx fun e w' => e = .returned (.int .i64 (idxOf (fun d : MsgD => d.name == s) (D.take n))) ∧ Below wx.heap.size wx w') := Lib.hid (fun s wx hb => refFind_any nm st A c D s n hn S wx (H1.out wx hb))
  obtain ⟨_, _, _, hk⟩ := KD.out w1 (Below.refl _ _)
  have y12 := hk.c12
  clear h hC hwa hw1 hw ba b1 sa s1 hb1 hxd hxf h1 hC1 eb hR hk
  by_cases hc1 : f.cases.length < 1
  · have hRf := Lib.hid (show R = 3 by rw [← HR.out, show inB (f.cases.length : Int) 1 40 = false by unfold inB; rw [decide_eq_false (by omega), Bool.false_and]]; rfl)
    go_enter Tryz.func126, Tryz.ntmps126
    go_upto_region 1 with fail
    rw [HW.out, EB.out]
    go_wp2_with fail
    go_ret
    exact ⟨ret_int hRf.out.symm, HB1.out⟩
  by_cases hc2 : 40 < f.cases.length
  · have hRf := Lib.hid (show R = 3 by rw [← HR.out, show inB (f.cases.length : Int) 1 40 = false by unfold inB; rw [decide_eq_false (show ¬ (f.cases.length : Int) ≤ 40 by omega), Bool.and_false]]; rfl)
    go_enter Tryz.func126, Tryz.ntmps126
    go_upto_region 1 with fail
    rw [HW.out, EB.out]
    go_wp2_with fail
    go_ret
    exact ⟨ret_int hRf.out.symm, HB1.out⟩
  have hRc := Lib.hid (show R = codeI (casesR (defE (D.take n)) hi lo f.cases) by rw [← HR.out, show inB (f.cases.length : Int) 1 40 = true by unfold inB; rw [decide_eq_true (by omega), decide_eq_true (by omega)]; rfl]; rfl)
  go_enter Tryz.func126, Tryz.ntmps126
  go_upto_region 1 with fail
  rw [HW.out, EB.out]
  go_wp2_with fail
  clear y12
  go_loopw [11] (fun x11 wr => ∃ i : Nat, i ≤ f.cases.length ∧ x11 = .int .i64 ((i : Nat) : Int) ∧ R = codeI (casesR (defE (D.take n)) hi (leastAt lo f.cases i) (f.cases.drop i)) ∧ lo ≤ leastAt lo f.cases i ∧ Below w1.heap.size w1 wr) (fun x11 _ => f.cases.length - (intOf x11).toNat)
  case atStart => exact ⟨0, Nat.zero_le _, rfl, by simpa [leastAt] using hRc.out, by simp [leastAt], Below.refl _ _⟩
  case round =>
    obtain ⟨i, hil, rfl, hri, hlo, hb⟩ := hrel
    have HRI := Lib.hid hri
    have HB := Lib.hid hb
    have HLO := Lib.hid hlo
    obtain ⟨_, _, _, hk⟩ := KD.out _ hb
    have y12 := hk.c12
    clear hri hb hlo hk
    by_cases hlt : i < f.cases.length
    · obtain ⟨cd, hcd⟩ : ∃ cd, f.cases[i]? = some cd := ⟨_, List.getElem?_eq_getElem hlt⟩
      obtain ⟨cg, co, eca, hx⟩ := (HC.out _ HB.out).at_ hcd
      rw [eca] at y12
      have ECA := Lib.hid eca
      clear eca
      have z0 : wr.cell? ⟨cg, co + i * 3, none⟩ = some (.int .i64 cd.lo) := hx 0 _ rfl
      have z1 : wr.cell? ⟨cg, co + i * 3 + 1, none⟩ = some (.int .i64 cd.hi) := hx 1 _ rfl
      have z2 : wr.cell? ⟨cg, co + i * 3 + 2, none⟩ = some (.string (strL cd.of_)) := hx 2 _ rfl
      have hal := below_alloc wr (.cells #[.int .i64 cd.lo, .int .i64 cd.hi, .string (strL cd.of_)] 65)
      have hbx := heap_alloc_new wr (.cells #[.int .i64 cd.lo, .int .i64 cd.hi, .string (strL cd.of_)] 65)
      obtain ⟨tb, etb⟩ : ∃ tb, wr.heap.size = tb := ⟨_, rfl⟩
      obtain ⟨w2, hw2⟩ : ∃ w2, wr.alloc (.cells #[.int .i64 cd.lo, .int .i64 cd.hi, .string (strL cd.of_)] 65) = w2 := ⟨_, rfl⟩
      rw [hw2] at hal hbx
      rw [etb] at hbx
      have KT : Hid (∀ wx, Below w2.heap.size w2 wx → wx.cell? ⟨tb, 0, none⟩ = some (.int .i64 cd.lo) ∧ wx.cell? ⟨tb, 1, none⟩ = some (.int .i64 cd.hi) ∧ wx.cell? ⟨tb, 2, none⟩ = some (.string (strL cd.of_))) := Lib.hid (fun wx hb => by
        have := (hb.block tb (Array.getElem?_eq_some_iff.1 hbx).1).trans hbx
        exact ⟨by simp [World.cell?, this], by simp [World.cell?, this], by simp [World.cell?, this]⟩)
      have HB2 := Lib.hid (HB.out.trans (hal.mono HB.out.size))
      have W2 := Lib.hid hw2
      have ETB := Lib.hid etb
      have HCD := Lib.hid hcd
      obtain ⟨le, hle⟩ : ∃ l, leastAt lo f.cases i = l := ⟨_, rfl⟩
      have HLE := Lib.hid hle
      rw [hle] at HRI HLO
      have hnext : leastAt lo f.cases (i + 1) = cd.hi + 1 := by
        unfold leastAt
        rw [if_neg (by omega), Nat.add_sub_cancel, hcd]
        rfl
      have HNX := Lib.hid hnext
      have hdr : R = codeI (casesR (defE (D.take n)) hi le (cd :: f.cases.drop (i + 1))) := by rw [HRI.out, (drop_of hcd).1]
      have HDR := Lib.hid hdr
      have hi0 : (0 : Int) ≤ ((i : Nat) : Int) := by omega
      have hi1 : ((i : Nat) : Int) < ((f.cases.length : Nat) : Int) := by omega
      have hlo := HLO.out
      clear hcd hx hw2 etb hal hbx hle hnext hdr
      go_upto_region 7 with fail
      rw [W2.out, ETB.out]
      clear z0 z1 z2
      obtain ⟨t0, t1, t2⟩ := KT.out w2 (Below.refl _ _)
      obtain ⟨_, _, _, hk⟩ := KD.out _ HB2.out
      have y12 := hk.c12
      rw [ECA.out] at y12
      clear hk
      by_cases a1 : cd.lo < lo
      · have hRf := Lib.hid (show R = 7 by rw [HDR.out, casesR_bad (by rw [decide_eq_false (show ¬ le ≤ cd.lo by omega), Bool.false_and, Bool.false_and])]; rfl)
        have f1 : decide (cd.lo < lo) = true := decide_eq_true a1
        clear a1
        go_quiet (fail)
        go_wp2_with fail
        go_ret
        exact ⟨ret_int hRf.out.symm, HB1.out.trans ((HB2.out.trans ((below_drewN _ _).mono HB2.out.size)).mono HB1.out.size)⟩
      have f1 : decide (cd.lo < lo) = false := decide_eq_false a1
      by_cases a2 : cd.hi < cd.lo
      · have hRf := Lib.hid (show R = 7 by rw [HDR.out, casesR_bad (by rw [decide_eq_false (show ¬ cd.lo ≤ cd.hi by omega), Bool.and_false, Bool.false_and])]; rfl)
        have f2 : decide (cd.hi < cd.lo) = true := decide_eq_true a2
        clear a2 a1
        go_quiet (fail)
        go_wp2_with fail
        go_ret
        exact ⟨ret_int hRf.out.symm, HB1.out.trans ((HB2.out.trans ((below_drewN _ _).mono HB2.out.size)).mono HB1.out.size)⟩
      have f2 : decide (cd.hi < cd.lo) = false := decide_eq_false a2
      by_cases a3 : hi < cd.hi
      · have hRf := Lib.hid (show R = 7 by rw [HDR.out, casesR_bad (by rw [decide_eq_false (show ¬ cd.hi ≤ hi by omega), Bool.and_false])]; rfl)
        have f3 : decide (hi < cd.hi) = true := decide_eq_true a3
        clear a3 a2 a1
        go_quiet (fail)
        go_wp2_with fail
        go_ret
        exact ⟨ret_int hRf.out.symm, HB1.out.trans ((HB2.out.trans ((below_drewN _ _).mono HB2.out.size)).mono HB1.out.size)⟩
      have f3 : decide (hi < cd.hi) = false := decide_eq_false a3
      -- what a case that passes leaves
      obtain ⟨q, hq⟩ : ∃ q, idxOf (fun d : MsgD => d.name == cd.of_) (D.take n) = q := ⟨_, rfl⟩
      have hhas : hasN (defE (D.take n)) cd.of_ = decide (0 ≤ q) := by rw [has_idx, hq]
      have HHAS := Lib.hid hhas
      have HFC : Hid (∀ wx, Below w1.heap.size w1 wx → Calls Tryz.prog 50 #[.agg #[.string (strL nm), .slice A D.length c, .string (strL st)], .string (strL cd.of_), .int .i64 ((n : Nat) : Int)] wx fun e w' => e = .returned (.int .i64 q) ∧ Below wx.heap.size wx w') := Lib.hid (fun wx hb => by
        have := HF.out cd.of_ wx hb
        rwa [hq] at this)
      have HGO : Hid (le ≤ cd.lo → (q < 0 → R = 8) ∧ (¬ q < 0 → R = codeI (casesR (defE (D.take n)) hi (leastAt lo f.cases (i + 1)) (f.cases.drop (i + 1))))) := Lib.hid (fun hle => by
        have hok : (decide (le ≤ cd.lo) && decide (cd.lo ≤ cd.hi) && decide (cd.hi ≤ hi)) = true := by
          rw [decide_eq_true hle, decide_eq_true (show cd.lo ≤ cd.hi by omega), decide_eq_true (show cd.hi ≤ hi by omega)]; rfl
        refine ⟨fun hq0 => ?_, fun hq0 => ?_⟩
        · rw [HDR.out, casesR_no hok (by rw [HHAS.out, decide_eq_false (by omega)])]; rfl
        · rw [HDR.out, casesR_ok hok (by rw [HHAS.out, decide_eq_true (by omega)]), HNX.out])
      have HLN := Lib.hid (show lo ≤ leastAt lo f.cases (i + 1) by rw [HNX.out]; omega)
      clear hq hhas
      by_cases hi00 : i = 0
      · have hle0 : le = lo := by rw [← HLE.out, hi00]; rfl
        have HG := Lib.hid (HGO.out (by omega))
        have f4 : decide (0 < ((i : Nat) : Int)) = false := decide_eq_false (by omega)
        subst hi00
        clear a1 a2 a3 HGO hle0 hlo
        by_cases hq0 : q < 0
        · have hRf := Lib.hid (HG.out.1 hq0)
          go_quiet (fail)
          have hb3 := below_drewN w2 nq
          obtain ⟨w3, hw3⟩ : ∃ w3, w2.drewN nq = w3 := ⟨_, rfl⟩
          rw [hw3] at hb3 ⊢
          obtain ⟨r0, r1, r2⟩ := KT.out w3 hb3
          have HB3 := Lib.hid (HB2.out.trans (hb3.mono HB2.out.size))
          obtain ⟨d0, d1, d2, _⟩ := KD.out _ HB3.out
          clear hb3 hw3 t0 t1 t2 y12
          go_wp2_with (go_at_call 50; refine (HFC.out _ HB3.out).mono ?_; rintro e w4 ⟨rfl, hb4⟩)
          go_ret
          exact ⟨ret_int hRf.out.symm, HB1.out.trans ((HB3.out.trans (hb4.mono HB3.out.size)).mono HB1.out.size)⟩
        · have hRn := Lib.hid (HG.out.2 hq0)
          go_quiet (fail)
          have hb3 := below_drewN w2 nq
          obtain ⟨w3, hw3⟩ : ∃ w3, w2.drewN nq = w3 := ⟨_, rfl⟩
          rw [hw3] at hb3 ⊢
          obtain ⟨r0, r1, r2⟩ := KT.out w3 hb3
          have HB3 := Lib.hid (HB2.out.trans (hb3.mono HB2.out.size))
          obtain ⟨d0, d1, d2, _⟩ := KD.out _ HB3.out
          clear hb3 hw3 t0 t1 t2 y12
          go_wp2_with (go_at_call 50; refine (HFC.out _ HB3.out).mono ?_; rintro e w4 ⟨rfl, hb4⟩)
          go_roundw
          case rel => exact ⟨1, by omega, by go_num, hRn.out, HLN.out, HB3.out.trans (hb4.mono HB3.out.size)⟩
          case measure => simp [intOf]; omega
      · obtain ⟨i', rfl⟩ : ∃ i', i = i' + 1 := ⟨i - 1, by omega⟩
        obtain ⟨pc, hpc⟩ : ∃ pc, f.cases[i']? = some pc := ⟨_, List.getElem?_eq_getElem (by omega)⟩
        have hlep : le = pc.hi + 1 := by
          rw [← HLE.out]
          unfold leastAt
          rw [if_neg (by omega), Nat.add_sub_cancel, hpc]
          rfl
        obtain ⟨cg', co', eca', hx⟩ := (HC.out _ HB2.out).at_ hpc
        rw [ECA.out] at eca'
        cases eca'
        have p1 : w2.cell? ⟨cg, co + i' * 3 + 1, none⟩ = some (.int .i64 pc.hi) := hx 1 _ rfl
        have hp0 : (0 : Int) ≤ ((i' : Nat) : Int) := by omega
        have hp1 : ((i' : Nat) : Int) < ((f.cases.length : Nat) : Int) := by omega
        have hp2 : wrap64 (((i' + 1 : Nat) : Int) - 1) = ((i' : Nat) : Int) := by unfold wrap64; omega
        have f4 : decide (0 < (((i' + 1 : Nat)) : Int)) = true := decide_eq_true (by omega)
        clear hx hpc
        by_cases a5 : cd.lo ≤ pc.hi
        · have hRf := Lib.hid (show R = 7 by rw [HDR.out, casesR_bad (by rw [decide_eq_false (show ¬ le ≤ cd.lo by omega), Bool.false_and, Bool.false_and])]; rfl)
          have f5 : decide (cd.lo ≤ pc.hi) = true := decide_eq_true a5
          clear a1 a2 a3 a5 hlep HGO hlo
          go_quiet (fail)
          go_wp2_with fail
          go_ret
          exact ⟨ret_int hRf.out.symm, HB1.out.trans ((HB2.out.trans ((below_drewN _ _).mono HB2.out.size)).mono HB1.out.size)⟩
        have f5 : decide (cd.lo ≤ pc.hi) = false := decide_eq_false a5
        have HG := Lib.hid (HGO.out (by omega))
        clear a1 a2 a3 a5 hlep HGO hlo
        by_cases hq0 : q < 0
        · have hRf := Lib.hid (HG.out.1 hq0)
          go_quiet (fail)
          have hb3 := below_drewN w2 nq
          obtain ⟨w3, hw3⟩ : ∃ w3, w2.drewN nq = w3 := ⟨_, rfl⟩
          rw [hw3] at hb3 ⊢
          obtain ⟨r0, r1, r2⟩ := KT.out w3 hb3
          have HB3 := Lib.hid (HB2.out.trans (hb3.mono HB2.out.size))
          obtain ⟨d0, d1, d2, _⟩ := KD.out _ HB3.out
          clear hb3 hw3 t0 t1 t2 y12
          go_wp2_with (go_at_call 50; refine (HFC.out _ HB3.out).mono ?_; rintro e w4 ⟨rfl, hb4⟩)
          go_ret
          exact ⟨ret_int hRf.out.symm, HB1.out.trans ((HB3.out.trans (hb4.mono HB3.out.size)).mono HB1.out.size)⟩
        · have hRn := Lib.hid (HG.out.2 hq0)
          go_quiet (fail)
          have hb3 := below_drewN w2 nq
          obtain ⟨w3, hw3⟩ : ∃ w3, w2.drewN nq = w3 := ⟨_, rfl⟩
          rw [hw3] at hb3 ⊢
          obtain ⟨r0, r1, r2⟩ := KT.out w3 hb3
          have HB3 := Lib.hid (HB2.out.trans (hb3.mono HB2.out.size))
          obtain ⟨d0, d1, d2, _⟩ := KD.out _ HB3.out
          clear hb3 hw3 t0 t1 t2 y12
          go_wp2_with (go_at_call 50; refine (HFC.out _ HB3.out).mono ?_; rintro e w4 ⟨rfl, hb4⟩)
          go_roundw
          case rel => exact ⟨i' + 1 + 1, by omega, by go_num, hRn.out, HLN.out, HB3.out.trans (hb4.mono HB3.out.size)⟩
          case measure => simp [intOf]; omega
    · obtain rfl : i = f.cases.length := by omega
      have hRz := Lib.hid (show R = 0 by rw [HRI.out, List.drop_length]; rfl)
      go_wp2_with fail
      go_ret
      exact ⟨ret_int hRz.out.symm, HB1.out.trans (HB.out.mono HB1.out.size)⟩
end Go.Proofs.YtbpkppmbbpoohaaGreat
