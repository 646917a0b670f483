/- choice in an examination. Conditions: the examination and what it knows lie in memory, ranges are allowed ones. -/
import Derived.Test.YtbpkppmbbpoohaaGreatIc
import Derived.Test.YtbpkppmbbpoohaaGreatJe
import Derived.Deep.RegionHeld3
namespace Go.Proofs.YtbpkppmbbpoohaaGreat
open Go.RowKit Go.Shelf

/-- A choice by a tag. -/
def takenB (d b : FieldD) : Bool := b.kind == 9 && b.tag == d.tag
theorem Tryz.entCh1 : ∀ args w, (callFunc 141 args).run Tryz.prog w = .ok (.enter 141 args) w := enters_of Tryz.func141 (by kernel_rfl) rfl

set_option maxRecDepth 100000 in
set_option maxHeartbeats 3200000 in
theorem choice1_any (fb : Nat) (f d : FieldD) (w : World) (hf : FBox w fb f) : Calls Tryz.prog 141 (#[d.agg] ++ #[.pointer (some ⟨fb, 0, none⟩)]) w fun e w' => e = .returned (.bool (takenB f d)) ∧ Below w.heap.size w w' := by
  unfold FieldD.agg
  have hal := below_alloc w (.cells #[.string (strL d.name), .int .i64 d.kind, .int .i64 d.bits, .bool d.little, .bool d.loose, .int .i64 d.low, .int .i64 d.high, .int .i64 d.base, .slice d.ta d.terms.length d.tc, .string (strL d.of_), .string (strL d.tag), .string (strL d.from_), .slice d.ca d.cases.length d.cc, .int .i64 d.check, .int .i64 d.key] 55)
  have hbx := FBox.new w d
  obtain ⟨b, eb⟩ : ∃ b, w.heap.size = b := ⟨_, rfl⟩
  obtain ⟨w1, hw1⟩ : ∃ w1, w.alloc (.cells #[.string (strL d.name), .int .i64 d.kind, .int .i64 d.bits, .bool d.little, .bool d.loose, .int .i64 d.low, .int .i64 d.high, .int .i64 d.base, .slice d.ta d.terms.length d.tc, .string (strL d.of_), .string (strL d.tag), .string (strL d.from_), .slice d.ca d.cases.length d.cc, .int .i64 d.check, .int .i64 d.key] 55) = w1 := ⟨_, rfl⟩
  rw [hw1] at hal hbx
  rw [eb] at hbx
  have HW := Lib.hid hw1
  have EB := Lib.hid eb
  have HAL := Lib.hid hal
  have HBX := Lib.hid hbx
  clear hal hbx eb hw1
  have y1 := HBX.out.c1
  have y9 := HBX.out.c10
  have z9 := (hf.below HAL.out hf.lt).c10
  unfold takenB
  clear hf
  show Calls Tryz.prog 141 #[.agg #[.string (strL d.name), .int .i64 d.kind, .int .i64 d.bits, .bool d.little, .bool d.loose, .int .i64 d.low, .int .i64 d.high, .int .i64 d.base, .slice d.ta d.terms.length d.tc, .string (strL d.of_), .string (strL d.tag), .string (strL d.from_), .slice d.ca d.cases.length d.cc, .int .i64 d.check, .int .i64 d.key], .pointer (some ⟨fb, 0, none⟩)] w _
  by_cases h9 : d.kind = 9
  · have e9 : (d.kind == 9) = true := by simp [h9]
    rw [e9]
    by_cases ht : d.tag = f.tag
    · have et : ((strL d.tag).toList == (strL f.tag).toList) = true := by rw [strL_toList, strL_toList]; simpa using ht
      have HT := Lib.hid (show (d.tag == f.tag) = true by simpa using ht)
      clear ht h9
      go_enter Tryz.func141, Tryz.ntmps141
      go_upto_region 1 with fail
      rw [HW.out, EB.out]
      go_wp2_with fail
      go_ret
      exact ⟨by rw [HT.out]; rfl, HAL.out⟩
    · have et := text_ne ht
      have HT := Lib.hid (show (d.tag == f.tag) = false by simpa using ht)
      clear ht h9
      go_enter Tryz.func141, Tryz.ntmps141
      go_upto_region 1 with fail
      rw [HW.out, EB.out]
      go_wp2_with fail
      go_ret
      exact ⟨by rw [HT.out]; rfl, HAL.out⟩
  · have e9 : (d.kind == 9) = false := by simp [h9]
    rw [e9]
    clear h9
    go_enter Tryz.func141, Tryz.ntmps141
    go_upto_region 1 with fail
    rw [HW.out, EB.out]
    go_wp2_with fail
    go_ret
    exact ⟨rfl, HAL.out⟩

/-- The cases of a choice, from the least tag on. -/
def casesR (E : Nats) (hi : Int) : Int → List CaseD → Option Int
  | _, [] => none
  | least, c :: cs => orR (ifR (decide (least ≤ c.lo) && decide (c.lo ≤ c.hi) && decide (c.hi ≤ hi)) 7) (orR (ifR (hasN E c.of_) 8) (casesR E hi (c.hi + 1) cs))
def choiceR (E : Nats) (B : List FieldD) (d : FieldD) : Option Int :=
  orR (ifR ((getP (ransP B) d.tag).isSome && !(B.any (takenB d))) 8) (orR (ifR (inB d.cases.length 1 40) 3) (casesR E ((getP (ransP B) d.tag).getD (0, 0)).2 ((getP (ransP B) d.tag).getD (0, 0)).1 d.cases))

set_option maxRecDepth 100000 in
set_option maxHeartbeats 6400000 in
theorem choice_any (x kr kk cc : Nat) (m f : Int) (A : Option Addr) (B : List FieldD) (d : FieldD) (E : Nats) (S : Nat → Prop) (w : World) (hx : ExAt w x m f kr A B.length cc kk) (hB : SlAt FieldD.cells 15 S w A cc B) (hm : MapAt w kr (natE E)) (hC : SlAt CaseD.cells 3 S w d.ca d.cc d.cases)
    (hal : ∀ p, getP (ransP B) d.tag = some p → allowP p = true) :
    Calls Tryz.prog 111 #[.pointer (some ⟨x, 0, none⟩), d.agg] w fun e w' => e = doE (choiceR E B d) m f ∧ Below w.heap.size w w' := by
  unfold FieldD.agg
  have hcl : d.cases.length ≤ 9223372036854775807 := Nat.le_trans hC.1 hC.2.1
  have HHL := Lib.hid hal
  clear hal
  have HB0 := Lib.hid hB
  have HM0 := Lib.hid hm
  have HC0 := Lib.hid hC
  clear hB hm hC
  have hal := below_alloc w (.cells #[.string (strL d.name), .int .i64 d.kind, .int .i64 d.bits, .bool d.little, .bool d.loose, .int .i64 d.low, .int .i64 d.high, .int .i64 d.base, .slice d.ta d.terms.length d.tc, .string (strL d.of_), .string (strL d.tag), .string (strL d.from_), .slice d.ca d.cases.length d.cc, .int .i64 d.check, .int .i64 d.key] 55)
  have hbx := FBox.new w d
  have hx1 := hx.below hal hx.lt
  obtain ⟨b, eb⟩ : ∃ b, w.heap.size = b := ⟨_, rfl⟩
  obtain ⟨w1, hw1⟩ : ∃ w1, w.alloc (.cells #[.string (strL d.name), .int .i64 d.kind, .int .i64 d.bits, .bool d.little, .bool d.loose, .int .i64 d.low, .int .i64 d.high, .int .i64 d.base, .slice d.ta d.terms.length d.tc, .string (strL d.of_), .string (strL d.tag), .string (strL d.from_), .slice d.ca d.cases.length d.cc, .int .i64 d.check, .int .i64 d.key] 55) = w1 := ⟨_, rfl⟩
  rw [hw1] at hal hbx hx1
  rw [eb] at hbx
  have HW := Lib.hid hw1
  have EB := Lib.hid eb
  have HAL := Lib.hid hal
  have HBX := Lib.hid hbx
  have HX := Lib.hid hx1
  clear hal hbx hx1 eb hw1 hx
  have KB : Hid (∀ wx, Below w1.heap.size w1 wx → FBox wx b d ∧ ExAt wx x m f kr A B.length cc kk) := Lib.hid (fun wx hb => ⟨HBX.out.below hb HBX.out.lt, HX.out.below hb HX.out.lt⟩)
  have KM : Hid (∀ wx, Below w1.heap.size w1 wx → MapAt wx kr (natE E) ∧ SlAt FieldD.cells 15 S wx A cc B ∧ SlAt CaseD.cells 3 S wx d.ca d.cc d.cases) := Lib.hid (fun wx hb => by
    have h := HAL.out.trans (hb.mono HAL.out.size)
    exact ⟨HM0.out.below h HM0.out.lt, HB0.out.below h, HC0.out.below h⟩)
  have HDM : ∀ bv cd wx, Below w1.heap.size w1 wx → Hid (Calls Tryz.prog 115 #[.pointer (some ⟨x, 0, none⟩), .bool bv, .int .i64 cd] wx fun e w' => e = doE (ifR bv cd) m f ∧ Below wx.heap.size wx w') := fun bv cd wx hb => Lib.hid (demand_any x kr kk B.length cc m f A bv cd wx (KB.out wx hb).2)
  have HRG : Hid (∀ wx, Below w1.heap.size w1 wx → Calls Tryz.prog 137 #[.pointer (some ⟨x, 0, none⟩)] wx fun e w' => ∃ r, e = .returned (.map (some r)) ∧ wx.heap.size ≤ r ∧ MapAt w' r (pE (ransP B)) ∧ Below wx.heap.size wx w') := Lib.hid (fun wx hb => exRanges x kr kk cc m f A B S wx (KB.out wx hb).2 (KM.out wx hb).2.1)
  unfold choiceR
  obtain ⟨o, ho⟩ : ∃ o, getP (ransP B) d.tag = o := ⟨_, rfl⟩
  rw [ho] at HHL ⊢
  have KL : Hid (∀ wx r, MapAt wx r (pE (ransP B)) → (Instr.lookup 77 (.map (some r)) (.string (strL d.tag)) true).run Tryz.prog wx = .ok (.tuple #[.agg #[.int .i64 (o.getD (0, 0)).1, .int .i64 (o.getD (0, 0)).2], .bool o.isSome]) wx) := Lib.hid (fun wx r h => by
    have hrun := run_look_ok (P := Tryz.prog) Tryz.underlying77 Tryz.ustr (Tryz.zeroRan wx) h d.tag
    have hh : hasE (pE (ransP B)) d.tag = o.isSome := by
      unfold hasE
      rw [getE_p, ho]
      cases o <;> rfl
    rw [hrun, hh, getE_p, ho]
    cases o <;> rfl)
  obtain ⟨lo, hlo⟩ : ∃ lo, (o.getD (0, 0)).1 = lo := ⟨_, rfl⟩
  obtain ⟨hi, hhi⟩ : ∃ hi, (o.getD (0, 0)).2 = hi := ⟨_, rfl⟩
  have HLH := Lib.hid (show hi < 34359738368 ∧ 0 ≤ lo by
    rw [← hhi, ← hlo]
    cases o with
    | none => decide
    | some p =>
      have := HHL.out p rfl
      unfold allowP at this
      simp only [Bool.and_eq_true, decide_eq_true_eq] at this
      exact ⟨this.2.2, this.1⟩)
  rw [hlo, hhi] at KL ⊢
  obtain ⟨nm, hnm⟩ : ∃ nm, o.isSome = nm := ⟨_, rfl⟩
  rw [hnm] at KL ⊢
  clear hlo hhi hnm ho HHL
  have KEEP : Hid (∀ wx, Below w1.heap.size w1 wx → Below w1.heap.size w1 wx ∧ wx.cell? ⟨b, 10, none⟩ = some (.string (strL d.tag))) := Lib.hid (fun wx hb => ⟨hb, (KB.out wx hb).1.c10⟩)
  obtain ⟨tk, htk⟩ : ∃ tk, B.any (takenB d) = tk := ⟨_, rfl⟩
  have HTK := Lib.hid htk
  rw [htk]
  obtain ⟨c1, hc1⟩ : ∃ c, inB d.cases.length 1 40 = c := ⟨_, rfl⟩
  have HI := fun w => Lib.hid (withinS d.cases.length 1 40 w)
  rw [hc1] at HI ⊢
  obtain ⟨RR, hRR⟩ : ∃ r, orR (ifR (nm && !tk) 8) (orR (ifR c1 3) (casesR E hi lo d.cases)) = r := ⟨_, rfl⟩
  rw [hRR]
  have HRR := Lib.hid hRR
  clear htk hc1 hRR
  have ALZ : Hid (∀ w', Below ((w1.alloc (.cells #[.int .i64 0, .int .i64 0] 80)).drew).heap.size (w1.alloc (.cells #[.int .i64 0, .int .i64 0] 80)).drew w' → w'.cell? ⟨w1.heap.size, 0, none⟩ = some (.int .i64 0) ∧ w'.cell? ⟨w1.heap.size, 1, none⟩ = some (.int .i64 0) ∧ (∀ o, w'.frozen? ⟨w1.heap.size, o, none⟩ = false) ∧ w'.heap[w1.heap.size]? = some (.cells #[.int .i64 0, .int .i64 0] 80 (0, 0))) := Lib.hid (fun w' hb => by
    have h0 := heap_alloc_new w1 (.cells #[.int .i64 0, .int .i64 0] 80)
    have h := (hb.block w1.heap.size (Array.getElem?_eq_some_iff.1 h0).1).trans h0
    exact ⟨by simp [World.cell?, h], by simp [World.cell?, h], fun o => by simp [World.frozen?, h], h⟩)
  have q10 := HBX.out.c10
  go_enter Tryz.func111, Tryz.ntmps111
  go_upto_region 1 with fail
  rw [HW.out, EB.out]
  go_cut [4, 5] from 18 (fun x4 x5 wx => ∃ tb, x4 = .pointer (some ⟨tb, 0, none⟩) ∧ x5 = .bool nm ∧ PBox wx tb lo hi ∧ Below w1.heap.size w1 wx)
  case first =>
    go_region_held (fun wx => Below w1.heap.size w1 wx ∧ wx.cell? ⟨b, 10, none⟩ = some (.string (strL d.tag))) (first | exact KEEP.out _ (Below.refl _ _).drew | exact KEEP.out _ HB2.out | (refine KEEP.out _ ?_; exact (HB2.out.alloc HB2.out.size _)) | (refine KEEP.out _ ?_; exact ((Below.refl w1.heap.size w1).alloc (Nat.le_refl _) _).drew) | (refine KEEP.out _ ?_; exact ((Below.refl w1.heap.size w1).drew.alloc (Nat.le_refl _) _)) | (refine KEEP.out _ ?_; exact ((HB2.out.setCell (p := ⟨w1.heap.size, 0, none⟩) (Nat.le_refl _) _).setCell (p := ⟨w1.heap.size, 1, none⟩) (Nat.le_refl _) _))) (first | (go_at_call 137; refine (HRG.out _ (And.left (by assumption))).mono ?_; rintro e w2 ⟨r, rfl, hr2, hm2, hb2⟩; have HB2 := Lib.hid (Below.trans (And.left (by assumption : _ ∧ _)) (hb2.mono (Below.size (And.left (by assumption : _ ∧ _))))); have hl0 := KL.out w2 r hm2; have hl1 := fun o => KL.out (w2.alloc o) r (hm2.below (below_alloc w2 o) hm2.lt); clear hr2 hm2; try (have hz := ALZ.out _ hb2; have z0 := hz.1; have z1 := hz.2.1; have fz := hz.2.2.1; have HZ2 := Lib.hid hz.2.2.2)))
    all_goals
      go_wp2_with fail
      go_meet
      case rel => first
        | exact ⟨_, rfl, rfl, PBox.new _ _ _, HB2.out.alloc HB2.out.size _⟩
        | exact ⟨_, rfl, rfl, ⟨by
            have h := heap_setCell_same _ w1.heap.size 1 _ 80 (.int .i64 hi) (heap_setCell_same w2 w1.heap.size 0 _ 80 (.int .i64 lo) HZ2.out)
            simp only [List.setIfInBounds_toArray, List.set_cons_zero, List.set_cons_succ] at h
            exact h⟩, (HB2.out.setCell (p := ⟨w1.heap.size, 0, none⟩) (Nat.le_refl _) _).setCell (p := ⟨w1.heap.size, 1, none⟩) (Nat.le_refl _) _⟩
  case rest =>
  obtain ⟨tb, rfl, rfl, hp, hb⟩ := hcut
  obtain ⟨w3, hw3⟩ : ∃ w3, wc = w3 := ⟨_, rfl⟩
  rw [hw3] at hp hb ⊢
  have HB3 := Lib.hid hb
  have KP : Hid (∀ wx, Below w3.heap.size w3 wx → PBox wx tb lo hi) := Lib.hid (fun wx hb => hp.below hb hp.lt)
  clear hw3 hp hb q10 KL ALZ
  have HFC := Lib.hid (fieldsContain 141 #[.pointer (some ⟨b, 0, none⟩)] Tryz.entCh1 (takenB d) A cc B S w3 (KM.out w3 HB3.out).2.1 (fun e he wx hb => choice1_any b d e wx (KB.out wx (HB3.out.trans (hb.mono HB3.out.size))).1))
  rw [HTK.out] at HFC
  have u4 := (KB.out w3 HB3.out).2.c4
  go_wp2_with fail
  refine HFC.out.mono ?_
  rintro e w4 ⟨rfl, hb4⟩
  have HB34 := Lib.hid hb4
  have HB4 := Lib.hid (HB3.out.trans (hb4.mono HB3.out.size))
  clear hb4 u4 HFC
  cases nm
  case false =>
    go_wp2_with fail
    have HD := Lib.hid (HDM false 8 w4 HB4.out).out
    unfold ifR doE flawE at HD
    simp only [Bool.false_eq_true, if_false] at HD
    refine HD.out.mono ?_
    rintro e w5 ⟨rfl, hb5⟩
    exact ⟨rfl, by rw [← HRR.out]; rfl, HAL.out.trans ((HB4.out.trans (hb5.mono HB4.out.size)).mono HAL.out.size)⟩
  case true =>
  cases tk
  case true =>
    go_wp2_with fail
    have HD := Lib.hid (HDM false 8 w4 HB4.out).out
    unfold ifR doE flawE at HD
    simp only [Bool.false_eq_true, if_false] at HD
    refine HD.out.mono ?_
    rintro e w5 ⟨rfl, hb5⟩
    exact ⟨rfl, by rw [← HRR.out]; rfl, HAL.out.trans ((HB4.out.trans (hb5.mono HB4.out.size)).mono HAL.out.size)⟩
  case false =>
  go_wp2_with fail
  have HD := Lib.hid (HDM true 8 w4 HB4.out).out
  unfold ifR doE at HD
  simp only [if_true] at HD
  refine HD.out.mono ?_
  rintro e w5 ⟨rfl, hb5⟩
  have HB5 := Lib.hid (HB4.out.trans (hb5.mono HB4.out.size))
  have HB35 := Lib.hid (HB34.out.trans (hb5.mono HB34.out.size))
  clear hb5 HD
  have u12 := (KB.out w5 HB5.out).1.c12
  go_wp2_with (go_at_call 102; refine ((HI _).out).mono ?_; rintro e w' ⟨rfl, hw'⟩; have hw'' := hw'.symm; clear hw'; subst hw'')
  cases c1
  case false =>
    have HD := Lib.hid (HDM false 3 w5 HB5.out).out
    unfold ifR doE flawE at HD
    simp only [Bool.false_eq_true, if_false] at HD
    refine HD.out.mono ?_
    rintro e w6 ⟨rfl, hb6⟩
    exact ⟨rfl, by rw [← HRR.out]; rfl, HAL.out.trans ((HB5.out.trans (hb6.mono HB5.out.size)).mono HAL.out.size)⟩
  case true =>
  have HD := Lib.hid (HDM true 3 w5 HB5.out).out
  unfold ifR doE at HD
  simp only [if_true] at HD
  refine HD.out.mono ?_
  rintro e w6 ⟨rfl, hb6⟩
  have HB6 := Lib.hid (HB5.out.trans (hb6.mono HB5.out.size))
  have HB36 := Lib.hid (HB35.out.trans (hb6.mono HB35.out.size))
  clear hb6 HD u12 HI
  have HRR : Hid (casesR E hi lo d.cases = RR) := HRR
  have u12 := (KB.out w6 HB6.out).1.c12
  have t0 := (KP.out w6 HB36.out).c0
  go_wp2_with fail
  clear u12 t0
  go_loopw [7, 42] (fun x7 x42 wr => ∃ (i : Nat) (least : Int), i ≤ d.cases.length ∧ x42 = .int .i64 ((i : Nat) : Int) ∧ x7 = .int .i64 least ∧ 0 ≤ least ∧ casesR E hi least (d.cases.drop i) = RR ∧ Below w6.heap.size w6 wr) (fun _ x42 _ => d.cases.length - (intOf x42).toNat)
  case atStart => exact ⟨0, lo, Nat.zero_le _, rfl, rfl, HLH.out.2, HRR.out, Below.refl _ _⟩
  case round =>
    obtain ⟨i, least, hi2, rfl, rfl, hl0, hr, hbw⟩ := hrel
    have HR := Lib.hid hr
    have HBW := Lib.hid hbw
    have HL0 := Lib.hid hl0
    have HB7 := Lib.hid (HB6.out.trans (hbw.mono HB6.out.size))
    have HB37 := Lib.hid (HB36.out.trans (hbw.mono HB36.out.size))
    clear hr hbw hl0
    by_cases hlt : i < d.cases.length
    case neg =>
      obtain rfl : i = d.cases.length := by omega
      have hrn : RR = none := by rw [← HR.out, List.drop_length]; rfl
      have HRN := Lib.hid hrn
      clear hrn
      go_wp2_with fail
      go_end0
      exact ⟨by rw [HRN.out]; rfl, HAL.out.trans (HB7.out.mono HAL.out.size)⟩
    case pos =>
    obtain ⟨c, hc⟩ : ∃ c, d.cases[i]? = some c := ⟨_, List.getElem?_eq_getElem hlt⟩
    have hdr : d.cases.drop i = c :: d.cases.drop (i + 1) := (drop_of hc).1
    have HR2 : Hid (orR (ifR (decide (least ≤ c.lo) && decide (c.lo ≤ c.hi) && decide (c.hi ≤ hi)) 7) (orR (ifR (hasN E c.of_) 8) (casesR E hi (c.hi + 1) (d.cases.drop (i + 1)))) = RR) := Lib.hid (by have h := HR.out; rw [hdr, casesR] at h; exact h)
    obtain ⟨cg, co, hca, hx⟩ := (KM.out wr HB7.out).2.2.at_ hc
    have HCA := Lib.hid hca
    have x0 : wr.cell? ⟨cg, co + i * 3, none⟩ = some (.int .i64 c.lo) := hx 0 _ rfl
    have x1 : wr.cell? ⟨cg, co + i * 3 + 1, none⟩ = some (.int .i64 c.hi) := hx 1 _ rfl
    have x2 : wr.cell? ⟨cg, co + i * 3 + 2, none⟩ = some (.string (strL c.of_)) := hx 2 _ rfl
    have hn0 : (0 : Int) ≤ ((i : Nat) : Int) := by omega
    have hn1 : ((i : Nat) : Int) < ((d.cases.length : Nat) : Int) := by omega
    have hal := below_alloc wr (.cells #[.int .i64 c.lo, .int .i64 c.hi, .string (strL c.of_)] 65)
    have hbx := heap_alloc_new wr (.cells #[.int .i64 c.lo, .int .i64 c.hi, .string (strL c.of_)] 65)
    obtain ⟨cb, ecb⟩ : ∃ g, wr.heap.size = g := ⟨_, rfl⟩
    obtain ⟨w8, hw8⟩ : ∃ w', wr.alloc (.cells #[.int .i64 c.lo, .int .i64 c.hi, .string (strL c.of_)] 65) = w' := ⟨_, rfl⟩
    rw [hw8] at hal hbx
    rw [ecb] at hbx
    have W8 := Lib.hid hw8
    have ECB := Lib.hid ecb
    have HB8 := Lib.hid (HB7.out.trans (hal.mono HB7.out.size))
    have HB38 := Lib.hid (HB37.out.trans (hal.mono HB37.out.size))
    have HBW8 := Lib.hid (HBW.out.trans (hal.mono HBW.out.size))
    have KCB : Hid (∀ wx, Below w8.heap.size w8 wx → wx.cell? ⟨cb, 0, none⟩ = some (.int .i64 c.lo) ∧ wx.cell? ⟨cb, 1, none⟩ = some (.int .i64 c.hi) ∧ wx.cell? ⟨cb, 2, none⟩ = some (.string (strL c.of_))) := Lib.hid (fun wx hb => by
      have h := (hb.block cb (Array.getElem?_eq_some_iff.1 hbx).1).trans hbx
      exact ⟨by simp [World.cell?, h], by simp [World.cell?, h], by simp [World.cell?, h]⟩)
    have e40 : (.slice d.ca d.cases.length d.cc : Value) = .slice (some ⟨cg, co, none⟩) d.cases.length d.cc := by rw [hca]
    rw [e40]
    have HLT := Lib.hid hlt
    clear hc hdr hx hal hbx hw8 ecb hca e40 hlt
    go_upto_region 9 with fail
    rw [W8.out, ECB.out]
    clear x0 x1 x2
    obtain ⟨y0, y1, y2⟩ := KCB.out w8 (Below.refl _ _)
    have t1 := (KP.out w8 HB38.out).c1
    by_cases g1 : least ≤ c.lo
    case neg =>
      have hg1 : decide (least ≤ c.lo) = false := decide_eq_false g1
      have hrn : RR = some 7 := by rw [← HR2.out]; simp [ifR, orR, hg1]
      have HRN := Lib.hid hrn
      clear hrn
      go_wp2_with fail
      have HD := Lib.hid (HDM false 7 w8 HB8.out).out
      unfold ifR doE flawE at HD
      simp only [Bool.false_eq_true, if_false] at HD
      refine HD.out.mono ?_
      rintro e w9 ⟨rfl, hb9⟩
      exact ⟨rfl, by rw [HRN.out]; rfl, HAL.out.trans ((HB8.out.trans (hb9.mono HB8.out.size)).mono HAL.out.size)⟩
    case pos =>
    have hg1 : decide (least ≤ c.lo) = true := decide_eq_true g1
    by_cases g2 : c.lo ≤ c.hi
    case neg =>
      have hg2 : decide (c.lo ≤ c.hi) = false := decide_eq_false g2
      have hrn : RR = some 7 := by rw [← HR2.out]; simp [ifR, orR, hg1, hg2]
      have HRN := Lib.hid hrn
      clear hrn
      go_wp2_with fail
      have HD := Lib.hid (HDM false 7 w8 HB8.out).out
      unfold ifR doE flawE at HD
      simp only [Bool.false_eq_true, if_false] at HD
      refine HD.out.mono ?_
      rintro e w9 ⟨rfl, hb9⟩
      exact ⟨rfl, by rw [HRN.out]; rfl, HAL.out.trans ((HB8.out.trans (hb9.mono HB8.out.size)).mono HAL.out.size)⟩
    case pos =>
    have hg2 : decide (c.lo ≤ c.hi) = true := decide_eq_true g2
    by_cases g3 : c.hi ≤ hi
    case neg =>
      have hg3 : decide (c.hi ≤ hi) = false := decide_eq_false g3
      have hrn : RR = some 7 := by rw [← HR2.out]; simp [ifR, orR, hg1, hg2, hg3]
      have HRN := Lib.hid hrn
      clear hrn
      go_wp2_with fail
      have HD := Lib.hid (HDM false 7 w8 HB8.out).out
      unfold ifR doE flawE at HD
      simp only [Bool.false_eq_true, if_false] at HD
      refine HD.out.mono ?_
      rintro e w9 ⟨rfl, hb9⟩
      exact ⟨rfl, by rw [HRN.out]; rfl, HAL.out.trans ((HB8.out.trans (hb9.mono HB8.out.size)).mono HAL.out.size)⟩
    case pos =>
    have hg3 : decide (c.hi ≤ hi) = true := decide_eq_true g3
    have HR3 : Hid (orR (ifR (hasN E c.of_) 8) (casesR E hi (c.hi + 1) (d.cases.drop (i + 1))) = RR) := Lib.hid (by have h := HR2.out; rw [hg1, hg2, hg3] at h; exact h)
    have HLN := Lib.hid (show 0 ≤ c.hi + 1 ∧ c.hi + 1 ≤ 9223372036854775807 by have := HL0.out; have := HLH.out.1; omega)
    clear HR2
    go_wp2_with fail
    have HD := Lib.hid (HDM true 7 w8 HB8.out).out
    unfold ifR doE at HD
    simp only [if_true] at HD
    refine HD.out.mono ?_
    rintro e w9 ⟨rfl, hb9⟩
    have HB9 := Lib.hid (HB8.out.trans (hb9.mono HB8.out.size))
    have HB39 := Lib.hid (HB38.out.trans (hb9.mono HB38.out.size))
    have HBW9 := Lib.hid (HBW8.out.trans (hb9.mono HBW8.out.size))
    have HB89 := Lib.hid hb9
    clear hb9 HD y0 y1 y2 t1 g1 g2 g3 hg1 hg2 hg3
    obtain ⟨y0, y1, y2⟩ := KCB.out w9 HB89.out
    have HPS := Lib.hid (passed_any x kr kk B.length cc m f A w9 E c.of_ (KB.out w9 HB9.out).2 (KM.out w9 HB9.out).1)
    obtain ⟨pv, hpv⟩ : ∃ v, hasN E c.of_ = v := ⟨_, rfl⟩
    rw [hpv] at HPS HR3
    clear hpv
    go_wp2_with fail
    refine HPS.out.mono ?_
    rintro e w10 ⟨rfl, hb10⟩
    have HB10 := Lib.hid (HB9.out.trans (hb10.mono HB9.out.size))
    have HB310 := Lib.hid (HB39.out.trans (hb10.mono HB39.out.size))
    have HBW10 := Lib.hid (HBW9.out.trans (hb10.mono HBW9.out.size))
    have HB810 := Lib.hid (HB89.out.trans (hb10.mono HB89.out.size))
    clear hb10 y0 y1 y2
    go_wp2_with fail
    cases pv
    case false =>
      have hrn : RR = some 8 := HR3.out.symm
      have HRN := Lib.hid hrn
      clear hrn
      have HD := Lib.hid (HDM false 8 w10 HB10.out).out
      unfold ifR doE flawE at HD
      simp only [Bool.false_eq_true, if_false] at HD
      refine HD.out.mono ?_
      rintro e w11 ⟨rfl, hb11⟩
      exact ⟨rfl, by rw [HRN.out]; rfl, HAL.out.trans ((HB10.out.trans (hb11.mono HB10.out.size)).mono HAL.out.size)⟩
    case true =>
    have HD := Lib.hid (HDM true 8 w10 HB10.out).out
    unfold ifR doE at HD
    simp only [if_true] at HD
    refine HD.out.mono ?_
    rintro e w11 ⟨rfl, hb11⟩
    have HBW11 := Lib.hid (HBW10.out.trans (hb11.mono HBW10.out.size))
    have HB811 := Lib.hid (HB810.out.trans (hb11.mono HB810.out.size))
    clear hb11 HD
    have HR4 : Hid (casesR E hi (c.hi + 1) (d.cases.drop (i + 1)) = RR) := HR3
    obtain ⟨y0, y1, y2⟩ := KCB.out w11 HB811.out
    obtain ⟨nl, hnl⟩ : ∃ nl, c.hi + 1 = nl := ⟨_, rfl⟩
    have hwr2 : wrap64 (c.hi + 1) = nl := by
      have := HLN.out
      rw [← hnl]
      unfold wrap64
      omega
    rw [hnl] at HLN HR4
    have HWR := Lib.hid hwr2
    clear hnl hwr2
    go_wp2_with fail
    clear y0 y1 y2
    have hlt := HLT.out
    go_roundw
    case rel => exact ⟨i + 1, nl, by omega, by go_num, by rw [HWR.out], HLN.out.1, HR4.out, HBW11.out⟩
    case measure => simp [intOf]; omega
end Go.Proofs.YtbpkppmbbpoohaaGreat
