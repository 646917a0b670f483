/- The condition on sizes: any size whose numbers that exist have allowed ranges. Conditions: the examination, its fields and the terms lie in memory. -/
import Derived.Test.YtbpkppmbbpoohaaGreatRz
import Derived.Test.YtbpkppmbbpoohaaGreatRq
import Derived.Test.YtbpkppmbbpoohaaGreatLk
namespace Go.Proofs.YtbpkppmbbpoohaaGreat
open Go.RowKit Go.Shelf
attribute [local go_sem] Oper.semAt_some

set_option maxRecDepth 100000 in
set_option maxHeartbeats 6400000 in
theorem exSize_miss (x kr kk c : Nat) (m f : Int) (A : Option Addr) (B : List FieldD) (d : FieldD) (S : Nat → Prop) (w : World) (hx : ExAt w x m f kr A B.length c kk) (hB : SlAt FieldD.cells 15 S w A c B) (hT : SlAt TermD.cells 2 S w d.ta d.tc d.terms) (hv : validS d.base d.terms = true) (hmiss : ¬ ∀ t ∈ d.terms, (getP (ransP B) t.f).isSome = true) :
    Calls Tryz.prog 106 #[.pointer (some ⟨x, 0, none⟩), d.agg] w fun e w' => e = flawE m f 8 ∧ Below w.heap.size w w' := by
  unfold FieldD.agg
  obtain ⟨wa, hwa⟩ : ∃ wa, w.alloc (.cells #[.pointer (some ⟨x, 0, none⟩)] 152) = wa := ⟨_, rfl⟩
  obtain ⟨w1, hw1⟩ : ∃ w1, wa.alloc (.cells #[.string (strL d.name), .int .i64 d.kind, .int .i64 d.bits, .bool d.little, .bool d.loose, .int .i64 d.low, .int .i64 d.high, .int .i64 d.base, .slice d.ta d.terms.length d.tc, .string (strL d.of_), .string (strL d.tag), .string (strL d.from_), .slice d.ca d.cases.length d.cc, .int .i64 d.check, .int .i64 d.key] 55) = w1 := ⟨_, rfl⟩
  have hw : (w.alloc (.cells #[.pointer (some ⟨x, 0, none⟩)] 152)).alloc (.cells #[.string (strL d.name), .int .i64 d.kind, .int .i64 d.bits, .bool d.little, .bool d.loose, .int .i64 d.low, .int .i64 d.high, .int .i64 d.base, .slice d.ta d.terms.length d.tc, .string (strL d.of_), .string (strL d.tag), .string (strL d.from_), .slice d.ca d.cases.length d.cc, .int .i64 d.check, .int .i64 d.key] 55) = w1 := by rw [hwa, hw1]
  have ba : Below w.heap.size w wa := by rw [← hwa]; exact below_alloc _ _
  have b1 : Below wa.heap.size wa w1 := by rw [← hw1]; exact below_alloc _ _
  have hb0 : Below w.heap.size w w1 := ba.trans (b1.mono ba.size)
  have s1 : wa.heap.size = w.heap.size + 1 := by rw [← hwa]; simp
  have s2 : w1.heap.size = w.heap.size + 2 := by rw [← hw1]; simp; omega
  have x1 : Boxed w1 w.heap.size 152 (.pointer (some ⟨x, 0, none⟩)) := boxed_below (by rw [← hwa]; exact Boxed.new w _ _) b1 (by omega)
  have x2 : FBox w1 (w.heap.size + 1) d := by rw [← hw1, ← s1]; exact FBox.new wa d
  have hx1 := hx.below hb0 hx.lt
  have hB1 := hB.below hb0
  have hT1 := hT.below hb0
  obtain ⟨b, eb⟩ : ∃ b, w.heap.size = b := ⟨_, rfl⟩
  rw [eb] at x1 x2 s2
  have KEEP : Hid (∀ wx, Below w1.heap.size w1 wx → wx.cell? ⟨b, 0, none⟩ = some (.pointer (some ⟨x, 0, none⟩)) ∧ wx.cell? ⟨b + 1, 7, none⟩ = some (.int .i64 d.base) ∧ wx.cell? ⟨b + 1, 8, none⟩ = some (.slice d.ta d.terms.length d.tc)) := Lib.hid (fun wx hb => ⟨(boxed_below x1 hb x1.lt).cell, (x2.below hb x2.lt).c7, (x2.below hb x2.lt).c8⟩)
  have KX : Hid (∀ wx, Below w1.heap.size w1 wx → ExAt wx x m f kr A B.length c kk ∧ SlAt FieldD.cells 15 S wx A c B ∧ SlAt TermD.cells 2 S wx d.ta d.tc d.terms) := Lib.hid (fun wx hb => ⟨hx1.below hb hx1.lt, hB1.below hb, hT1.below hb⟩)
  have HV : Hid (∀ wx, Below w1.heap.size w1 wx → Calls Tryz.prog 136 #[.agg #[.int .i64 d.base, .slice d.ta d.terms.length d.tc]] wx fun e w' => e = .returned (.bool true) ∧ Below wx.heap.size wx w') := Lib.hid (fun wx hb => by
    have := sizeValid d.base d.ta d.tc d.terms S wx (KX.out wx hb).2.2
    rwa [hv] at this)
  have HD : Hid (∀ cc wx, Calls Tryz.prog 115 #[.pointer (some ⟨x, 0, none⟩), .bool true, .int .i64 cc] wx fun e w' => e = .returned (.tuple #[]) ∧ w' = wx) := Lib.hid (fun cc wx => demand_ok _ cc wx)
  have HMISS := Lib.hid hmiss
  have HVV := Lib.hid hv
  have HW := Lib.hid hw
  have EB := Lib.hid eb
  have HB0 := Lib.hid hb0
  have S2 := Lib.hid s2
  obtain ⟨y0, y7, y8⟩ := KEEP.out w1 (Below.refl _ _)
  clear hx hB hT hv hmiss hwa hw1 hw ba b1 hb0 s1 s2 x1 x2 hx1 hB1 hT1 eb
  refine (callsIn_wide (n := 6)).1 ?_
  refine callsIn_of_wp_marks Tryz.func106 rfl trivial ?_ rfl
  simp only [Tryz.ntmps106, List.size_toArray, List.length_cons, List.length_nil, Nat.reduceAdd, Nat.reduceSub, Array.replicate_succ, Array.replicate_zero, List.push_toArray, List.append_toArray, List.nil_append, List.cons_append]
  refine wpIn_wide.2 ?_
  go_upto_region 1 with fail
  rw [HW.out, EB.out]
  refine wp_region_noPanic ?_
  go_region_held (fun w' => w'.cell? ⟨b, 0, none⟩ = some (.pointer (some ⟨x, 0, none⟩)) ∧ w'.cell? ⟨b + 1, 7, none⟩ = some (.int .i64 d.base) ∧ w'.cell? ⟨b + 1, 8, none⟩ = some (.slice d.ta d.terms.length d.tc)) (first | exact KEEP.out _ (Below.refl _ _).drew | exact KEEP.out _ HB2.out | exact KEEP.out _ (Below.refl _ _)) (first | (go_at_call 136; refine (HV.out _ (by first | exact (Below.refl _ _).drew | exact Below.refl _ _)).mono ?_; rintro e w2 ⟨rfl, hb2⟩; have HB2 := Lib.hid (by first | exact (Below.refl _ _).drew.trans hb2 | exact hb2 : Below w1.heap.size w1 w2); clear hb2) | (go_at_call 115; refine (HD.out _ _).mono ?_; rintro e w2 ⟨rfl, rfl⟩))
  all_goals
    refine NoPanic.normal ?_
    clear y0 y7 y8
    obtain ⟨z0, z7, z8⟩ := KEEP.out w2 HB2.out
    have HRG := Lib.hid (exRanges x kr kk c m f A B S w2 (KX.out w2 HB2.out).1 (KX.out w2 HB2.out).2.1)
    go_wp2_with fail
    refine HRG.out.mono ?_
    rintro e w3 ⟨r, rfl, hr1, hm3, hb3⟩
    have hb13 := HB2.out.trans (hb3.mono HB2.out.size)
    have hal4 := below_alloc w3 (.cells #[.map (some r)] 77)
    have hx4 := Boxed.new w3 77 (.map (some r))
    obtain ⟨mb, emb⟩ : ∃ mb, w3.heap.size = mb := ⟨_, rfl⟩
    obtain ⟨w4, hw4⟩ : ∃ w4, w3.alloc (.cells #[.map (some r)] 77) = w4 := ⟨_, rfl⟩
    rw [hw4] at hal4 hx4
    rw [emb] at hx4
    have hb14 := hb13.trans (hal4.mono hb13.size)
    obtain ⟨u0, u7, u8⟩ := KEEP.out w4 hb14
    have HX4 := Lib.hid hx4
    have HM4 := Lib.hid (hm3.below hal4 hm3.lt)
    have HB14 := Lib.hid hb14
    have W4 := Lib.hid hw4
    have EMB := Lib.hid emb
    clear hr1 hm3 hb3 hb13 hal4 hx4 hw4 emb hb14 z0 z7 z8
    go_upto_region 3 with fail
    rw [W4.out, EMB.out]
    have HNM := sizeNames d.base d.ta d.tc d.terms S w4 (KX.out w4 HB14.out).2.2
    unfold namesOf at HNM
    rw [HVV.out, if_pos rfl] at HNM
    have HNM := Lib.hid HNM
    go_wp2_with fail
    refine HNM.out.mono ?_
    rintro e w5 ⟨qb, A', c', rfl, hb5, hseq⟩
    have HB15 := Lib.hid (HB14.out.trans (hb5.mono HB14.out.size))
    have HX5 := Lib.hid (boxed_below HX4.out hb5 HX4.out.lt)
    have HM5 := Lib.hid (HM4.out.below hb5 HM4.out.lt)
    have SQ := Lib.hid hseq
    clear hb5 hseq u0 u7 u8
    go_wp2_with fail
    refine (wpIn_wide (n := 6)).1 ?_
    gi_wp2_with fail
    have HNL : Hid ((d.terms.map (·.f)).length ≤ 9223372036854775807) := Lib.hid (by rw [List.length_map]; have := valid_len HVV.out; omega)
    refine open_falls (gf := 101) (lb := #[.pointer (some ⟨qb, 0, none⟩)]) (by decide) rfl Tryz.entVals ?turn0
    case turn0 =>
      intro W1 rr hrr hb1 hsz hR
      obtain ⟨fn, hrr⟩ := hrr
      obtain ⟨D2, hD⟩ : ∃ D2, w5.heap.size = D2 := ⟨_, rfl⟩
      rw [hD] at hrr hb1 hsz hR ⊢
      obtain ⟨lr, hlr⟩ : ∃ lr, D2 + 1 = lr := ⟨_, rfl⟩
      rw [hlr] at hR ⊢
      have hb1' : Below w5.heap.size w5 W1 := by rw [hD]; exact hb1
      have SQ1 := Lib.hid (SQ.out.below hb1')
      have SLF := Lib.hid ((slAt_fence SQ.out.sl (N := lr) (by omega)).rest (Rest.below hb1') (fun _ _ e => e) : SlAt strCells 1 (fun i => lr ≤ i) W1 A' c' (d.terms.map (·.f)))
      have HRR := Lib.hid hrr
      have HR := Lib.hid hR
      have HB1 := Lib.hid hb1'
      have HLE := Lib.hid (show D2 < lr by omega)
      have HD2 := Lib.hid hD
      have HDW := Lib.hid (show w.heap.size ≤ D2 by have h1 := HB15.out.size; have h2 := HB0.out.size; omega)
      clear hrr hb1 hsz hR hD hlr hb1'
      refine (strs_fall 5 (by decide) lr qb c' (fun i => lr ≤ i) A' (d.terms.map (·.f)) (fun pre W => JR W1 lr D2 (rr .ready none) W ∧ ∀ s ∈ pre, (getP (ransP B) s).isSome = true) (fun ch W => ch = [{ v := .iface 30 (.agg #[.int .i64 m, .int .i64 f, .int .i64 8]), recovered := false }] ∧ Below w5.heap.size w5 W ∧ W.heap[D2]? = some (.deferred (some []))) (fun pre W W' h hb => ⟨h.1.later hb, h.2⟩) HNL.out (fun pre W h => SLF.out.rest h.1.rest (fun i _ e => by show lr ≤ i; omega)) ?hY W1 SQ1.out.bx.cell ⟨⟨Rest.refl _ _, HR.out⟩, fun s hs => by cases hs⟩).mono ?post0
      case post0 =>
        rintro e W2 (⟨_, hj⟩ | ⟨ch, rfl, hch, hbw, hd2⟩)
        · exact absurd (fun t ht => hj.2 t.f (List.mem_map.2 ⟨t, ht, rfl⟩)) HMISS.out
        · subst hch
          refine .inr ⟨_, rfl, ?_⟩
          have hbw2 := (HB0.out.trans ((HB15.out.trans (hbw.mono HB15.out.size)).mono HB0.out.size)).grown (grownBy_putObj' W2 D2 (.deferred none)) (by have := HB0.out.size; have := HB15.out.size; have := hbw.size; omega) (fun k e => by cases e; exact HDW.out)
          refine ⟨by simp, .inl ⟨_, _, rfl, run_takeDeferred hd2, ?_⟩⟩
          exact ⟨rfl, hbw2⟩
      case hY =>
        rintro pre xx W ⟨hj, hpre⟩ hpx
        obtain ⟨t, ht, rfl⟩ := List.mem_map.1 (prefix_mem hpx)
        have JW := Lib.hid hj
        have HPRE := Lib.hid hpre
        obtain ⟨o, ho⟩ : ∃ o, getP (ransP B) t.f = o := ⟨_, rfl⟩
        have HO := Lib.hid ho
        clear hj hpx ho hpre
        have KLK : Hid (∀ wx, MapAt wx r (pE (ransP B)) → (Instr.lookup 77 (.map (some r)) (.string (strL t.f)) true).run Tryz.prog wx = .ok (.tuple #[.agg #[.int .i64 (o.getD (0, 0)).1, .int .i64 (o.getD (0, 0)).2], .bool o.isSome]) wx) := Lib.hid (fun wx h => by
          have hrun := run_look_ok (P := Tryz.prog) Tryz.underlying77 Tryz.ustr (Tryz.zeroRan wx) h t.f
          have hh : hasE (pE (ransP B)) t.f = o.isSome := by
            unfold hasE
            rw [getE_p, HO.out]
            cases o <;> rfl
          rw [hrun, hh, getE_p, HO.out]
          cases o <;> rfl)
        have n2 : lr ≠ D2 := by have := HLE.out; omega
        cases o with
        | some p =>
          refine named_round HRR.out JW.out.rec_ rfl ?a10 ?asg0 ?body0
          case asg0 =>
            intro K hK
            have HK := Lib.hid hK
            clear hK
            gi_wp2
            exact HK.out
          case body0 =>
            intro W2 hW2
            have hj2 : JR W1 lr D2 (rr .busy none) W2 := by rw [hW2]; exact JW.out.put _ n2
            have hb5W : Below w5.heap.size w5 W2 := ((Rest.below (S := fun i => i = lr) HB1.out).trans hj2.rest (fun _ _ e => e)).toBelow w5.heap.size (Nat.le_refl _) (fun i hi e => by have h1 := HLE.out; have h2 := HD2.out; omega)
            have hbb : Below w1.heap.size w1 W2 := HB15.out.trans (hb5W.mono HB15.out.size)
            have k0 := (KEEP.out W2 hbb).1
            have k1 := (boxed_below HX5.out hb5W HX5.out.lt).cell
            have hrun := KLK.out W2 (HM5.out.below hb5W HM5.out.lt)
            simp only [Option.getD_some, Option.isSome_some] at hrun
            have hal := below_alloc W2 (.cells #[.int .i64 p.1, .int .i64 p.2] 80)
            obtain ⟨w6, hw6⟩ : ∃ w6, W2.alloc (.cells #[.int .i64 p.1, .int .i64 p.2] 80) = w6 := ⟨_, rfl⟩
            rw [hw6] at hal
            have q0 := (KEEP.out w6 (hbb.trans (hal.mono hbb.size))).1
            have J6 := Lib.hid (hj2.later hal)
            have W6 := Lib.hid hw6
            clear hW2 hj2 hb5W hbb hal hw6
            gi_upto_region 6 with fail
            rw [W6.out]
            gi_wp2_with fail
            refine ⟨trivial, (CallsIn.inRound lr (callsIn_wide.2 (HD.out 8 w6))).mono ?_⟩
            rintro e w7 ⟨rfl, rfl⟩
            gi_wp2_with fail
            exact ⟨J6.out.rec_, J6.out.put _ n2, fun s hs => by
              rcases hs with hs | rfl
              · exact HPRE.out s hs
              · rw [HO.out]; rfl⟩
        | none =>
          refine round_falls HRR.out JW.out.rec_ rfl ?a11 ?asg1 ?body1
          case asg1 =>
            intro K hK
            have HK := Lib.hid hK
            clear hK
            gi_wp2
            exact HK.out
          case body1 =>
            intro W2 hW2
            have hj2 : JR W1 lr D2 (rr .busy none) W2 := by rw [hW2]; exact JW.out.put _ n2
            have hb5W : Below w5.heap.size w5 W2 := ((Rest.below (S := fun i => i = lr) HB1.out).trans hj2.rest (fun _ _ e => e)).toBelow w5.heap.size (Nat.le_refl _) (fun i hi e => by have h1 := HLE.out; have h2 := HD2.out; omega)
            have hbb : Below w1.heap.size w1 W2 := HB15.out.trans (hb5W.mono HB15.out.size)
            have k0 := (KEEP.out W2 hbb).1
            have k1 := (boxed_below HX5.out hb5W HX5.out.lt).cell
            have hrun := KLK.out W2 (HM5.out.below hb5W HM5.out.lt)
            simp only [Option.getD_none, Option.isSome_none] at hrun
            have hal := below_alloc W2 (.cells #[.int .i64 0, .int .i64 0] 80)
            obtain ⟨w6, hw6⟩ : ∃ w6, W2.alloc (.cells #[.int .i64 0, .int .i64 0] 80) = w6 := ⟨_, rfl⟩
            rw [hw6] at hal
            have q0 := (KEEP.out w6 (hbb.trans (hal.mono hbb.size))).1
            have J6 := Lib.hid (hj2.later hal)
            have HB56 := Lib.hid (hb5W.trans (hal.mono hb5W.size))
            have HDF := Lib.hid (demand_any x kr kk B.length c m f A false 8 w6 (KX.out w6 (hbb.trans (hal.mono hbb.size))).1)
            have W6 := Lib.hid hw6
            clear hW2 hj2 hb5W hbb hal hw6
            refine falls_block (falls_right (n := 4) ?_)
            gi_wp2_with fail
            rw [W6.out]
            clear k0 k1 hrun
            refine falls_region ?_
            refine falls_val (i := 0) (rest := [1, 2]) (v := .pointer (some ⟨x, 0, none⟩)) (w1 := w6) rfl rfl (fun c h => by cases h) (by unfold execOp; simp [go_sem, q0]) ?_
            refine falls_val (i := 1) (rest := [2]) (v := .bool false) (w1 := w6) rfl rfl (fun c h => by cases h) (by unfold execOp; simp [go_sem, Act.put]) ?_
            refine falls_call (i := 2) (rest := []) (f := 115) (args := #[.pointer (some ⟨x, 0, none⟩), .bool false, .int .i64 8]) (w1 := w6) rfl rfl (fun c h => by cases h) (by unfold execOp; simp [go_sem, resolve, Act.put]) rfl (HDF.out.mono ?_)
            rintro e w7 ⟨rfl, hb7⟩
            exact ⟨_, rfl, rfl, HB56.out.trans (hb7.mono HB56.out.size), (hb7.block D2 (Array.getElem?_eq_some_iff.1 J6.out.rec_.dfr).1).trans J6.out.rec_.dfr⟩

set_option maxRecDepth 100000 in
set_option maxHeartbeats 6400000 in
theorem exSize_bad (x kr kk c : Nat) (m f : Int) (A : Option Addr) (B : List FieldD) (d : FieldD) (S : Nat → Prop) (w : World) (hx : ExAt w x m f kr A B.length c kk) (hB : SlAt FieldD.cells 15 S w A c B) (hT : SlAt TermD.cells 2 S w d.ta d.tc d.terms) (hv : validS d.base d.terms = false) :
    Calls Tryz.prog 106 #[.pointer (some ⟨x, 0, none⟩), d.agg] w fun e w' => e = flawE m f 9 ∧ Below w.heap.size w w' := by
  unfold FieldD.agg
  obtain ⟨wa, hwa⟩ : ∃ wa, w.alloc (.cells #[.pointer (some ⟨x, 0, none⟩)] 152) = wa := ⟨_, rfl⟩
  obtain ⟨w1, hw1⟩ : ∃ w1, wa.alloc (.cells #[.string (strL d.name), .int .i64 d.kind, .int .i64 d.bits, .bool d.little, .bool d.loose, .int .i64 d.low, .int .i64 d.high, .int .i64 d.base, .slice d.ta d.terms.length d.tc, .string (strL d.of_), .string (strL d.tag), .string (strL d.from_), .slice d.ca d.cases.length d.cc, .int .i64 d.check, .int .i64 d.key] 55) = w1 := ⟨_, rfl⟩
  have hw : (w.alloc (.cells #[.pointer (some ⟨x, 0, none⟩)] 152)).alloc (.cells #[.string (strL d.name), .int .i64 d.kind, .int .i64 d.bits, .bool d.little, .bool d.loose, .int .i64 d.low, .int .i64 d.high, .int .i64 d.base, .slice d.ta d.terms.length d.tc, .string (strL d.of_), .string (strL d.tag), .string (strL d.from_), .slice d.ca d.cases.length d.cc, .int .i64 d.check, .int .i64 d.key] 55) = w1 := by rw [hwa, hw1]
  have ba : Below w.heap.size w wa := by rw [← hwa]; exact below_alloc _ _
  have b1 : Below wa.heap.size wa w1 := by rw [← hw1]; exact below_alloc _ _
  have hb0 : Below w.heap.size w w1 := ba.trans (b1.mono ba.size)
  have s1 : wa.heap.size = w.heap.size + 1 := by rw [← hwa]; simp
  have s2 : w1.heap.size = w.heap.size + 2 := by rw [← hw1]; simp; omega
  have x1 : Boxed w1 w.heap.size 152 (.pointer (some ⟨x, 0, none⟩)) := boxed_below (by rw [← hwa]; exact Boxed.new w _ _) b1 (by omega)
  have x2 : FBox w1 (w.heap.size + 1) d := by rw [← hw1, ← s1]; exact FBox.new wa d
  have hx1 := hx.below hb0 hx.lt
  have hB1 := hB.below hb0
  have hT1 := hT.below hb0
  obtain ⟨b, eb⟩ : ∃ b, w.heap.size = b := ⟨_, rfl⟩
  rw [eb] at x1 x2 s2
  have KEEP : Hid (∀ wx, Below w1.heap.size w1 wx → wx.cell? ⟨b, 0, none⟩ = some (.pointer (some ⟨x, 0, none⟩)) ∧ wx.cell? ⟨b + 1, 7, none⟩ = some (.int .i64 d.base) ∧ wx.cell? ⟨b + 1, 8, none⟩ = some (.slice d.ta d.terms.length d.tc)) := Lib.hid (fun wx hb => ⟨(boxed_below x1 hb x1.lt).cell, (x2.below hb x2.lt).c7, (x2.below hb x2.lt).c8⟩)
  have KX : Hid (∀ wx, Below w1.heap.size w1 wx → ExAt wx x m f kr A B.length c kk ∧ SlAt FieldD.cells 15 S wx A c B ∧ SlAt TermD.cells 2 S wx d.ta d.tc d.terms) := Lib.hid (fun wx hb => ⟨hx1.below hb hx1.lt, hB1.below hb, hT1.below hb⟩)
  have HV : Hid (∀ wx, Below w1.heap.size w1 wx → Calls Tryz.prog 136 #[.agg #[.int .i64 d.base, .slice d.ta d.terms.length d.tc]] wx fun e w' => e = .returned (.bool false) ∧ Below wx.heap.size wx w') := Lib.hid (fun wx hb => by
    have := sizeValid d.base d.ta d.tc d.terms S wx (KX.out wx hb).2.2
    rwa [hv] at this)
  have HD : Hid (∀ wx, Below w1.heap.size w1 wx → Calls Tryz.prog 115 #[.pointer (some ⟨x, 0, none⟩), .bool false, .int .i64 9] wx fun e w' => e = flawE m f 9 ∧ Below wx.heap.size wx w') := Lib.hid (fun wx hb => demand_any x kr kk B.length c m f A false 9 wx (KX.out wx hb).1)
  have HW := Lib.hid hw
  have EB := Lib.hid eb
  have HB0 := Lib.hid hb0
  have S2 := Lib.hid s2
  obtain ⟨y0, y7, y8⟩ := KEEP.out w1 (Below.refl _ _)
  clear hx hB hT hv hwa hw1 hw ba b1 hb0 s1 s2 x1 x2 hx1 hB1 hT1 eb
  refine (callsIn_wide (n := 6)).1 ?_
  refine callsIn_of_wp_marks Tryz.func106 rfl trivial ?_ rfl
  simp only [Tryz.ntmps106, List.size_toArray, List.length_cons, List.length_nil, Nat.reduceAdd, Nat.reduceSub, Array.replicate_succ, Array.replicate_zero, List.push_toArray, List.append_toArray, List.nil_append, List.cons_append]
  refine wpIn_wide.2 ?_
  go_upto_region 1 with fail
  rw [HW.out, EB.out]
  refine fall_region 4 [10, 11, 12, 13] (fun i => match i with | 0 => .pointer (some ⟨x, 0, none⟩) | 1 => .pointer (some ⟨b + 1, 7, none⟩) | 2 => .agg #[.int .i64 d.base, .slice d.ta d.terms.length d.tc] | _ => .bool false) rfl rfl (by decide) (by simp) (by kernel_rfl) (topo (by kernel_rfl)) ?_ ?_
  · intro i o dd ho hd
    rcases i with _ | _ | _ | _ | i
    · cases ho
      cases hd
      refine ⟨rfl, rfl, ?_⟩
      simp only [List.getElem_toArray, List.getElem_cons_zero, List.getElem_cons_succ]
      refine (fun a w' hf hb _ => .inl ?_)
      have h2 : a.eval (.tmp 2) = .pointer (some ⟨b, 0, none⟩) := eval_at ((hf.low 2 (by decide)).trans rfl)
      obtain ⟨z0, _, _⟩ := KEEP.out w' hb
      unfold execOp
      simp only
      rw [h2]
      simp [go_sem, z0]
    · cases ho
      cases hd
      refine ⟨rfl, rfl, ?_⟩
      simp only [List.getElem_toArray, List.getElem_cons_zero, List.getElem_cons_succ]
      refine (fun a w' hf hb _ => .inl ?_)
      have h2 : a.eval (.tmp 3) = .pointer (some ⟨b + 1, 0, none⟩) := eval_at ((hf.low 3 (by decide)).trans rfl)
      unfold execOp
      simp only
      rw [h2]
      simp [go_sem]
    · cases ho
      cases hd
      refine ⟨rfl, rfl, ?_⟩
      simp only [List.getElem_toArray, List.getElem_cons_zero, List.getElem_cons_succ]
      refine (fun a w' hf hb ha => .inl ?_)
      have h2 := eval_at (ha { on := 1, ground := .data } (by simp) (by simp [Region.binds]) 11 rfl)
      obtain ⟨_, z7, z8⟩ := KEEP.out w' hb
      dsimp only at h2
      unfold execOp
      simp only
      rw [h2]
      simp [go_sem, z7, z8]
    · cases ho
      cases hd
      refine ⟨rfl, rfl, ?_⟩
      simp only [List.getElem_toArray, List.getElem_cons_zero, List.getElem_cons_succ]
      refine (fun a w' hf hb ha => .inr ?_)
      have h2 := ha { on := 2, ground := .data } (by simp) (by simp [Region.binds]) 12 rfl
      dsimp only at h2
      refine ⟨136, #[.agg #[.int .i64 d.base, .slice d.ta d.terms.length d.tc]], ?_, HV.out w' hb⟩
      unfold execOp
      simp [go_sem, resolve, h2]
    · simp at hd
  · intro o ho
    cases ho
    refine ⟨rfl, ?_⟩
    simp only [List.getElem_toArray, List.getElem_cons_zero, List.getElem_cons_succ]
    intro a w' hf hb ha
    have h0 := ha { on := 0, ground := .data } (by simp) (by simp [Region.binds]) 10 rfl
    have h3 := ha { on := 3, ground := .data } (by simp) (by simp [Region.binds]) 13 rfl
    dsimp only at h0 h3
    refine ⟨115, #[.pointer (some ⟨x, 0, none⟩), .bool false, .int .i64 9], ?_, (HD.out w' hb).mono ?_⟩
    · unfold execOp
      simp [go_sem, resolve, h0, h3]
    · rintro e w2 ⟨rfl, hb2⟩
      refine ⟨_, rfl, fun a' hd => ?_⟩
      show LeavesInM _ _ _ _ _ _ a'.defers _ _
      rw [hd]
      exact ⟨rfl, HB0.out.trans ((hb.trans (hb2.mono hb.size)).mono HB0.out.size)⟩

/-- What the examination of a size finds. -/
def sizeAllR (B : List FieldD) (d : FieldD) : Option Int := orR (ifR (validS d.base d.terms) 9) (orR (ifR (d.terms.all (fun t => (getP (ransP B) t.f).isSome)) 8) (sizeR (ransP B) d))
theorem exSize_all (x kr kk c : Nat) (m f : Int) (A : Option Addr) (B : List FieldD) (d : FieldD) (S : Nat → Prop) (w : World) (hx : ExAt w x m f kr A B.length c kk) (hB : SlAt FieldD.cells 15 S w A c B) (hT : SlAt TermD.cells 2 S w d.ta d.tc d.terms)
    (hal : ∀ t ∈ d.terms, ∀ p, getP (ransP B) t.f = some p → allowP p = true) :
    Calls Tryz.prog 106 #[.pointer (some ⟨x, 0, none⟩), d.agg] w fun e w' => e = doE (sizeAllR B d) m f ∧ Below w.heap.size w w' := by
  unfold sizeAllR
  by_cases hv : validS d.base d.terms = true
  · rw [hv]
    by_cases hs : ∀ t ∈ d.terms, (getP (ransP B) t.f).isSome = true
    · have h2 : d.terms.all (fun t => (getP (ransP B) t.f).isSome) = true := List.all_eq_true.2 hs
      rw [h2]
      refine (exSize_ok x kr kk c m f A B d S w hx hB hT hv (fun t ht => ?_)).mono (fun e w' h => ⟨by rw [h.1]; rfl, h.2⟩)
      obtain ⟨p, hp⟩ := Option.isSome_iff_exists.1 (hs t ht)
      exact ⟨p, hp, hal t ht p hp⟩
    · have h2 : d.terms.all (fun t => (getP (ransP B) t.f).isSome) = false := by
        cases e : d.terms.all (fun t => (getP (ransP B) t.f).isSome) with
        | false => rfl
        | true => exact absurd (List.all_eq_true.1 e) hs
      rw [h2]
      exact (exSize_miss x kr kk c m f A B d S w hx hB hT hv hs).mono (fun e w' h => ⟨by rw [h.1]; rfl, h.2⟩)
  · have hv2 : validS d.base d.terms = false := by simpa using hv
    rw [hv2]
    exact (exSize_bad x kr kk c m f A B d S w hx hB hT hv2).mono (fun e w' h => ⟨by rw [h.1]; rfl, h.2⟩)
end Go.Proofs.YtbpkppmbbpoohaaGreat
