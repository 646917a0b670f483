/- examine finds nothing wrong with a valid size whose fields all have allowed ranges. Conditions: the terms and the ranges lie in memory. -/
import Derived.Test.YtbpkppmbbpoohaaGe
import Derived.Sort.CutIn
namespace Go.Proofs.Ytbpkppmbbpoohaa
open Go.RowKit Go.Shelf
attribute [local go_sem] Oper.semAt_some

theorem slAt_fence {S : Nat → Prop} {W : World} {A : Option Addr} {c N : Nat} {D : List (List UInt8)} (h : SlAt strCells 1 S W A c D) (hN : W.heap.size ≤ N) : SlAt strCells 1 (fun i => N ≤ i) W A c D := by
  refine ⟨h.1, h.2.1, fun i d hi => ?_⟩
  obtain ⟨g, o, h1, _, h3⟩ := h.2.2 i d hi
  have := World.block_lt_of_cell? _ _ (h3 0 (.string (strL d)) rfl)
  exact ⟨g, o, h1, by simp only at this; omega, h3⟩

/-- Between two names: the loop's record alone has turned. -/
structure JR (W1 : World) (lr Dd : Nat) (r : Loop) (W : World) : Prop where
  rest : Rest (fun i => i = lr) W1 W
  rec_ : RecAt W lr Dd r
section
variable {W1 W W' : World} {lr Dd : Nat} {r : Loop}
theorem JR.later (h : JR W1 lr Dd r W) (hb : Below W.heap.size W W') : JR W1 lr Dd r W' :=
  ⟨h.rest.trans (Rest.below hb) (fun _ _ e => e), h.rec_.below hb (Array.getElem?_eq_some_iff.1 h.rec_.rec_).1 (Array.getElem?_eq_some_iff.1 h.rec_.dfr).1⟩
theorem JR.put (h : JR W1 lr Dd r W) (r' : Loop) (n2 : lr ≠ Dd) : JR W1 lr Dd r' (W.putObj lr (.loop r')) :=
  ⟨h.rest.trans (rest_putObj W lr (.loop r')) (fun _ _ e => e), h.rec_.put n2 r'⟩
end

theorem prefix_mem {α : Type} {pre D : List α} {x : α} (h : pre ++ [x] <+: D) : x ∈ D := by
  obtain ⟨t, rfl⟩ := h
  simp

set_option maxRecDepth 100000 in
set_option maxHeartbeats 3200000 in
theorem examine_ok (base : Int) (A : Option Addr) (c : Nat) (D : List TermD) (S : Nat → Prop) (w : World) (h : SlAt TermD.cells 2 S w A c D) (r : Nat) (E : PEnts) (hm : MapAt w r (pE E)) (hv : validS base D = true) (hall : ∀ t ∈ D, ∃ p, getP E t.f = some p ∧ allowP p = true) :
    Calls Try.prog 121 #[.agg #[.int .i64 base, .slice A D.length c], .map (some r), .func (.func 122) #[] #[]] w fun e w' => e = .returned (.int .i64 0) ∧ Below w.heap.size w w' := by
  -- the boxes
  have hb0 : Below w.heap.size w ((((w.alloc (.cells #[.int .i64 base, .slice A D.length c] 25)).alloc (.cells #[.map (some r)] 53)).alloc (.cells #[.func (.func 122) #[] #[]] 159)).alloc (.cells #[.int .i64 0] 32)) :=
    ((((Below.refl w.heap.size w).alloc (Nat.le_refl _) _).alloc (by simp) _).alloc (by simp; omega) _).alloc (by simp; omega) _
  obtain ⟨wa, hwa⟩ : ∃ wa, w.alloc (.cells #[.int .i64 base, .slice A D.length c] 25) = wa := ⟨_, rfl⟩
  obtain ⟨wb, hwb⟩ : ∃ wb, wa.alloc (.cells #[.map (some r)] 53) = wb := ⟨_, rfl⟩
  obtain ⟨wc, hwc⟩ : ∃ wc, wb.alloc (.cells #[.func (.func 122) #[] #[]] 159) = wc := ⟨_, rfl⟩
  obtain ⟨w1, hw1⟩ : ∃ w1, wc.alloc (.cells #[.int .i64 0] 32) = w1 := ⟨_, rfl⟩
  have hw : (((w.alloc (.cells #[.int .i64 base, .slice A D.length c] 25)).alloc (.cells #[.map (some r)] 53)).alloc (.cells #[.func (.func 122) #[] #[]] 159)).alloc (.cells #[.int .i64 0] 32) = w1 := by rw [hwa, hwb, hwc, hw1]
  rw [hw] at hb0
  have s1 : wa.heap.size = w.heap.size + 1 := by rw [← hwa]; simp
  have s2 : wb.heap.size = w.heap.size + 2 := by rw [← hwb]; simp; omega
  have s3 : wc.heap.size = w.heap.size + 3 := by rw [← hwc]; simp; omega
  have s4 : w1.heap.size = w.heap.size + 4 := by rw [← hw1]; simp; omega
  have bab : Below wa.heap.size wa wb := by rw [← hwb]; exact below_alloc _ _
  have bbc : Below wb.heap.size wb wc := by rw [← hwc]; exact below_alloc _ _
  have bc1 : Below wc.heap.size wc w1 := by rw [← hw1]; exact below_alloc _ _
  have x1 : w1.heap[w.heap.size]? = some (.cells #[.int .i64 base, .slice A D.length c] 25 (0, 0)) :=
    (bc1.block _ (by omega)).trans ((bbc.block _ (by omega)).trans ((bab.block _ (by omega)).trans (by rw [← hwa]; exact heap_alloc_new w _)))
  have x2 : w1.heap[w.heap.size + 1]? = some (.cells #[.map (some r)] 53 (0, 0)) :=
    (bc1.block _ (by omega)).trans ((bbc.block _ (by omega)).trans (by rw [← hwb, ← s1]; exact heap_alloc_new wa _))
  have x3 : w1.heap[w.heap.size + 2]? = some (.cells #[.func (.func 122) #[] #[]] 159 (0, 0)) :=
    (bc1.block _ (by omega)).trans (by rw [← hwc, ← s2]; exact heap_alloc_new wb _)
  have x4 : Boxed w1 (w.heap.size + 3) 32 (.int .i64 0) := by rw [← hw1, ← s3]; exact Boxed.new wc _ _
  have h1 := h.below hb0
  have hm1 := hm.below hb0 hm.lt
  obtain ⟨b, eb⟩ : ∃ b, w.heap.size = b := ⟨_, rfl⟩
  rw [eb] at x1 x2 x3 x4 s4
  have KEEP : Hid (∀ wx, Below w1.heap.size w1 wx → wx.cell? ⟨b, 0, none⟩ = some (.int .i64 base) ∧ wx.cell? ⟨b, 1, none⟩ = some (.slice A D.length c) ∧ wx.cell? ⟨b + 1, 0, none⟩ = some (.map (some r)) ∧ wx.cell? ⟨b + 1 + 1, 0, none⟩ = some (.func (.func 122) #[] #[]) ∧ Boxed wx (b + 1 + 1 + 1) 32 (.int .i64 0) ∧ MapAt wx r (pE E)) := Lib.hid (fun wx hb => by
    have q1 := (hb.block b (by omega)).trans x1
    have q2 := (hb.block (b + 1) (by omega)).trans x2
    have q3 := (hb.block (b + 2) (by omega)).trans x3
    exact ⟨by simp [World.cell?, q1], by simp [World.cell?, q1], by simp [World.cell?, q2], by simp [World.cell?, q3], boxed_below x4 hb (by omega), hm1.below hb hm1.lt⟩)
  have HV := sizeValid base A c D S w1 h1
  rw [hv] at HV
  have HV := Lib.hid HV
  have HNM : Hid (∀ wx, Below w1.heap.size w1 wx → Calls Try.prog 107 #[.agg #[.int .i64 base, .slice A D.length c]] wx fun e w' => ∃ qb A' c', e = .returned (.func (.func 67) #[] #[.pointer (some ⟨qb, 0, none⟩)]) ∧ Below wx.heap.size wx w' ∧ SeqAt wx.heap.size w' qb (D.map (·.f)) A' c') := Lib.hid (fun wx hb => by
    have := sizeNames base A c D S wx (h1.below hb)
    unfold namesOf at this
    rwa [hv, if_pos rfl] at this)
  have HALL := Lib.hid hall
  have HW := Lib.hid hw
  have EB := Lib.hid eb
  have HB0 := Lib.hid hb0
  have S4 := Lib.hid s4
  have HVV := Lib.hid hv
  have hlen := valid_len hv
  obtain ⟨y0, y1, y2, y3, y4, _⟩ := KEEP.out w1 (Below.refl _ _)
  have y4c := y4.cell
  clear h hm hv hall hb0 hwa hwb hwc hw1 hw s1 s2 s3 s4 bab bbc bc1 x1 x2 x3 x4 h1 hm1 eb y4
  refine (callsIn_wide (n := 6)).1 ?_
  refine callsIn_of_wp_marks Try.func121 rfl trivial ?_ rfl
  simp only [Try.ntmps121, List.size_toArray, List.length_cons, List.length_nil, Nat.reduceAdd, Nat.reduceSub, Array.replicate_succ, Array.replicate_zero, List.push_toArray, List.append_toArray, List.nil_append, List.cons_append]
  refine wpIn_wide.2 ?_
  go_upto_region 1 with fail
  rw [HW.out, EB.out]
  go_wp2_with fail
  refine HV.out.mono ?_
  rintro e w2 ⟨rfl, hb2⟩
  -- the variable of the error
  have hal3 := below_alloc w2 (.cells #[.int .i64 0] 32)
  have hx3 := Boxed.new w2 32 (.int .i64 0)
  obtain ⟨eb2, eeb⟩ : ∃ eb2, w2.heap.size = eb2 := ⟨_, rfl⟩
  obtain ⟨w3, hw3⟩ : ∃ w3, w2.alloc (.cells #[.int .i64 0] 32) = w3 := ⟨_, rfl⟩
  rw [hw3] at hal3 hx3
  rw [eeb] at hx3
  have hb3 := hb2.trans (hal3.mono hb2.size)
  have HB3 := Lib.hid hb3
  have HX3 := Lib.hid hx3
  have W3 := Lib.hid hw3
  have EEB := Lib.hid eeb
  obtain ⟨z0, z1, _, _, _, _⟩ := KEEP.out w3 hb3
  have hge3 : b + 3 < eb2 := by have := S4.out; have := hb2.size; omega
  clear hb2 hal3 hx3 hw3 eeb hb3 y0 y1 y2 y3 y4c
  go_upto_region 4 with fail
  rw [W3.out, EEB.out]
  go_wp2_with fail
  refine (HNM.out w3 HB3.out).mono ?_
  rintro e w4 ⟨qb, A', c', rfl, hb4, hseq⟩
  have HB4 := Lib.hid (HB3.out.trans (hb4.mono HB3.out.size))
  have HX4 := Lib.hid (boxed_below HX3.out hb4 HX3.out.lt)
  have SQ := Lib.hid hseq
  clear hb4 hseq z0 z1
  go_wp2_with fail
  refine (wpIn_wide (n := 6)).1 ?_
  gi_wp2_with fail
  have hNl : (D.map (·.f)).length ≤ 9223372036854775807 := by rw [List.length_map]; omega
  have HNL := Lib.hid hNl
  clear hNl
  refine open_joined (gf := 67) (lb := #[.pointer (some ⟨qb, 0, none⟩)]) (by decide) rfl Try.entVals (fun W => Below w4.heap.size w4 W ∧ W.heap[w4.heap.size]? = some (.deferred (some []))) .skip ?turn0 ?brk0 ?rest0
  case brk0 =>
    intro fr W h
    exact wpIn_skip h
  case turn0 =>
    intro W1 rr hrr hb1 hsz hR
    obtain ⟨fn, hrr⟩ := hrr
    obtain ⟨D2, hD⟩ : ∃ D2, w4.heap.size = D2 := ⟨_, rfl⟩
    rw [hD] at hrr hb1 hsz hR ⊢
    obtain ⟨lr, hlr⟩ : ∃ lr, D2 + 1 = lr := ⟨_, rfl⟩
    rw [hlr] at hR ⊢
    have hb1' : Below w4.heap.size w4 W1 := by rw [hD]; exact hb1
    have SQ1 := Lib.hid (SQ.out.below hb1')
    have SLF := Lib.hid ((slAt_fence SQ.out.sl (N := lr) (by omega)).rest (Rest.below hb1') (fun _ _ e => e) : SlAt strCells 1 (fun i => lr ≤ i) W1 A' c' (D.map (·.f)))
    have HRR := Lib.hid hrr
    have HR := Lib.hid hR
    have HB1 := Lib.hid hb1'
    have HLE := Lib.hid (show D2 < lr by omega)
    have HD := Lib.hid hD
    clear hrr hb1 hsz hR hD hlr hb1'
    refine (strs_at 5 (by decide) lr qb c' (fun i => lr ≤ i) A' (D.map (·.f)) (fun pre W => JR W1 lr D2 (rr .ready none) W) (fun _ _ => False) (fun pre W W' h hb => h.later hb) HNL.out (fun pre W h => SLF.out.rest h.rest (fun i _ e => by show lr ≤ i; omega)) ?hY W1 SQ1.out.bx.cell ⟨Rest.refl _ _, HR.out⟩).mono ?post0
    case post0 =>
      rintro e W2 ⟨hv, (hj | ⟨pre, hp, hf⟩)⟩
      · refine ⟨hv, .inl ⟨hj.rec_, fun o => ⟨?_, (World.putObj_heap_other (show D2 ≠ lr by have := HLE.out; omega)).trans hj.rec_.dfr⟩⟩⟩
        have h1 := HLE.out
        have h2 := HD.out
        have h3 : Rest (fun i => i = lr) w4 (W2.putObj lr o) := ((Rest.below (S := fun i => i = lr) HB1.out).trans hj.rest (fun _ _ e => e)).trans (rest_putObj W2 lr o) (fun _ _ e => e)
        rw [← h2]
        exact h3.toBelow w4.heap.size (Nat.le_refl _) (fun i hi e => by omega)
      · exact hf.elim
    case hY =>
      intro pre x W hj hpx
      obtain ⟨t, ht, rfl⟩ := List.mem_map.1 (prefix_mem hpx)
      obtain ⟨p, hp1, hp2⟩ := HALL.out t ht
      have JW := Lib.hid hj
      have HP1 := Lib.hid hp1
      have HPA : ∀ wx, Hid (Calls Try.prog 122 #[.agg #[.int .i64 p.1, .int .i64 p.2]] wx fun e w' => e = .returned (.bool true) ∧ Below wx.heap.size wx w') := fun wx => Lib.hid (by
        have := allow_any p wx
        rwa [hp2] at this)
      clear hj hpx hp1 hp2
      refine named_round HRR.out JW.out.rec_ rfl ?a10 ?asg0 ?body0
      case asg0 =>
        intro K hK
        have HK := Lib.hid hK
        clear hK
        gi_wp2
        exact HK.out
      case body0 =>
        intro W2 hW2
        have n2 : lr ≠ D2 := by have := HLE.out; omega
        have hj2 : JR W1 lr D2 (rr .busy none) W2 := by rw [hW2]; exact JW.out.put _ n2
        have hbb : Below w1.heap.size w1 W2 := HB4.out.trans (((Rest.below (S := fun i => i = lr) HB1.out).trans hj2.rest (fun _ _ e => e)).toBelow w1.heap.size HB4.out.size (fun i hi e => by have h1 := HLE.out; have h2 := HD.out; have h3 := HB4.out.size; omega))
        obtain ⟨_, _, k1, k2, _, km⟩ := KEEP.out W2 hbb
        have hrun := run_look_ok (P := Try.prog) Try.underlying53 Try.ustr (Try.zeroRan W2) km t.f
        have hg : getE (pE E) t.f = some (ranV p) := by rw [getE_p, HP1.out]; rfl
        have hh : hasE (pE E) t.f = true := by unfold hasE; rw [hg]; rfl
        rw [hg, hh] at hrun
        unfold ranV at hrun
        simp only [Option.getD_some] at hrun
        have hal := below_alloc W2 (.cells #[.int .i64 p.1, .int .i64 p.2] 31)
        have hpb := PBox.new W2 p.1 p.2
        obtain ⟨pb, epb⟩ : ∃ pb, W2.heap.size = pb := ⟨_, rfl⟩
        obtain ⟨w6, hw6⟩ : ∃ w6, W2.alloc (.cells #[.int .i64 p.1, .int .i64 p.2] 31) = w6 := ⟨_, rfl⟩
        rw [hw6] at hal hpb
        rw [epb] at hpb
        have hb6 := hbb.trans (hal.mono hbb.size)
        obtain ⟨_, _, _, q2, _, _⟩ := KEEP.out w6 hb6
        have p0 := hpb.c0
        have p1 := hpb.c1
        have J6 := Lib.hid (hj2.later hal)
        have W6 := Lib.hid hw6
        have EPB := Lib.hid epb
        clear hW2 hj2 hbb km hg hh hal hpb hw6 epb hb6
        gi_upto_region 7 with fail
        rw [W6.out, EPB.out]
        gi_wp2_with fail
        refine ⟨trivial, (CallsIn.inRound lr (callsIn_wide.2 (HPA w6).out)).mono ?_⟩
        rintro e w7 ⟨rfl, hb7⟩
        have J7 := Lib.hid (J6.out.later hb7)
        clear hb7
        gi_wp2_with fail
        exact ⟨J7.out.rec_, J7.out.put _ n2⟩
  case rest0 =>
    rintro Wz ⟨hz1, hz2⟩
    obtain ⟨D2, hD⟩ : ∃ D2, w4.heap.size = D2 := ⟨_, rfl⟩
    rw [hD] at hz2 ⊢
    have hbb : Below w1.heap.size w1 Wz := HB4.out.trans (hz1.mono HB4.out.size)
    obtain ⟨_, _, _, _, k3, _⟩ := KEEP.out Wz hbb
    have hxe := boxed_below HX4.out hz1 HX4.out.lt
    have ce := hxe.cell
    have cr := k3.cell
    have fr := k3.frozen
    have hDb : b + 1 + 1 + 1 < D2 := by have h1 := HB4.out.size; have h2 := S4.out; omega
    have K3 := Lib.hid k3
    have HZ2 := Lib.hid hz2
    have HBB := Lib.hid (HB0.out.trans (hbb.mono HB0.out.size))
    have HDB := Lib.hid hDb
    clear hz1 hz2 hbb k3 hxe hD hDb SQ HX4 HB4
    gi_wp2_with fail
    go_wp2_with fail
    have hset := Boxed.set (.int .i64 0) K3.out
    have hbw := HBB.out.setCell (p := ⟨b + 1 + 1 + 1, 0, none⟩) (by show w.heap.size ≤ b + 1 + 1 + 1; have := EB.out; omega) (.int .i64 0)
    have k2 := (Below.heap_setCell Wz ⟨b + 1 + 1 + 1, 0, none⟩ (.int .i64 0) D2 (by have := HDB.out; show D2 ≠ b + 1 + 1 + 1; omega)).trans HZ2.out
    obtain ⟨wX, hwX⟩ : ∃ wX, Wz.setCell ⟨b + 1 + 1 + 1, 0, none⟩ (.int .i64 0) = wX := ⟨_, rfl⟩
    rw [hwX] at hset hbw k2 ⊢
    have hb10 : Boxed (wX.putObj D2 (.deferred none)) (b + 1 + 1 + 1) 32 (.int .i64 0) := (World.putObj_heap_other (show b + 1 + 1 + 1 ≠ D2 by have := HDB.out; omega)).trans hset
    have hbw2 := hbw.grown (grownBy_putObj' wX D2 (.deferred none)) hbw.size (fun k e => by cases e; show w.heap.size ≤ D2; have := EB.out; have := HDB.out; omega)
    refine ⟨by simp, .inl ⟨_, _, rfl, run_takeDeferred k2, ?_⟩⟩
    exact ⟨.int .i64 0, by simp [results, Try.results121, go_sem, hb10.cell], rfl, hbw2⟩
end Go.Proofs.Ytbpkppmbbpoohaa
