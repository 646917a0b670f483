/- examine finds nothing wrong with a valid size whose fields all have allowed ranges. Conditions: the terms and the ranges lie in memory. The interval of a valid size whose fields all have allowed ranges. Conditions: the terms and the ranges lie in memory. The sums of all choices of ends: the least and the greatest are the ends of the interval. Plain facts. -/
import Derived.Test.YtbpkppmbbpoohaaGreatGe
import Derived.Sort.CutIn
import Derived.IntWalk
namespace Go.Proofs.YtbpkppmbbpoohaaGreat
open Go.RowKit Go.Shelf
attribute [local go_sem] Oper.semAt_some

theorem slAt_fence {S : Nat → Prop} {W : World} {A : Option Addr} {c N : Nat} {D : List (List UInt8)} (h : SlAt strCells 1 S W A c D) (hN : W.heap.size ≤ N) : SlAt strCells 1 (fun i => N ≤ i) W A c D := by
  refine ⟨h.1, h.2.1, fun i d hi => ?_⟩
  obtain ⟨g, o, h1, _, h3⟩ := h.2.2 i d hi
  have := World.block_lt_of_cell? _ _ (h3 0 (.string (strL d)) rfl)
  exact ⟨g, o, h1, by simp only at this; omega, h3⟩

/-- Between two names: the loop's record alone has turned. -/
structure JR (W1 : World) (lr Dd : Nat) (r : Loop) (W : World) : Prop where
  rest : Rest (fun i => i = lr) W1 W
  rec_ : RecAt W lr Dd r
section
variable {W1 W W' : World} {lr Dd : Nat} {r : Loop}
theorem JR.later (h : JR W1 lr Dd r W) (hb : Below W.heap.size W W') : JR W1 lr Dd r W' :=
  ⟨h.rest.trans (Rest.below hb) (fun _ _ e => e), h.rec_.below hb (Array.getElem?_eq_some_iff.1 h.rec_.rec_).1 (Array.getElem?_eq_some_iff.1 h.rec_.dfr).1⟩
theorem JR.put (h : JR W1 lr Dd r W) (r' : Loop) (n2 : lr ≠ Dd) : JR W1 lr Dd r' (W.putObj lr (.loop r')) :=
  ⟨h.rest.trans (rest_putObj W lr (.loop r')) (fun _ _ e => e), h.rec_.put n2 r'⟩
end

theorem prefix_mem {α : Type} {pre D : List α} {x : α} (h : pre ++ [x] <+: D) : x ∈ D := by
  obtain ⟨t, rfl⟩ := h
  simp

set_option maxRecDepth 100000 in
set_option maxHeartbeats 3200000 in
theorem examine_ok (base : Int) (A : Option Addr) (c : Nat) (D : List TermD) (S : Nat → Prop) (w : World) (h : SlAt TermD.cells 2 S w A c D) (r : Nat) (E : PEnts) (hm : MapAt w r (pE E)) (hv : validS base D = true) (hall : ∀ t ∈ D, ∃ p, getP E t.f = some p ∧ allowP p = true) :
    Calls Tryz.prog 155 #[.agg #[.int .i64 base, .slice A D.length c], .map (some r), .func (.func 156) #[] #[]] w fun e w' => e = .returned (.int .i64 0) ∧ Below w.heap.size w w' := by
  -- the boxes
  have hb0 : Below w.heap.size w ((((w.alloc (.cells #[.int .i64 base, .slice A D.length c] 52)).alloc (.cells #[.map (some r)] 77)).alloc (.cells #[.func (.func 156) #[] #[]] 191)).alloc (.cells #[.int .i64 0] 38)) :=
    ((((Below.refl w.heap.size w).alloc (Nat.le_refl _) _).alloc (by simp) _).alloc (by simp; omega) _).alloc (by simp; omega) _
  obtain ⟨wa, hwa⟩ : ∃ wa, w.alloc (.cells #[.int .i64 base, .slice A D.length c] 52) = wa := ⟨_, rfl⟩
  obtain ⟨wb, hwb⟩ : ∃ wb, wa.alloc (.cells #[.map (some r)] 77) = wb := ⟨_, rfl⟩
  obtain ⟨wc, hwc⟩ : ∃ wc, wb.alloc (.cells #[.func (.func 156) #[] #[]] 191) = wc := ⟨_, rfl⟩
  obtain ⟨w1, hw1⟩ : ∃ w1, wc.alloc (.cells #[.int .i64 0] 38) = w1 := ⟨_, rfl⟩
  have hw : (((w.alloc (.cells #[.int .i64 base, .slice A D.length c] 52)).alloc (.cells #[.map (some r)] 77)).alloc (.cells #[.func (.func 156) #[] #[]] 191)).alloc (.cells #[.int .i64 0] 38) = w1 := by rw [hwa, hwb, hwc, hw1]
  rw [hw] at hb0
  have s1 : wa.heap.size = w.heap.size + 1 := by rw [← hwa]; simp
  have s2 : wb.heap.size = w.heap.size + 2 := by rw [← hwb]; simp; omega
  have s3 : wc.heap.size = w.heap.size + 3 := by rw [← hwc]; simp; omega
  have s4 : w1.heap.size = w.heap.size + 4 := by rw [← hw1]; simp; omega
  have bab : Below wa.heap.size wa wb := by rw [← hwb]; exact below_alloc _ _
  have bbc : Below wb.heap.size wb wc := by rw [← hwc]; exact below_alloc _ _
  have bc1 : Below wc.heap.size wc w1 := by rw [← hw1]; exact below_alloc _ _
  have x1 : w1.heap[w.heap.size]? = some (.cells #[.int .i64 base, .slice A D.length c] 52 (0, 0)) :=
    (bc1.block _ (by omega)).trans ((bbc.block _ (by omega)).trans ((bab.block _ (by omega)).trans (by rw [← hwa]; exact heap_alloc_new w _)))
  have x2 : w1.heap[w.heap.size + 1]? = some (.cells #[.map (some r)] 77 (0, 0)) :=
    (bc1.block _ (by omega)).trans ((bbc.block _ (by omega)).trans (by rw [← hwb, ← s1]; exact heap_alloc_new wa _))
  have x3 : w1.heap[w.heap.size + 2]? = some (.cells #[.func (.func 156) #[] #[]] 191 (0, 0)) :=
    (bc1.block _ (by omega)).trans (by rw [← hwc, ← s2]; exact heap_alloc_new wb _)
  have x4 : Boxed w1 (w.heap.size + 3) 38 (.int .i64 0) := by rw [← hw1, ← s3]; exact Boxed.new wc _ _
  have h1 := h.below hb0
  have hm1 := hm.below hb0 hm.lt
  obtain ⟨b, eb⟩ : ∃ b, w.heap.size = b := ⟨_, rfl⟩
  rw [eb] at x1 x2 x3 x4 s4
  have KEEP : Hid (∀ wx, Below w1.heap.size w1 wx → wx.cell? ⟨b, 0, none⟩ = some (.int .i64 base) ∧ wx.cell? ⟨b, 1, none⟩ = some (.slice A D.length c) ∧ wx.cell? ⟨b + 1, 0, none⟩ = some (.map (some r)) ∧ wx.cell? ⟨b + 1 + 1, 0, none⟩ = some (.func (.func 156) #[] #[]) ∧ Boxed wx (b + 1 + 1 + 1) 38 (.int .i64 0) ∧ MapAt wx r (pE E)) := Lib.hid (fun wx hb => by
    have q1 := (hb.block b (by omega)).trans x1
    have q2 := (hb.block (b + 1) (by omega)).trans x2
    have q3 := (hb.block (b + 2) (by omega)).trans x3
    exact ⟨by simp [World.cell?, q1], by simp [World.cell?, q1], by simp [World.cell?, q2], by simp [World.cell?, q3], boxed_below x4 hb (by omega), hm1.below hb hm1.lt⟩)
  have HV := sizeValid base A c D S w1 h1
  rw [hv] at HV
  have HV := Lib.hid HV
  have HNM : Hid (∀ wx, Below w1.heap.size w1 wx → Calls Tryz.prog 138 #[.agg #[.int .i64 base, .slice A D.length c]] wx fun e w' => ∃ qb A' c', e = .returned (.func (.func 101) #[] #[.pointer (some ⟨qb, 0, none⟩)]) ∧ Below wx.heap.size wx w' ∧ SeqAt wx.heap.size w' qb (D.map (·.f)) A' c') := Lib.hid (fun wx hb => by
    have := sizeNames base A c D S wx (h1.below hb)
    unfold namesOf at this
    rwa [hv, if_pos rfl] at this)
  have HALL := Lib.hid hall
  have HW := Lib.hid hw
  have EB := Lib.hid eb
  have HB0 := Lib.hid hb0
  have S4 := Lib.hid s4
  have HVV := Lib.hid hv
  have hlen := valid_len hv
  obtain ⟨y0, y1, y2, y3, y4, _⟩ := KEEP.out w1 (Below.refl _ _)
  have y4c := y4.cell
  clear h hm hv hall hb0 hwa hwb hwc hw1 hw s1 s2 s3 s4 bab bbc bc1 x1 x2 x3 x4 h1 hm1 eb y4
  refine (callsIn_wide (n := 6)).1 ?_
  refine callsIn_of_wp_marks Tryz.func155 rfl trivial ?_ rfl
  simp only [Tryz.ntmps155, List.size_toArray, List.length_cons, List.length_nil, Nat.reduceAdd, Nat.reduceSub, Array.replicate_succ, Array.replicate_zero, List.push_toArray, List.append_toArray, List.nil_append, List.cons_append]
  refine wpIn_wide.2 ?_
  go_upto_region 1 with fail
  rw [HW.out, EB.out]
  go_wp2_with fail
  refine HV.out.mono ?_
  rintro e w2 ⟨rfl, hb2⟩
  -- the variable of the error
  have hal3 := below_alloc w2 (.cells #[.int .i64 0] 38)
  have hx3 := Boxed.new w2 38 (.int .i64 0)
  obtain ⟨eb2, eeb⟩ : ∃ eb2, w2.heap.size = eb2 := ⟨_, rfl⟩
  obtain ⟨w3, hw3⟩ : ∃ w3, w2.alloc (.cells #[.int .i64 0] 38) = w3 := ⟨_, rfl⟩
  rw [hw3] at hal3 hx3
  rw [eeb] at hx3
  have hb3 := hb2.trans (hal3.mono hb2.size)
  have HB3 := Lib.hid hb3
  have HX3 := Lib.hid hx3
  have W3 := Lib.hid hw3
  have EEB := Lib.hid eeb
  obtain ⟨z0, z1, _, _, _, _⟩ := KEEP.out w3 hb3
  have hge3 : b + 3 < eb2 := by have := S4.out; have := hb2.size; omega
  clear hb2 hal3 hx3 hw3 eeb hb3 y0 y1 y2 y3 y4c
  go_upto_region 4 with fail
  rw [W3.out, EEB.out]
  go_wp2_with fail
  refine (HNM.out w3 HB3.out).mono ?_
  rintro e w4 ⟨qb, A', c', rfl, hb4, hseq⟩
  have HB4 := Lib.hid (HB3.out.trans (hb4.mono HB3.out.size))
  have HX4 := Lib.hid (boxed_below HX3.out hb4 HX3.out.lt)
  have SQ := Lib.hid hseq
  clear hb4 hseq z0 z1
  go_wp2_with fail
  refine (wpIn_wide (n := 6)).1 ?_
  gi_wp2_with fail
  have hNl : (D.map (·.f)).length ≤ 9223372036854775807 := by rw [List.length_map]; omega
  have HNL := Lib.hid hNl
  clear hNl
  refine open_joined (gf := 101) (lb := #[.pointer (some ⟨qb, 0, none⟩)]) (by decide) rfl Tryz.entVals (fun W => Below w4.heap.size w4 W ∧ W.heap[w4.heap.size]? = some (.deferred (some []))) .skip ?turn0 ?brk0 ?rest0
  case brk0 =>
    intro fr W h
    exact wpIn_skip h
  case turn0 =>
    intro W1 rr hrr hb1 hsz hR
    obtain ⟨fn, hrr⟩ := hrr
    obtain ⟨D2, hD⟩ : ∃ D2, w4.heap.size = D2 := ⟨_, rfl⟩
    rw [hD] at hrr hb1 hsz hR ⊢
    obtain ⟨lr, hlr⟩ : ∃ lr, D2 + 1 = lr := ⟨_, rfl⟩
    rw [hlr] at hR ⊢
    have hb1' : Below w4.heap.size w4 W1 := by rw [hD]; exact hb1
    have SQ1 := Lib.hid (SQ.out.below hb1')
    have SLF := Lib.hid ((slAt_fence SQ.out.sl (N := lr) (by omega)).rest (Rest.below hb1') (fun _ _ e => e) : SlAt strCells 1 (fun i => lr ≤ i) W1 A' c' (D.map (·.f)))
    have HRR := Lib.hid hrr
    have HR := Lib.hid hR
    have HB1 := Lib.hid hb1'
    have HLE := Lib.hid (show D2 < lr by omega)
    have HD := Lib.hid hD
    clear hrr hb1 hsz hR hD hlr hb1'
    refine (strs_at 5 (by decide) lr qb c' (fun i => lr ≤ i) A' (D.map (·.f)) (fun pre W => JR W1 lr D2 (rr .ready none) W) (fun _ _ => False) (fun pre W W' h hb => h.later hb) HNL.out (fun pre W h => SLF.out.rest h.rest (fun i _ e => by show lr ≤ i; omega)) ?hY W1 SQ1.out.bx.cell ⟨Rest.refl _ _, HR.out⟩).mono ?post0
    case post0 =>
      rintro e W2 ⟨hv, (hj | ⟨pre, hp, hf⟩)⟩
      · refine ⟨hv, .inl ⟨hj.rec_, fun o => ⟨?_, (World.putObj_heap_other (show D2 ≠ lr by have := HLE.out; omega)).trans hj.rec_.dfr⟩⟩⟩
        have h1 := HLE.out
        have h2 := HD.out
        have h3 : Rest (fun i => i = lr) w4 (W2.putObj lr o) := ((Rest.below (S := fun i => i = lr) HB1.out).trans hj.rest (fun _ _ e => e)).trans (rest_putObj W2 lr o) (fun _ _ e => e)
        rw [← h2]
        exact h3.toBelow w4.heap.size (Nat.le_refl _) (fun i hi e => by omega)
      · exact hf.elim
    case hY =>
      intro pre x W hj hpx
      obtain ⟨t, ht, rfl⟩ := List.mem_map.1 (prefix_mem hpx)
      obtain ⟨p, hp1, hp2⟩ := HALL.out t ht
      have JW := Lib.hid hj
      have HP1 := Lib.hid hp1
      have HPA : ∀ wx, Hid (Calls Tryz.prog 156 #[.agg #[.int .i64 p.1, .int .i64 p.2]] wx fun e w' => e = .returned (.bool true) ∧ Below wx.heap.size wx w') := fun wx => Lib.hid (by
        have := allow_any p wx
        rwa [hp2] at this)
      clear hj hpx hp1 hp2
      refine named_round HRR.out JW.out.rec_ rfl ?a10 ?asg0 ?body0
      case asg0 =>
        intro K hK
        have HK := Lib.hid hK
        clear hK
        gi_wp2
        exact HK.out
      case body0 =>
        intro W2 hW2
        have n2 : lr ≠ D2 := by have := HLE.out; omega
        have hj2 : JR W1 lr D2 (rr .busy none) W2 := by rw [hW2]; exact JW.out.put _ n2
        have hbb : Below w1.heap.size w1 W2 := HB4.out.trans (((Rest.below (S := fun i => i = lr) HB1.out).trans hj2.rest (fun _ _ e => e)).toBelow w1.heap.size HB4.out.size (fun i hi e => by have h1 := HLE.out; have h2 := HD.out; have h3 := HB4.out.size; omega))
        obtain ⟨_, _, k1, k2, _, km⟩ := KEEP.out W2 hbb
        have hrun := run_look_ok (P := Tryz.prog) Tryz.underlying77 Tryz.ustr (Tryz.zeroRan W2) km t.f
        have hg : getE (pE E) t.f = some (ranV p) := by rw [getE_p, HP1.out]; rfl
        have hh : hasE (pE E) t.f = true := by unfold hasE; rw [hg]; rfl
        rw [hg, hh] at hrun
        unfold ranV at hrun
        simp only [Option.getD_some] at hrun
        have hal := below_alloc W2 (.cells #[.int .i64 p.1, .int .i64 p.2] 80)
        have hpb := PBox.new W2 p.1 p.2
        obtain ⟨pb, epb⟩ : ∃ pb, W2.heap.size = pb := ⟨_, rfl⟩
        obtain ⟨w6, hw6⟩ : ∃ w6, W2.alloc (.cells #[.int .i64 p.1, .int .i64 p.2] 80) = w6 := ⟨_, rfl⟩
        rw [hw6] at hal hpb
        rw [epb] at hpb
        have hb6 := hbb.trans (hal.mono hbb.size)
        obtain ⟨_, _, _, q2, _, _⟩ := KEEP.out w6 hb6
        have p0 := hpb.c0
        have p1 := hpb.c1
        have J6 := Lib.hid (hj2.later hal)
        have W6 := Lib.hid hw6
        have EPB := Lib.hid epb
        clear hW2 hj2 hbb km hg hh hal hpb hw6 epb hb6
        gi_upto_region 7 with fail
        rw [W6.out, EPB.out]
        gi_wp2_with fail
        refine ⟨trivial, (CallsIn.inRound lr (callsIn_wide.2 (HPA w6).out)).mono ?_⟩
        rintro e w7 ⟨rfl, hb7⟩
        have J7 := Lib.hid (J6.out.later hb7)
        clear hb7
        gi_wp2_with fail
        exact ⟨J7.out.rec_, J7.out.put _ n2⟩
  case rest0 =>
    rintro Wz ⟨hz1, hz2⟩
    obtain ⟨D2, hD⟩ : ∃ D2, w4.heap.size = D2 := ⟨_, rfl⟩
    rw [hD] at hz2 ⊢
    have hbb : Below w1.heap.size w1 Wz := HB4.out.trans (hz1.mono HB4.out.size)
    obtain ⟨_, _, _, _, k3, _⟩ := KEEP.out Wz hbb
    have hxe := boxed_below HX4.out hz1 HX4.out.lt
    have ce := hxe.cell
    have cr := k3.cell
    have fr := k3.frozen
    have hDb : b + 1 + 1 + 1 < D2 := by have h1 := HB4.out.size; have h2 := S4.out; omega
    have K3 := Lib.hid k3
    have HZ2 := Lib.hid hz2
    have HBB := Lib.hid (HB0.out.trans (hbb.mono HB0.out.size))
    have HDB := Lib.hid hDb
    clear hz1 hz2 hbb k3 hxe hD hDb SQ HX4 HB4
    gi_wp2_with fail
    go_wp2_with fail
    have hset := Boxed.set (.int .i64 0) K3.out
    have hbw := HBB.out.setCell (p := ⟨b + 1 + 1 + 1, 0, none⟩) (by show w.heap.size ≤ b + 1 + 1 + 1; have := EB.out; omega) (.int .i64 0)
    have k2 := (Below.heap_setCell Wz ⟨b + 1 + 1 + 1, 0, none⟩ (.int .i64 0) D2 (by have := HDB.out; show D2 ≠ b + 1 + 1 + 1; omega)).trans HZ2.out
    obtain ⟨wX, hwX⟩ : ∃ wX, Wz.setCell ⟨b + 1 + 1 + 1, 0, none⟩ (.int .i64 0) = wX := ⟨_, rfl⟩
    rw [hwX] at hset hbw k2 ⊢
    have hb10 : Boxed (wX.putObj D2 (.deferred none)) (b + 1 + 1 + 1) 38 (.int .i64 0) := (World.putObj_heap_other (show b + 1 + 1 + 1 ≠ D2 by have := HDB.out; omega)).trans hset
    have hbw2 := hbw.grown (grownBy_putObj' wX D2 (.deferred none)) hbw.size (fun k e => by cases e; show w.heap.size ≤ D2; have := EB.out; have := HDB.out; omega)
    refine ⟨by simp, .inl ⟨_, _, rfl, run_takeDeferred k2, ?_⟩⟩
    exact ⟨.int .i64 0, by simp [results, Tryz.results155, go_sem, hb10.cell], rfl, hbw2⟩
end Go.Proofs.YtbpkppmbbpoohaaGreat

namespace Go.Proofs.YtbpkppmbbpoohaaGreat
open Go.RowKit Go.Shelf

def ivStep (E : PEnts) (a : Int × Int) (t : TermD) : Int × Int :=
  (a.1 + min (t.k * ((getP E t.f).getD (0, 0)).1) (t.k * ((getP E t.f).getD (0, 0)).2), a.2 + max (t.k * ((getP E t.f).getD (0, 0)).1) (t.k * ((getP E t.f).getD (0, 0)).2))
def ivS (E : PEnts) (base : Int) (D : List TermD) : Int × Int := D.foldl (ivStep E) (base, base)
theorem ivS_snoc (E : PEnts) (base : Int) (D : List TermD) (t : TermD) : ivS E base (D ++ [t]) = ivStep E (ivS E base D) t := by simp [ivS, List.foldl_append]

theorem mul_small {k v : Int} (h1 : -1048576 ≤ k) (h2 : k ≤ 1048576) (h3 : 0 ≤ v) (h4 : v < 34359738368) : -36028797018963968 ≤ k * v ∧ k * v ≤ 36028797018963968 := by
  have a1 : k * v ≤ 1048576 * v := Int.mul_le_mul_of_nonneg_right h2 h3
  have a2 : (-1048576) * v ≤ k * v := Int.mul_le_mul_of_nonneg_right h1 h3
  omega

theorem okFrom_mem {D : List TermD} : ∀ {pre : List TermD}, okFrom pre D = true → ∀ t ∈ D, inB t.k (-1048576) 1048576 = true := by
  induction D with
  | nil => intro pre _ t ht; cases ht
  | cons d D ih =>
    intro pre h t ht
    simp only [okFrom, Bool.and_eq_true] at h
    cases ht with
    | head =>
      have := h.1
      unfold okT at this
      simp only [Bool.and_eq_true] at this
      exact this.2.2.1
    | tail _ ht => exact ih h.2 t ht
theorem valid_parts {base : Int} {D : List TermD} (h : validS base D = true) : inB base (-1048576) 1048576 = true ∧ D.length ≤ 4 ∧ ∀ t ∈ D, inB t.k (-1048576) 1048576 = true := by
  have h2 := valid_len h
  unfold validS at h
  simp only [Bool.and_eq_true] at h
  exact ⟨h.1.1, h2, okFrom_mem h.2⟩

theorem Tryz.fieldRan0 (a b : Int) (w : World) : (Instr.field 80 (.agg #[.int .i64 a, .int .i64 b]) 0).run Tryz.prog w = .ok (.int .i64 a) w := by kernel_rfl
theorem Tryz.fieldRan1 (a b : Int) (w : World) : (Instr.field 80 (.agg #[.int .i64 a, .int .i64 b]) 1).run Tryz.prog w = .ok (.int .i64 b) w := by kernel_rfl

set_option maxRecDepth 100000 in
set_option maxHeartbeats 6400000 in
theorem interval_ok (base : Int) (A : Option Addr) (c : Nat) (D : List TermD) (S : Nat → Prop) (w : World) (h : SlAt TermD.cells 2 S w A c D) (r : Nat) (E : PEnts) (hm : MapAt w r (pE E)) (hv : validS base D = true) (hall : ∀ t ∈ D, ∃ p, getP E t.f = some p ∧ allowP p = true) :
    Calls Tryz.prog 139 #[.agg #[.int .i64 base, .slice A D.length c], .map (some r)] w fun e w' => e = .returned (.tuple #[.agg #[.int .i64 (ivS E base D).1, .int .i64 (ivS E base D).2], .int .i64 0]) ∧ Below w.heap.size w w' := by
  obtain ⟨wa, hwa⟩ : ∃ wa, w.alloc (.cells #[.int .i64 base, .slice A D.length c] 52) = wa := ⟨_, rfl⟩
  obtain ⟨w1, hw1⟩ : ∃ w1, wa.alloc (.cells #[.int .i64 0, .int .i64 0] 80) = w1 := ⟨_, rfl⟩
  have hw : (w.alloc (.cells #[.int .i64 base, .slice A D.length c] 52)).alloc (.cells #[.int .i64 0, .int .i64 0] 80) = w1 := by rw [hwa, hw1]
  have ba : Below w.heap.size w wa := by rw [← hwa]; exact below_alloc _ _
  have b1 : Below wa.heap.size wa w1 := by rw [← hw1]; exact below_alloc _ _
  have hb0 : Below w.heap.size w w1 := ba.trans (b1.mono ba.size)
  have s1 : wa.heap.size = w.heap.size + 1 := by rw [← hwa]; simp
  have s2 : w1.heap.size = w.heap.size + 2 := by rw [← hw1]; simp; omega
  have x1 : w1.heap[w.heap.size]? = some (.cells #[.int .i64 base, .slice A D.length c] 52 (0, 0)) := (b1.block _ (by omega)).trans (by rw [← hwa]; exact heap_alloc_new w _)
  have x2 : PBox w1 (w.heap.size + 1) 0 0 := by rw [← hw1, ← s1]; exact PBox.new wa 0 0
  have h1 := h.below hb0
  have hm1 := hm.below hb0 hm.lt
  obtain ⟨b, eb⟩ : ∃ b, w.heap.size = b := ⟨_, rfl⟩
  rw [eb] at x1 x2 s2
  have KEEP : Hid (∀ wx, Below w1.heap.size w1 wx → wx.cell? ⟨b, 0, none⟩ = some (.int .i64 base) ∧ wx.cell? ⟨b, 1, none⟩ = some (.slice A D.length c) ∧ PBox wx (b + 1) 0 0 ∧ MapAt wx r (pE E)) := Lib.hid (fun wx hb => by
    have q1 := (hb.block b (by omega)).trans x1
    exact ⟨by simp [World.cell?, q1], by simp [World.cell?, q1], x2.below hb x2.lt, hm1.below hb hm1.lt⟩)
  have HEX := Lib.hid (examine_ok base A c D S w1 h1 r E hm1 hv hall)
  obtain ⟨hbs, hlen, hks⟩ := valid_parts hv
  have hbb : -1048576 ≤ base ∧ base ≤ 1048576 := by simpa [inB] using hbs
  have HKS := Lib.hid hks
  have HALL := Lib.hid hall
  have HBB := Lib.hid hbb
  have H1 := Lib.hid h1
  have HW := Lib.hid hw
  have EB := Lib.hid eb
  have HB0 := Lib.hid hb0
  have S2 := Lib.hid s2
  obtain ⟨y0, y1, _, _⟩ := KEEP.out w1 (Below.refl _ _)
  obtain ⟨RI, hRI⟩ : ∃ RI, ivS E base D = RI := ⟨_, rfl⟩
  rw [hRI]
  have HRI := Lib.hid hRI
  clear h hm hv hall hwa hw1 hw ba b1 hb0 s1 s2 x1 x2 h1 hm1 eb hbs hbb hks hRI
  go_enter Tryz.func139, Tryz.ntmps139
  go_upto_region 1 with fail
  rw [HW.out, EB.out]
  go_wp2_with fail
  refine HEX.out.mono ?_
  rintro e w2 ⟨rfl, hb2⟩
  obtain ⟨z0, z1, _, _⟩ := KEEP.out w2 hb2
  have hal3 := below_alloc w2 (.cells #[.int .i64 base, .int .i64 base] 80)
  have hp3 := PBox.new w2 base base
  obtain ⟨ib, eib⟩ : ∃ ib, w2.heap.size = ib := ⟨_, rfl⟩
  obtain ⟨w3, hw3⟩ : ∃ w3, w2.alloc (.cells #[.int .i64 base, .int .i64 base] 80) = w3 := ⟨_, rfl⟩
  rw [hw3] at hal3 hp3
  rw [eib] at hp3
  have hb3 := hb2.trans (hal3.mono hb2.size)
  obtain ⟨t0, t1, _, _⟩ := KEEP.out w3 hb3
  have HB3 := Lib.hid hb3
  have HP3 := Lib.hid hp3
  have W3 := Lib.hid hw3
  have EIB := Lib.hid eib
  have HIB := Lib.hid (show w1.heap.size ≤ ib by have := hb2.size; omega)
  clear hb2 hal3 hp3 hw3 eib hb3 y0 y1
  go_upto_region 5 with fail
  rw [W3.out, EIB.out]
  go_wp2_with fail
  clear t0 t1 z0 z1
  go_loopw [27] (fun x27 wr => ∃ i : Nat, i ≤ D.length ∧ x27 = .int .i64 ((i : Nat) : Int) ∧ PBox wr ib (ivS E base (D.take i)).1 (ivS E base (D.take i)).2 ∧ Below w1.heap.size w1 wr ∧ (-1048576 - 36028797018963968 * (i : Int) ≤ (ivS E base (D.take i)).1 ∧ (ivS E base (D.take i)).1 ≤ 1048576 + 36028797018963968 * (i : Int)) ∧ (-1048576 - 36028797018963968 * (i : Int) ≤ (ivS E base (D.take i)).2 ∧ (ivS E base (D.take i)).2 ≤ 1048576 + 36028797018963968 * (i : Int))) (fun x27 _ => D.length - (intOf x27).toNat)
  case atStart => exact ⟨0, Nat.zero_le _, rfl, HP3.out, HB3.out, by have := HBB.out; simp [ivS]; omega, by have := HBB.out; simp [ivS]; omega⟩
  case round =>
    obtain ⟨i, hi, rfl, hp, hbw, hlo, hhi⟩ := hrel
    have HP := Lib.hid hp
    have HBW := Lib.hid hbw
    clear hp hbw HP3 HB3
    by_cases hlt : i < D.length
    · obtain ⟨d, hd⟩ : ∃ d, D[i]? = some d := ⟨_, List.getElem?_eq_getElem hlt⟩
      obtain ⟨g, o, rfl, hx⟩ := (H1.out.rest (Rest.below HBW.out) (fun _ _ e => e)).at_ hd
      have x0 : wr.cell? ⟨g, o + i * 2, none⟩ = some (.string (strL d.f)) := hx 0 _ rfl
      have x1 : wr.cell? ⟨g, o + i * 2 + 1, none⟩ = some (.int .i64 d.k) := hx 1 _ rfl
      obtain ⟨p, hp1, hp2⟩ := HALL.out d (List.mem_of_getElem? hd)
      have hkb : -1048576 ≤ d.k ∧ d.k ≤ 1048576 := by
        have := HKS.out d (List.mem_of_getElem? hd)
        simpa [inB] using this
      have hpb : 0 ≤ p.1 ∧ p.1 ≤ p.2 ∧ p.2 < 34359738368 := by
        unfold allowP at hp2
        simpa using hp2
      have ml := mul_small hkb.1 hkb.2 hpb.1 (by omega : p.1 < 34359738368)
      have mh := mul_small hkb.1 hkb.2 (by omega : 0 ≤ p.2) hpb.2.2
      obtain ⟨a1, ha1⟩ : ∃ a1, d.k * p.1 = a1 := ⟨_, rfl⟩
      obtain ⟨a2, ha2⟩ : ∃ a2, d.k * p.2 = a2 := ⟨_, rfl⟩
      rw [ha1] at ml
      rw [ha2] at mh
      obtain ⟨L0, hL0⟩ : ∃ L0, (ivS E base (D.take i)).1 = L0 := ⟨_, rfl⟩
      obtain ⟨H0, hH0⟩ : ∃ H0, (ivS E base (D.take i)).2 = H0 := ⟨_, rfl⟩
      have hst : ivS E base (D.take (i + 1)) = (L0 + min a1 a2, H0 + max a1 a2) := by
        rw [(drop_of hd).2, ivS_snoc]
        unfold ivStep
        rw [hp1, hL0, hH0]
        simp only [Option.getD_some]
        rw [ha1, ha2]
      have hPB := HP.out
      rw [hL0, hH0] at hPB
      rw [hL0] at hlo
      rw [hH0] at hhi
      have hal5 := below_alloc wr (.cells #[.string (strL d.f), .int .i64 d.k] 67)
      have hbx5 : (wr.alloc (.cells #[.string (strL d.f), .int .i64 d.k] 67)).heap[wr.heap.size]? = some (.cells #[.string (strL d.f), .int .i64 d.k] 67 (0, 0)) := heap_alloc_new wr _
      obtain ⟨tb, etb⟩ : ∃ tb, wr.heap.size = tb := ⟨_, rfl⟩
      obtain ⟨w5, hw5⟩ : ∃ w5, wr.alloc (.cells #[.string (strL d.f), .int .i64 d.k] 67) = w5 := ⟨_, rfl⟩
      rw [hw5] at hal5 hbx5
      rw [etb] at hbx5
      have hb5 := HBW.out.trans (hal5.mono HBW.out.size)
      have u0 : w5.cell? ⟨tb, 0, none⟩ = some (.string (strL d.f)) := by simp [World.cell?, hbx5]
      have u1 : w5.cell? ⟨tb, 1, none⟩ = some (.int .i64 d.k) := by simp [World.cell?, hbx5]
      have hP5 := hPB.below hal5 hPB.lt
      have hi4 : ((i : Nat) : Int) ≤ 3 := by omega
      obtain ⟨_, _, _, hm5⟩ := KEEP.out w5 hb5
      have hrun : ∀ n, (Instr.lookup 77 (.map (some r)) (.string (strL d.f)) false).run Tryz.prog (w5.drewN n) = .ok (.agg #[.int .i64 p.1, .int .i64 p.2]) (w5.drewN n) := fun n => by
        have := run_look (P := Tryz.prog) Tryz.underlying77 Tryz.ustr (Tryz.zeroRan (w5.drewN n)) (hm5.below (below_drewN _ _) hm5.lt) d.f
        rw [getE_p, hp1] at this
        exact this
      have e1 : IntKind.i64.wrap (d.k * p.1) = a1 := by rw [ha1]; exact IntWalk.i64_in _ (by omega)
      have e2 : IntKind.i64.wrap (d.k * p.2) = a2 := by rw [ha2]; exact IntWalk.i64_in _ (by omega)
      have HST := Lib.hid hst
      have HP5 := Lib.hid hP5
      have HB5 := Lib.hid hb5
      have W5 := Lib.hid hw5
      have ETB := Lib.hid etb
      have HML := Lib.hid ml
      have HMH := Lib.hid mh
      have HLO := Lib.hid hlo
      have HHI := Lib.hid hhi
      clear hd hx hp1 hp2 hkb hpb ha1 ha2 hL0 hH0 hst hPB hal5 hbx5 hw5 etb hb5 hP5 hm5 ml mh hlo hhi HP
      go_upto_region 8 with fail
      rw [W5.out, ETB.out]
      have hf0 : ∀ n, (Instr.field 80 (.agg #[.int .i64 p.1, .int .i64 p.2]) 0).run Tryz.prog (w5.drewN n) = .ok (.int .i64 p.1) (w5.drewN n) := fun n => Tryz.fieldRan0 _ _ _
      have hf1 : ∀ n, (Instr.field 80 (.agg #[.int .i64 p.1, .int .i64 p.2]) 1).run Tryz.prog (w5.drewN n) = .ok (.int .i64 p.2) (w5.drewN n) := fun n => Tryz.fieldRan1 _ _ _
      go_quiet (fail)
      have hb6 := HB5.out.trans ((below_drewN w5 nq).mono HB5.out.size)
      have hP6 := HP5.out.below (below_drewN w5 nq) HP5.out.lt
      obtain ⟨w6, hw6⟩ : ∃ w6, w5.drewN nq = w6 := ⟨_, rfl⟩
      rw [hw6] at hb6 hP6 ⊢
      obtain ⟨mn, hmn⟩ : ∃ mn, min a1 a2 = mn := ⟨_, rfl⟩
      obtain ⟨mx, hmx⟩ : ∃ mx, max a1 a2 = mx := ⟨_, rfl⟩
      have f1 : (if a2 < a1 then a2 else a1) = mn := by rw [← hmn]; split <;> omega
      have f2 : (if a1 < a2 then a2 else a1) = mx := by rw [← hmx]; split <;> omega
      have bmn : -36028797018963968 ≤ mn ∧ mn ≤ 36028797018963968 := by have := HML.out; have := HMH.out; omega
      have bmx : -36028797018963968 ≤ mx ∧ mx ≤ 36028797018963968 := by have := HML.out; have := HMH.out; omega
      have bL0 : -144115188075855872 ≤ L0 ∧ L0 ≤ 144115188075855872 := by have := HLO.out; omega
      have bH0 : -144115188075855872 ≤ H0 ∧ H0 ≤ 144115188075855872 := by have := HHI.out; omega
      obtain ⟨bL0a, bL0b⟩ := bL0
      obtain ⟨bH0a, bH0b⟩ := bH0
      obtain ⟨bmna, bmnb⟩ := bmn
      obtain ⟨bmxa, bmxb⟩ := bmx
      obtain ⟨L1, hL1⟩ : ∃ L1, L0 + mn = L1 := ⟨_, rfl⟩
      obtain ⟨H1', hH1⟩ : ∃ H1', H0 + mx = H1' := ⟨_, rfl⟩
      have v0 := hP6.c0
      have v1 := hP6.c1
      have v2 := hP6.fr 0
      have v3 := hP6.fr 1
      have hset := hP6.set L1 H1'
      have hbs := (hb6.setCell (p := ⟨ib, 0, none⟩) (by show w1.heap.size ≤ ib; exact HIB.out) (.int .i64 L1)).setCell (p := ⟨ib, 1, none⟩) (by show w1.heap.size ≤ ib; exact HIB.out) (.int .i64 H1')
      have hfin : ivS E base (D.take (i + 1)) = (L1, H1') := by rw [HST.out, hmn, hmx, hL1, hH1]
      have hbd1 : -1048576 - 36028797018963968 * ((i + 1 : Nat) : Int) ≤ L1 ∧ L1 ≤ 1048576 + 36028797018963968 * ((i + 1 : Nat) : Int) := by have := HLO.out; omega
      have hbd2 : -1048576 - 36028797018963968 * ((i + 1 : Nat) : Int) ≤ H1' ∧ H1' ≤ 1048576 + 36028797018963968 * ((i + 1 : Nat) : Int) := by have := HHI.out; omega
      have HL1 := Lib.hid hL1
      have HH1 := Lib.hid hH1
      have HSET := Lib.hid hset
      have HBS := Lib.hid hbs
      have HFIN := Lib.hid hfin
      have HBD1 := Lib.hid hbd1
      have HBD2 := Lib.hid hbd2
      clear hb6 hP6 hw6 hmn hmx hL1 hH1 hset hbs hfin hbd1 hbd2 u0 u1 hrun e1 e2 hf0 hf1
      go_wp2_with fail
      rw [HL1.out, HH1.out]
      go_roundw
      case rel => exact ⟨i + 1, by omega, by go_num, by rw [HFIN.out]; exact HSET.out, HBS.out, by rw [HFIN.out]; exact HBD1.out, by rw [HFIN.out]; exact HBD2.out⟩
      case measure => simp [intOf]; omega
    · obtain rfl : i = D.length := by omega
      have hP := HP.out
      rw [List.take_length, HRI.out] at hP
      obtain ⟨_, _, k2, _⟩ := KEEP.out wr HBW.out
      have p0 := hP.c0
      have p1 := hP.c1
      have r0 := k2.c0
      have r1 := k2.c1
      have r2 := k2.fr 0
      have r3 := k2.fr 1
      have hset := k2.set RI.1 RI.2
      have hbs := ((HB0.out.trans (HBW.out.mono HB0.out.size)).setCell (p := ⟨b + 1, 0, none⟩) (by show w.heap.size ≤ b + 1; have := EB.out; omega) (.int .i64 RI.1)).setCell (p := ⟨b + 1, 1, none⟩) (by show w.heap.size ≤ b + 1; have := EB.out; omega) (.int .i64 RI.2)
      have HSET := Lib.hid hset
      have HBS := Lib.hid hbs
      clear hP k2 hset hbs hlo hhi
      go_wp2_with fail
      have q0 := HSET.out.c0
      have q1 := HSET.out.c1
      refine bodyPost_ret (by simp [results, Tryz.results139, go_sem, *]; try rfl) rfl ?_
      exact ⟨rfl, HBS.out⟩
end Go.Proofs.YtbpkppmbbpoohaaGreat

namespace Go.Proofs.YtbpkppmbbpoohaaGreat
open Go.RowKit

def loE (E : PEnts) (t : TermD) : Int := ((getP E t.f).getD (0, 0)).1
def hiE (E : PEnts) (t : TermD) : Int := ((getP E t.f).getD (0, 0)).2
def ends (E : PEnts) (t : TermD) (j : Nat) : Int := t.k * (if j % 2 = 1 then hiE E t else loE E t)
def mixN (E : PEnts) : List TermD → Nat → Int
  | [], _ => 0
  | t :: D, j => ends E t j + mixN E D (j / 2)
theorem mixN_snoc (E : PEnts) : ∀ (D : List TermD) (t : TermD) (j : Nat), mixN E (D ++ [t]) j = mixN E D j + ends E t (j / 2 ^ D.length)
  | [], t, j => by simp [mixN]
  | d :: D, t, j => by
    simp only [List.cons_append, mixN, List.length_cons]
    rw [mixN_snoc E D t (j / 2), Nat.div_div_eq_div_mul, show 2 * 2 ^ D.length = 2 ^ (D.length + 1) by rw [Nat.pow_succ, Nat.mul_comm]]
    omega
def minS (E : PEnts) : List TermD → Int
  | [] => 0
  | t :: D => min (t.k * loE E t) (t.k * hiE E t) + minS E D
def maxS (E : PEnts) : List TermD → Int
  | [] => 0
  | t :: D => max (t.k * loE E t) (t.k * hiE E t) + maxS E D
theorem ivS_fold (E : PEnts) : ∀ (D : List TermD) (a b : Int), D.foldl (ivStep E) (a, b) = (a + minS E D, b + maxS E D)
  | [], a, b => by simp [minS, maxS]
  | t :: D, a, b => by
    rw [List.foldl_cons]
    have h : ivStep E (a, b) t = (a + min (t.k * loE E t) (t.k * hiE E t), b + max (t.k * loE E t) (t.k * hiE E t)) := rfl
    rw [h, ivS_fold E D]
    simp only [minS, maxS, Int.add_assoc]
theorem ivS_eq (E : PEnts) (base : Int) (D : List TermD) : ivS E base D = (base + minS E D, base + maxS E D) := ivS_fold E D base base
theorem ends_between (E : PEnts) (t : TermD) (j : Nat) : min (t.k * loE E t) (t.k * hiE E t) ≤ ends E t j ∧ ends E t j ≤ max (t.k * loE E t) (t.k * hiE E t) := by
  unfold ends
  split <;> omega
theorem mix_between (E : PEnts) : ∀ (D : List TermD) (j : Nat), minS E D ≤ mixN E D j ∧ mixN E D j ≤ maxS E D
  | [], _ => by simp [minS, maxS, mixN]
  | t :: D, j => by
    have h1 := ends_between E t j
    have h2 := mix_between E D (j / 2)
    simp only [minS, maxS, mixN]
    omega
theorem mix_pick (E : PEnts) (t : TermD) (D : List TermD) (j : Nat) (b : Bool) : mixN E (t :: D) (2 * j + (if b then 1 else 0)) = t.k * (if b then hiE E t else loE E t) + mixN E D j := by
  simp only [mixN, ends]
  cases b
  · rw [if_neg (by simp), show (2 * j + (if false = true then 1 else 0)) / 2 = j by simp]
    simp
  · rw [if_pos (by simp <;> omega), show (2 * j + (if true = true then 1 else 0)) / 2 = j by simp <;> omega]
    simp
theorem mix_min (E : PEnts) : ∀ (D : List TermD), ∃ j, j < 2 ^ D.length ∧ mixN E D j = minS E D
  | [] => ⟨0, by simp, rfl⟩
  | t :: D => by
    obtain ⟨j, hj, e⟩ := mix_min E D
    have hp : 2 ^ (t :: D).length = 2 * 2 ^ D.length := by rw [List.length_cons, Nat.pow_succ, Nat.mul_comm]
    by_cases h : t.k * loE E t ≤ t.k * hiE E t
    · refine ⟨2 * j + (if false then 1 else 0), by rw [hp]; simp; omega, ?_⟩
      rw [mix_pick E t D j false, e]
      simp only [minS]
      rw [Int.min_eq_left h]
      simp
    · refine ⟨2 * j + (if true then 1 else 0), by rw [hp]; simp; omega, ?_⟩
      rw [mix_pick E t D j true, e]
      simp only [minS]
      rw [Int.min_eq_right (by omega)]
      simp
theorem mix_max (E : PEnts) : ∀ (D : List TermD), ∃ j, j < 2 ^ D.length ∧ mixN E D j = maxS E D
  | [] => ⟨0, by simp, rfl⟩
  | t :: D => by
    obtain ⟨j, hj, e⟩ := mix_max E D
    have hp : 2 ^ (t :: D).length = 2 * 2 ^ D.length := by rw [List.length_cons, Nat.pow_succ, Nat.mul_comm]
    by_cases h : t.k * hiE E t ≤ t.k * loE E t
    · refine ⟨2 * j + (if false then 1 else 0), by rw [hp]; simp; omega, ?_⟩
      rw [mix_pick E t D j false, e]
      simp only [maxS]
      rw [Int.max_eq_left h]
      simp
    · refine ⟨2 * j + (if true then 1 else 0), by rw [hp]; simp; omega, ?_⟩
      rw [mix_pick E t D j true, e]
      simp only [maxS]
      rw [Int.max_eq_right (by omega)]
      simp
/-- What is least and greatest among all choices is an end of the interval. -/
theorem mix_ends {E : PEnts} {base lo hi : Int} {D : List TermD} (h1 : ∀ j, j < 2 ^ D.length → lo ≤ base + mixN E D j ∧ base + mixN E D j ≤ hi) (h2 : ∃ j, lo = base + mixN E D j) (h3 : ∃ j, hi = base + mixN E D j) : (lo, hi) = ivS E base D := by
  rw [ivS_eq]
  obtain ⟨a, ha, ea⟩ := mix_min E D
  obtain ⟨b, hb, eb⟩ := mix_max E D
  have ha := (h1 a ha).1
  have hb := (h1 b hb).2
  obtain ⟨c, hc⟩ := h2
  obtain ⟨d, hd⟩ := h3
  have hc2 := (mix_between E D c).1
  have hd2 := (mix_between E D d).2
  simp only [Prod.mk.injEq]
  omega
/-- The sums are small. -/
theorem mix_small {E : PEnts} : ∀ (D : List TermD), (∀ t ∈ D, inB t.k (-1048576) 1048576 = true ∧ ∃ p, getP E t.f = some p ∧ allowP p = true) → ∀ j, -(36028797018963968 * (D.length : Int)) ≤ mixN E D j ∧ mixN E D j ≤ 36028797018963968 * (D.length : Int)
  | [], _, j => by simp [mixN]
  | t :: D, h, j => by
    have h2 := mix_small D (fun x hx => h x (by simp [hx])) (j / 2)
    obtain ⟨hk, p, hp, ha⟩ := h t (by simp)
    have h1 : -36028797018963968 ≤ ends E t j ∧ ends E t j ≤ 36028797018963968 := by
      have hk2 : -1048576 ≤ t.k ∧ t.k ≤ 1048576 := by simpa [inB] using hk
      have ha2 : 0 ≤ p.1 ∧ p.1 ≤ p.2 ∧ p.2 < 34359738368 := by simpa [allowP] using ha
      unfold ends loE hiE
      rw [hp]
      simp only [Option.getD_some]
      split
      · exact mul_small hk2.1 hk2.2 (by omega) (by omega)
      · exact mul_small hk2.1 hk2.2 (by omega) (by omega)
    simp only [mixN, List.length_cons]
    omega
end Go.Proofs.YtbpkppmbbpoohaaGreat
