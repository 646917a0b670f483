/- The walk of SchemaGrows. Conditions: the messages lie in memory. -/
import Derived.Test.YtbpkppmbbpoohaaYa
import Derived.Test.YtbpkppmbbpoohaaVq
import Derived.Test.YtbpkppmbbpoohaaM
import Derived.Test.YtbpkppmbbpoohaaKa
import Derived.Test.YtbpkppmbbpoohaaFb
import Derived.Test.YtbpkppmbbpoohaaIe
import Derived.Test.YtbpkppmbbpoohaaTc
import Derived.Test.YtbpkppmbbpoohaaLk
import Derived.Sort.CutIn
import Derived.Deep.CutRange
import Derived.ArgAppend
namespace Go.Proofs.Ytbpkppmbbpoohaa
open Go.RowKit Go.Shelf
attribute [local go_sem] Oper.semAt_some

theorem sum_mem : ∀ {D : List MsgD} {m : MsgD}, m ∈ D → m.fields.length ≤ sumF D
  | x :: D, m, h => by
    simp only [sumF, List.map_cons, List.sum_cons]
    rcases List.mem_cons.1 h with rfl | h
    · omega
    · have := sum_mem h
      unfold sumF at this
      omega
  | [], _, h => by simp at h
/-- Between two texts. -/
structure LJ (w0 W : World) (lr Dd : Nat) (r : Loop) : Prop where
  bel : Below w0.heap.size w0 W
  rec_ : RecAt W lr Dd r
theorem LJ.later {w0 W W' : World} {lr Dd : Nat} {r : Loop} (h : LJ w0 W lr Dd r) (hb : Below W.heap.size W W') : LJ w0 W' lr Dd r :=
  ⟨h.bel.trans (hb.mono h.bel.size), h.rec_.below hb (Array.getElem?_eq_some_iff.1 h.rec_.rec_).1 (Array.getElem?_eq_some_iff.1 h.rec_.dfr).1⟩
theorem LJ.put {w0 W : World} {lr Dd : Nat} {r : Loop} (h : LJ w0 W lr Dd r) (r' : Loop) (h0 : w0.heap.size ≤ lr) (n2 : lr ≠ Dd) : LJ w0 (W.putObj lr (.loop r')) lr Dd r' :=
  ⟨h.bel.grown (grownBy_putObj' W lr (.loop r')) h.bel.size (fun _ e => by cases e; exact h0), h.rec_.put n2 r'⟩
def LG (w0 : World) (Dd : Nat) (W : World) : Prop := Below w0.heap.size w0 W ∧ W.heap[Dd]? = some (.deferred (some []))
theorem LJ.go {w0 W : World} {lr Dd : Nat} {r : Loop} (h : LJ w0 W lr Dd r) (o : Obj) (h0 : w0.heap.size ≤ lr) (n2 : lr ≠ Dd) : LG w0 Dd (W.putObj lr o) :=
  ⟨h.bel.grown (grownBy_putObj' W lr o) h.bel.size (fun _ e => by cases e; exact h0), (World.putObj_heap_other (Ne.symm n2)).trans h.rec_.dfr⟩

set_option maxRecDepth 100000 in
set_option maxHeartbeats 12800000 in
theorem growsLaw_walk (na st nm : List UInt8) (A : Option Addr) (c a : Nat) (ha : a ≤ 255) (D : List MsgD) (S : Nat → Prop) (w : World) (hD : MsgsAt S w A c D) (hz : HSZ D) :
    Calls Try.prog 8 #[.agg #[.string (strL na), .slice A D.length c, .string (strL st)], .int .u8 a, .string (strL nm)] w fun e w' => e = .returned (.bool true) ∧ Below w.heap.size w w' := by
  obtain ⟨wa, hwa⟩ : ∃ wa, w.alloc (.cells #[.string (strL na), .slice A D.length c, .string (strL st)] 44) = wa := ⟨_, rfl⟩
  obtain ⟨w1, hw1⟩ : ∃ w1, wa.alloc (.cells #[.bool false] 4) = w1 := ⟨_, rfl⟩
  have hw : (w.alloc (.cells #[.string (strL na), .slice A D.length c, .string (strL st)] 44)).alloc (.cells #[.bool false] 4) = w1 := by rw [hwa, hw1]
  have ba : Below w.heap.size w wa := by rw [← hwa]; exact below_alloc _ _
  have b1 : Below wa.heap.size wa w1 := by rw [← hw1]; exact below_alloc _ _
  have sa : wa.heap.size = w.heap.size + 1 := by rw [← hwa]; simp
  have s1 : w1.heap.size = w.heap.size + 2 := by rw [← hw1]; simp; omega
  have hb1 : Below w.heap.size w w1 := ba.trans (b1.mono (by omega))
  have x1 : w1.heap[w.heap.size]? = some (.cells #[.string (strL na), .slice A D.length c, .string (strL st)] 44 (0, 0)) := (b1.block _ (by omega)).trans (by rw [← hwa]; exact heap_alloc_new w _)
  have y1 : Boxed w1 (w.heap.size + 1) 4 (.bool false) := by rw [← hw1, ← sa]; exact Boxed.new wa _ _
  obtain ⟨b, eb⟩ : ∃ b, w.heap.size = b := ⟨_, rfl⟩
  rw [eb] at x1 y1 s1
  have KD : Hid (∀ wx, Below w1.heap.size w1 wx → wx.cell? ⟨b, 0, none⟩ = some (.string (strL na)) ∧ wx.cell? ⟨b, 1, none⟩ = some (.slice A D.length c) ∧ wx.cell? ⟨b, 2, none⟩ = some (.string (strL st))) := Lib.hid (fun wx hb => by
    have h1 := (hb.block b (Array.getElem?_eq_some_iff.1 x1).1).trans x1
    exact ⟨by simp [World.cell?, h1], by simp [World.cell?, h1], by simp [World.cell?, h1]⟩)
  have KR : Hid (∀ wx, Below w1.heap.size w1 wx → Boxed wx (b + 1) 4 (.bool false)) := Lib.hid (fun wx hb => boxed_below y1 hb y1.lt)
  have HW := Lib.hid hw
  have EB := Lib.hid eb
  have HB1 := Lib.hid hb1
  have S1 := Lib.hid s1
  have K1 : Hid (∀ wx, Below w1.heap.size w1 wx → MsgsAt S wx A c D) := Lib.hid (fun wx hb => MsgsAt.rest hD (Rest.below (S := fun _ => False) (hb1.trans (hb.mono hb1.size))) (fun _ _ e => e.elim))
  have HKN : ∀ wx, Hid (Calls Try.prog 9 #[] wx fun e w' => e = .returned (.bool true) ∧ Below wx.heap.size wx w') := fun wx => Lib.hid (known_any wx)
  have HZ := Lib.hid hz
  have HDL := Lib.hid (Nat.le_trans hD.1.1 hD.1.2.1)
  have HA := Lib.hid ha
  have HR1 : Hid (Below w1.heap.size w1 w1) := Lib.hid (Below.refl _ _)
  obtain ⟨p0, p1, p2⟩ := KD.out w1 (Below.refl _ _)
  have HF1 := Lib.hid (fits_any na st A c D S w1 (K1.out w1 (Below.refl _ _)))
  clear hD hwa hw1 hw ba b1 sa s1 hb1 x1 y1 eb hz ha
  refine (callsIn_wide (n := 6)).1 ?_
  refine callsIn_of_wp_marks Try.func8 rfl trivial ?_ rfl
  simp only [Try.ntmps8, List.size_toArray, List.length_cons, List.length_nil, Nat.reduceAdd, Nat.reduceSub, Array.replicate_succ, Array.replicate_zero, List.push_toArray, List.append_toArray, List.nil_append, List.cons_append]
  refine wpIn_wide.2 ?_
  go_upto_region 1 with fail
  rw [HW.out, EB.out]
  have hdl := HDL.out
  go_wp2_with fail
  refine HF1.out.mono ?_
  rintro e w2 ⟨fb, rfl, hfit, hb2⟩
  have HB2 := Lib.hid hb2
  have HFT := Lib.hid hfit
  clear hfit hb2 p0 p1 p2 HF1
  obtain ⟨p0, p1, p2⟩ := KD.out w2 HB2.out
  cases fb with
  | false =>
    go_wp2_with fail
    refine ((HKN _).out).mono ?_
    rintro e w3 ⟨rfl, hbk⟩
    have HB3 := Lib.hid (HB2.out.trans (hbk.mono HB2.out.size))
    clear hbk
    have cr := (KR.out w3 HB3.out).cell
    have cf := (KR.out w3 HB3.out).frozen
    go_wp2_with fail
    have h9 := Boxed.set (.bool true) (KR.out w3 HB3.out)
    have hbw := (HB1.out.trans (HB3.out.mono HB1.out.size)).setCell (p := ⟨b + 1, 0, none⟩) (by show w.heap.size ≤ b + 1; have := EB.out; omega) (.bool true)
    exact ⟨.bool true, by simp [results, Try.results8, go_sem, h9.cell], rfl, hbw⟩
  | true =>
  have FIT := Lib.hid (HFT.out (by first | exact rfl | trivial) HZ.out)
  clear HFT
  by_cases hn0 : D.length = 0
  · have hz1 : (((D.length : Nat) : Int) == 0) = true := by rw [hn0]; rfl
    clear hn0
    go_wp2_with fail
    refine ((HKN _).out).mono ?_
    rintro e w3 ⟨rfl, hbk⟩
    have HB3 := Lib.hid (HB2.out.trans (hbk.mono HB2.out.size))
    clear hbk
    have cr := (KR.out w3 HB3.out).cell
    have cf := (KR.out w3 HB3.out).frozen
    go_wp2_with fail
    have h9 := Boxed.set (.bool true) (KR.out w3 HB3.out)
    have hbw := (HB1.out.trans (HB3.out.mono HB1.out.size)).setCell (p := ⟨b + 1, 0, none⟩) (by show w.heap.size ≤ b + 1; have := EB.out; omega) (.bool true)
    exact ⟨.bool true, by simp [results, Try.results8, go_sem, h9.cell], rfl, hbw⟩
  have hz1 : (((D.length : Nat) : Int) == 0) = false := beq_eq_false_iff_ne.2 (by omega)
  by_cases hn59 : 59 < D.length
  · have hz2 : decide ((59 : Int) < ((D.length : Nat) : Int)) = true := decide_eq_true (by omega)
    go_wp2_with fail
    refine ((HKN _).out).mono ?_
    rintro e w3 ⟨rfl, hbk⟩
    have HB3 := Lib.hid (HB2.out.trans (hbk.mono HB2.out.size))
    clear hbk
    have cr := (KR.out w3 HB3.out).cell
    have cf := (KR.out w3 HB3.out).frozen
    go_wp2_with fail
    have h9 := Boxed.set (.bool true) (KR.out w3 HB3.out)
    have hbw := (HB1.out.trans (HB3.out.mono HB1.out.size)).setCell (p := ⟨b + 1, 0, none⟩) (by show w.heap.size ≤ b + 1; have := EB.out; omega) (.bool true)
    exact ⟨.bool true, by simp [results, Try.results8, go_sem, h9.cell], rfl, hbw⟩
  have hz2 : decide ((59 : Int) < ((D.length : Nat) : Int)) = false := decide_eq_false (by omega)
  obtain ⟨q, hq⟩ : ∃ q, a % D.length = q := ⟨_, rfl⟩
  have hql : q < D.length := by rw [← hq]; exact Nat.mod_lt _ (by omega)
  obtain ⟨m, hm⟩ : ∃ m, D[q]? = some m := ⟨_, List.getElem?_eq_getElem hql⟩
  have hrem : Int.tmod ((a : Nat) : Int) ((D.length : Nat) : Int) = ((q : Nat) : Int) := by rw [← hq]; exact (Int.ofNat_tmod a D.length).symm
  have hwq : IntKind.i64.wrap ((q : Nat) : Int) = ((q : Nat) : Int) := IntWalk.i64_in _ (by omega)
  have hwa : IntKind.i64.wrap ((a : Nat) : Int) = ((a : Nat) : Int) := IntWalk.i64_in _ (by have := HA.out; omega)
  have HM := Lib.hid hm
  have HN := Lib.hid (show 1 ≤ D.length ∧ D.length ≤ 59 ∧ q < D.length by omega)
  clear hm hq hql hn59
  go_upto_region 4 with fail
  have hal3 := below_alloc w2 (.cells #[.int .i64 ((q : Nat) : Int)] 3)
  have hx3 := Boxed.new w2 3 (.int .i64 ((q : Nat) : Int))
  obtain ⟨g8, eg8⟩ : ∃ g, w2.heap.size = g := ⟨_, rfl⟩
  obtain ⟨w3, hw3⟩ : ∃ w', w2.alloc (.cells #[.int .i64 ((q : Nat) : Int)] 3) = w' := ⟨_, rfl⟩
  rw [hw3] at hal3 hx3
  rw [eg8] at hx3
  have HB3 := Lib.hid (HB2.out.trans (hal3.mono HB2.out.size))
  have X8 := Lib.hid hx3
  have W3 := Lib.hid hw3
  have EG8 := Lib.hid eg8
  clear hal3 hx3 eg8 hw3
  go_upto_region 5 with fail
  rw [W3.out, EG8.out]
  clear p0 p1 p2 hz1 hz2 hrem hwq hwa W3 EG8 hn0
  have KS : Hid (∀ wx, Below w3.heap.size w3 wx → Below w3.heap.size w3 wx ∧ wx.cell? ⟨b, 0, none⟩ = some (.string (strL na)) ∧ wx.cell? ⟨b, 1, none⟩ = some (.slice A D.length c) ∧ wx.cell? ⟨b, 2, none⟩ = some (.string (strL st))) := Lib.hid (fun wx hb => ⟨hb, KD.out wx (HB3.out.trans (hb.mono HB3.out.size))⟩)
  have CFEW := Lib.hid (show ∀ m ∈ D, m.fields.length ≤ 1000000 ∧ ∀ d ∈ m.fields, d.terms.length ≤ 1000000 ∧ d.cases.length ≤ 1000000 from fun m hm => ⟨by
      have h1 := FIT.out.2.1
      have h2 := sum_mem hm
      omega, fun d hd => ⟨by have := (FIT.out.2.2 m hm d hd).2; omega, by have := (FIT.out.2.2 m hm d hd).1; omega⟩⟩)
  have KC : Hid (∀ wx, Below w3.heap.size w3 wx → Calls Try.prog 24 #[.agg #[.string (strL na), .slice A D.length c, .string (strL st)]] wx fun e w' => ∃ A' D', e = .returned (.agg #[.string (strL na), .slice A' D.length D.length, .string (strL st)]) ∧ CopD wx.heap.size w' D A' D' ∧ Below wx.heap.size wx w') := Lib.hid (fun wx hb => copyDef na st A c D S wx (K1.out wx (HB3.out.trans (hb.mono HB3.out.size))) (by have := HN.out; omega) CFEW.out)
  obtain ⟨_, p0, p1, p2⟩ := KS.out w3 (Below.refl _ _)
  go_cut [9, 10] from 50 (fun x9 x10 wx => ∃ g9 g10 va vb wα wβ wγ wδ, x9 = .pointer (some ⟨g9, 0, none⟩) ∧ x10 = .pointer (some ⟨g10, 0, none⟩) ∧ PairE w3 (CopR na st D) wx (fun k => k = g9 ∨ k = g10) g9 g10 va vb wα wβ wγ wδ ∧ wx.heap[g9]? = some (obD va) ∧ wx.heap[g10]? = some (obD vb))
  case first =>
    refine pair_region ⟨46, 47, 48, 49, 9, 10⟩ (.agg #[.string (strL na), .slice A D.length c, .string (strL st)]) (.agg #[.string (strL na), .slice A D.length c, .string (strL st)]) (CopR na st D) zeroD obD 24 rfl (by kernel_rfl) (by unfold PairAt.apart; decide) (by simp) (by refine ⟨rfl, rfl, rfl, rfl, rfl, rfl, rfl, rfl⟩) (by refine ⟨rfl, rfl, rfl, rfl, rfl, rfl, rfl, rfl⟩) (topo (by kernel_rfl)) (by simp [Region.binds]) (by simp [Region.binds]) (by simp [Region.binds]) (by simp [Region.binds]) (by simp [Region.binds]) (by simp [Region.binds]) (by simp [Region.binds]) ?_ ?_ ?_ ?_ ?_ ?_ (fun w v w' h => by obtain ⟨_, _, _, _, hb⟩ := h; exact hb) ?_ ?_ ?_ ?_ ?_
    · intro a w hf hb
      have h2 : a.eval (.tmp 3) = .pointer (some ⟨b, 0, none⟩) := eval_at ((hf.low 3 (by unfold PairAt.has; decide)).trans rfl)
      obtain ⟨_, z0, z1, z2⟩ := KS.out w hb
      unfold execOp
      simp only
      rw [h2]
      simp [go_sem, z0, z1, z2]
    · intro a w hf hb
      have h2 : a.eval (.tmp 3) = .pointer (some ⟨b, 0, none⟩) := eval_at ((hf.low 3 (by unfold PairAt.has; decide)).trans rfl)
      obtain ⟨_, z0, z1, z2⟩ := KS.out w hb
      unfold execOp
      simp only
      rw [h2]
      simp [go_sem, z0, z1, z2]
    · intro a w h
      dsimp only at h
      unfold execOp
      simp [go_sem, resolve, h]
    · intro a w h
      dsimp only at h
      unfold execOp
      simp [go_sem, resolve, h]
    · intro w hb
      refine (KC.out w hb).mono ?_
      rintro e w' ⟨A', D', he, hc, hb'⟩
      exact ⟨_, he, A', D', rfl, hc, hb'⟩
    · intro w hb
      refine (KC.out w hb).mono ?_
      rintro e w' ⟨A', D', he, hc, hb'⟩
      exact ⟨_, he, A', D', rfl, hc, hb'⟩
    · intro a w
      unfold execOp
      simp [go_sem, zeroD]
    · intro a w
      unfold execOp
      simp [go_sem, zeroD]
    · rintro a w g v u u' h4 h1 hz ⟨A', D', rfl, _, _⟩
      have k4 := eval_at h4
      have k1 := eval_at h1
      dsimp only at k4 k1
      obtain ⟨w', hw', hr, ho⟩ := store3 (na := strL na) (st := strL st) (x := .slice A' D.length D.length) hz
      unfold zeroD at hz
      have z0 : w.cell? ⟨g, 0, none⟩ = some (.string ⟨#[]⟩) := by simp [World.cell?, hz]
      have z1 : w.cell? ⟨g, 1, none⟩ = some (.slice none 0 0) := by simp [World.cell?, hz]
      have z2 : w.cell? ⟨g, 2, none⟩ = some (.string ⟨#[]⟩) := by simp [World.cell?, hz]
      have fz : ∀ o, w.frozen? ⟨g, o, none⟩ = false := fun o => by simp [World.frozen?, hz]
      refine ⟨w', ?_, hr, ho⟩
      rw [hw']
      unfold execOp
      simp only
      rw [k4, k1]
      simp [go_sem, z0, z1, z2, fz]
    · rintro a w g v u u' h4 h1 hz ⟨A', D', rfl, _, _⟩
      have k4 := eval_at h4
      have k1 := eval_at h1
      dsimp only at k4 k1
      obtain ⟨w', hw', hr, ho⟩ := store3 (na := strL na) (st := strL st) (x := .slice A' D.length D.length) hz
      unfold zeroD at hz
      have z0 : w.cell? ⟨g, 0, none⟩ = some (.string ⟨#[]⟩) := by simp [World.cell?, hz]
      have z1 : w.cell? ⟨g, 1, none⟩ = some (.slice none 0 0) := by simp [World.cell?, hz]
      have z2 : w.cell? ⟨g, 2, none⟩ = some (.string ⟨#[]⟩) := by simp [World.cell?, hz]
      have fz : ∀ o, w.frozen? ⟨g, o, none⟩ = false := fun o => by simp [World.frozen?, hz]
      refine ⟨w', ?_, hr, ho⟩
      rw [hw']
      unfold execOp
      simp only
      rw [k4, k1]
      simp [go_sem, z0, z1, z2, fz]
    · intro a w g9 g10 va vb wα wβ wγ wδ hF hE h6 h7
      have he := hF.eq (by simp)
      subst he
      clear hF
      simp only [Act.put, List.setIfInBounds_toArray, List.set_cons_zero, List.set_cons_succ]
      have HE := Lib.hid hE
      have H6 := Lib.hid h6
      have H7 := Lib.hid h7
      clear hE h6 h7
      go_wp2_with fail
      go_meet
      case rel => exact ⟨g9, g10, va, vb, wα, wβ, wγ, wδ, rfl, rfl, HE.out, H6.out, H7.out⟩
  case rest =>
  obtain ⟨g9, g10, va, vb, wα, wβ, wγ, wδ, rfl, rfl, hE, h6, h7⟩ := hcut
  obtain ⟨w5, hw5⟩ : ∃ w5, wc = w5 := ⟨_, rfl⟩
  rw [hw5] at hE h6 h7 ⊢
  clear hw5
  obtain ⟨A1, D1, rfl, hc1, hb1⟩ := hE.r1
  obtain ⟨A3, D3, rfl, hc3, hb3⟩ := hE.r2
  have h6 : w5.heap[g9]? = some (.cells #[.string (strL na), .slice A1 D.length D.length, .string (strL st)] 44 (0, 0)) := h6
  have h7 : w5.heap[g10]? = some (.cells #[.string (strL na), .slice A3 D.length D.length, .string (strL st)] 44 (0, 0)) := h7
  have hrest1 : Rest (fun k => k = g9 ∨ k = g10) wβ w5 := ((Rest.below hE.b1).trans (Rest.below hb3) (fun _ _ e => e)).trans hE.b2 (fun _ _ e => e)
  have C5 := Lib.hid (hc1.rest hrest1 (fun k h1 h2 e => by have := hE.o16; have := hE.o17; omega))
  have O5 := Lib.hid (hc3.rest hE.b2 (fun k h1 h2 e => by have := hE.o26; have := hE.o27; omega))
  have LEN1 := Lib.hid hc1.len
  have LEN3 := Lib.hid hc3.len
  have hb45 : Below w3.heap.size w3 w5 := ((((hE.b0.trans (hb1.mono hE.b0.size)).trans (hE.b1.mono (by have := hE.b0.size; have := hb1.size; omega))).trans (hb3.mono (by have := hE.b0.size; have := hb1.size; have := hE.b1.size; omega))).trans (hE.b2.toBelow w3.heap.size (by have := hE.b0.size; have := hb1.size; have := hE.b1.size; have := hb3.size; omega) (fun k hk e => by have := hE.ge6; have := hE.ge7; omega)))
  have LT5 := Lib.hid (show w3.heap.size ≤ g9 ∧ w3.heap.size ≤ g10 ∧ g9 ≠ g10 from ⟨hE.ge6, hE.ge7, hE.ne⟩)
  have HB5 := Lib.hid (HB3.out.trans (hb45.mono HB3.out.size))
  have HB35 := Lib.hid hb45
  have N1 := Lib.hid (show D1.map normM = D.map normM from copD_norm C5.out)
  have N3 := Lib.hid (show D3.map normM = D.map normM from copD_norm O5.out)
  have M1 : Hid (MsgsAt (fun k => k = g9 ∨ k = g10) w5 A1 D.length D1) := Lib.hid ((msgs_less (cop_between hc1) (fun k e => by have := hE.o16; have := hE.o17; omega)).rest hrest1 (fun k _ e => e))
  have M3 : Hid (MsgsAt (fun k => k = g9 ∨ k = g10) w5 A3 D.length D3) := Lib.hid ((msgs_less (cop_between hc3) (fun k e => by have := hE.o26; have := hE.o27; omega)).rest hE.b2 (fun k _ e => e))
  have ROW1 := Lib.hid C5.out.row
  have LT9 := Lib.hid (show g9 < w5.heap.size ∧ g10 < w5.heap.size from ⟨(Array.getElem?_eq_some_iff.1 h6).1, (Array.getElem?_eq_some_iff.1 h7).1⟩)
  have X85 := Lib.hid (boxed_below X8.out hb45 X8.out.lt)
  have H9 := Lib.hid h6
  have H10 := Lib.hid h7
  clear hE h6 h7 hc1 hb1 hc3 hb3 hrest1 hb45 p0 p1 p2 KS KC C5 O5 X8
  -- the copy of one message
  obtain ⟨g, o, eA, _⟩ := (K1.out w5 HB5.out).1.at_ HM.out
  subst eA
  obtain ⟨p0, p1, p2⟩ := KD.out w5 HB5.out
  have x8 := X85.out.cell
  have hq1 : ((q : Nat) : Int) + 1 ≤ (D.length : Int) := by have := HN.out; omega
  have hqc : q + 1 ≤ c := by have := (K1.out w5 HB5.out).1.1; have := HN.out; omega
  have hcc : c ≤ 9223372036854775807 := (K1.out w5 HB5.out).1.2.1
  have hw1 : IntKind.i64.wrap (((q : Nat) : Int) + 1) = (((q + 1 : Nat)) : Int) := by rw [IntWalk.i64_in _ (by omega)]; omega
  go_wp2_with fail
  have hcp := copyDef [] [] (some ⟨g, o + q * 2, none⟩) (c - q) [m] S w5 (msgs_pick (K1.out w5 HB5.out) HM.out) (by simp) (fun x hx => by
    simp only [List.mem_singleton] at hx
    subst hx
    exact CFEW.out x (List.mem_of_getElem? HM.out))
  refine hcp.mono ?_
  rintro e w6 ⟨A', D', rfl, hcd, hb6⟩
  obtain ⟨m', rfl⟩ : ∃ m', D' = [m'] := by
    have hl := hcd.len
    match D', hl with
    | [x], _ => exact ⟨x, rfl⟩
  have hcm := hcd.cop 0 m m' rfl rfl
  obtain ⟨ga, oa, ea, _, hxa⟩ := hcd.ok.1.2.2 0 m' rfl
  subst ea
  have a0 : w6.cell? ⟨ga, oa, none⟩ = some (.string (strL m'.name)) := by have := hxa 0 _ rfl; simpa using this
  have a1 : w6.cell? ⟨ga, oa + 1, none⟩ = some (.slice m'.fa m'.fields.length m'.fc) := by have := hxa 1 _ rfl; simpa using this
  have hmok : MsgOk (fun k => k < w5.heap.size ∨ w6.heap.size ≤ k) w6 m' := (cop_between hcd).2 m' (by simp)
  have NM := Lib.hid (show normM m' = normM m from copM_norm hcm)
  have HB6 := Lib.hid hb6
  have A0 := Lib.hid a0
  have A1' := Lib.hid a1
  have MOK := Lib.hid hmok
  clear hcd hb6 hcm hxa a0 a1 hmok hcp p0 p1 p2 x8 hq1 hqc hcc hw1
  have hal7 := below_alloc w6 (.cells #[.string (strL []), .slice (some ⟨ga, oa, none⟩) 1 1, .string (strL [])] 44)
  have hx7 := heap_alloc_new w6 (.cells #[.string (strL []), .slice (some ⟨ga, oa, none⟩) 1 1, .string (strL [])] 44)
  obtain ⟨g11, eg11⟩ : ∃ g, w6.heap.size = g := ⟨_, rfl⟩
  obtain ⟨w7, hw7⟩ : ∃ w', w6.alloc (.cells #[.string (strL []), .slice (some ⟨ga, oa, none⟩) 1 1, .string (strL [])] 44) = w' := ⟨_, rfl⟩
  rw [hw7] at hal7 hx7
  rw [eg11] at hx7
  have HB57 := Lib.hid (HB6.out.trans (hal7.mono HB6.out.size))
  have SZ7 := Lib.hid hal7.size
  have d1 : w7.cell? ⟨g11, 1, none⟩ = some (.slice (some ⟨ga, oa, none⟩) 1 1) := by simp [World.cell?, hx7]
  have a0 := (hal7.cell (p := ⟨ga, oa, none⟩) (World.block_lt_of_cell? _ _ A0.out)).trans A0.out
  have a1 := (hal7.cell (p := ⟨ga, oa + 1, none⟩) (World.block_lt_of_cell? _ _ A1'.out)).trans A1'.out
  have MOK7 : Hid (MsgOk (fun k => k < w5.heap.size ∨ w6.heap.size ≤ k) w7 m') := Lib.hid (FieldsAt.below MOK.out hal7)
  have W7 := Lib.hid hw7
  have EG11 := Lib.hid eg11
  clear hal7 hx7 eg11 hw7 MOK
  go_upto_region 7 with fail
  rw [W7.out, EG11.out]
  clear W7 EG11
  have KG : Hid (∀ wx, Below w5.heap.size w5 wx → (wx.cell? ⟨g9, 0, none⟩ = some (.string (strL na)) ∧ wx.cell? ⟨g9, 1, none⟩ = some (.slice A1 D.length D.length) ∧ wx.cell? ⟨g9, 2, none⟩ = some (.string (strL st)) ∧ ∀ o, wx.frozen? ⟨g9, o, none⟩ = false) ∧ (wx.cell? ⟨g10, 0, none⟩ = some (.string (strL na)) ∧ wx.cell? ⟨g10, 1, none⟩ = some (.slice A3 D.length D.length) ∧ wx.cell? ⟨g10, 2, none⟩ = some (.string (strL st)) ∧ ∀ o, wx.frozen? ⟨g10, o, none⟩ = false)) := Lib.hid (fun wx hb => by
    have h1 := (hb.block g9 (Array.getElem?_eq_some_iff.1 H9.out).1).trans H9.out
    have h2 := (hb.block g10 (Array.getElem?_eq_some_iff.1 H10.out).1).trans H10.out
    exact ⟨⟨by simp [World.cell?, h1], by simp [World.cell?, h1], by simp [World.cell?, h1], fun o => by simp [World.frozen?, h1]⟩, by simp [World.cell?, h2], by simp [World.cell?, h2], by simp [World.cell?, h2], fun o => by simp [World.frozen?, h2]⟩)
  obtain ⟨⟨u0, u1, u2, u3⟩, v0, v1, v2, v3⟩ := KG.out w7 HB57.out
  have hne1 : (((D.length : Nat) : Int) != ((D.length : Nat) : Int)) = false := by simp
  go_upto_region 9 with fail
  have hal8 := below_alloc w7 (.cells #[.string (strL m'.name), .slice m'.fa m'.fields.length m'.fc] 50)
  have hx8 := heap_alloc_new w7 (.cells #[.string (strL m'.name), .slice m'.fa m'.fields.length m'.fc] 50)
  obtain ⟨g12, eg12⟩ : ∃ g, w7.heap.size = g := ⟨_, rfl⟩
  obtain ⟨w8, hw8⟩ : ∃ w', w7.alloc (.cells #[.string (strL m'.name), .slice m'.fa m'.fields.length m'.fc] 50) = w' := ⟨_, rfl⟩
  rw [hw8] at hal8 hx8
  rw [eg12] at hx8
  have W8 := Lib.hid hw8
  have EG12 := Lib.hid eg12
  have HB58 := Lib.hid (HB57.out.trans (hal8.mono HB57.out.size))
  have MOK8 : Hid (MsgOk (fun k => k < w5.heap.size ∨ w6.heap.size ≤ k) w8 m') := Lib.hid (FieldsAt.below MOK7.out hal8)
  have n0 : w8.cell? ⟨g12, 0, none⟩ = some (.string (strL m'.name)) := by simp [World.cell?, hx8]
  have nf : w8.frozen? ⟨g12, 0, none⟩ = false := by simp [World.frozen?, hx8]
  clear hal8 hw8 eg12
  go_upto_region 10 with fail
  rw [W8.out, EG12.out]
  clear W8 a0 a1 d1 hne1 u0 u1 u2 u3 v0 v1 v2 v3 MOK7
  have hx9 := heap_setCell_same w8 g12 0 _ 50 (.string (strL nm)) hx8
  simp only [List.setIfInBounds_toArray, List.set_cons_zero] at hx9
  have hr9 : Rest (fun k => k = g12) w8 (w8.setCell ⟨g12, 0, none⟩ (.string (strL nm))) := (Rest.refl (fun k => k = g12) w8).setCell (S := fun k => k = g12) (p := ⟨g12, 0, none⟩) (fun _ => rfl) _
  obtain ⟨w9, hw9⟩ : ∃ w', w8.setCell ⟨g12, 0, none⟩ (.string (strL nm)) = w' := ⟨_, rfl⟩
  rw [hw9] at hx9 hr9
  have HB59 := Lib.hid (HB58.out.trans (hr9.toBelow w5.heap.size HB58.out.size (fun k hk e => by have := EG12.out; have := HB57.out.size; omega)))
  have MOK9 : Hid (MsgOk (fun k => k = g9 ∨ k = g10) w9 { m' with name := nm }) := Lib.hid (fields_less (FieldsAt.rest MOK8.out hr9 (fun k _ e => .inr (by have := SZ7.out; have := EG12.out; omega))) (fun k e => .inl (by have := LT9.out; omega)))
  have HROW := Lib.hid (own_below ROW1.out HB59.out)
  obtain ⟨ga1, eA1⟩ : ∃ ga1, A1 = some ⟨ga1, 0, none⟩ := by
    rcases HROW.out.2 with ⟨_, h0⟩ | ⟨g, cap, cur, e, _⟩
    · have := HN.out; omega
    · simp only [Value.slice.injEq] at e
      exact ⟨g, e.1⟩
  subst eA1
  have X9 := Lib.hid hx9
  have W9 := Lib.hid hw9
  clear hx9 hr9 hx8 hw9
  go_upto_region 11 with fail
  rw [W9.out]
  clear W9 n0 nf
  have hx9 := X9.out
  have n0 : w9.cell? ⟨g12, 0, none⟩ = some (.string (strL nm)) := by simp [World.cell?, hx9]
  have n1 : w9.cell? ⟨g12, 1, none⟩ = some (.slice m'.fa m'.fields.length m'.fc) := by simp [World.cell?, hx9]
  obtain ⟨⟨u0, u1, u2, u3⟩, v0, v1, v2, v3⟩ := KG.out w9 HB59.out
  clear hx9
  obtain ⟨i0, hi0, hz0, hz1, hz2⟩ := info_parts Try.infoMsg
  have hlo := msgs_len D1
  rw [LEN1.out] at hlo
  have holds : ∀ p : Addr, some (⟨ga1, 0, none⟩ : Addr) = some p → ∀ (j : Nat) u, (D1.flatMap MsgD.cells)[j]? = some u → (w9.alloc (.cells #[.string (strL nm), .slice m'.fa m'.fields.length m'.fc] 50)).cell? (p.add j) = some u := fun p hp j u hu => by
    cases hp
    exact World.ownsRow.cells (own_below HROW.out (below_alloc w9 _)) rfl j u hu
  have hnews : ∀ (j : Nat) u, (MsgD.cells { m' with name := nm })[j]? = some u → (w9.alloc (.cells #[.string (strL nm), .slice m'.fa m'.fields.length m'.fc] 50)).cell? ((⟨w9.heap.size, 0, none⟩ : Addr).add j) = some u := World.news_of_block (cs := (MsgD.cells { m' with name := nm }).toArray) (t := 50) (fr := (0, 0)) (heap_alloc_new w9 _)
  have hfew : D.length + 1 ≤ 60 := by have := HN.out; omega
  obtain ⟨x, hx⟩ : ∃ x : MsgD, ({ m' with name := nm } : MsgD) = x := ⟨_, rfl⟩
  rw [hx] at MOK9 hnews
  have NX := Lib.hid (show normM x = normM { m with name := nm } by
    rw [← hx]
    have h := NM.out
    unfold normM at h ⊢
    simp only [MsgD.mk.injEq, true_and] at h ⊢
    exact h.2)
  have hxc : x.cells.length = 2 := by rw [← hx]; rfl
  have KST : Hid (∀ wx v, wx.ownsRow (w9.alloc (.cells #[.string (strL nm), .slice m'.fa m'.fields.length m'.fc] 50)).heap.size 50 2 v (D.length + 1) (D1.flatMap MsgD.cells ++ x.cells) → (w9.alloc (.cells #[.string (strL nm), .slice m'.fa m'.fields.length m'.fc] 50)).grownBy wx none → ∃ gm cm, v = .slice (some ⟨gm, 0, none⟩) (D.length + 1) cm ∧ MsgsAt (fun k => k = g9 ∨ k = g10) wx (some ⟨gm, 0, none⟩) cm (D1 ++ [x]) ∧ Below w9.heap.size w9 wx ∧ wx.frozen? ⟨g9, 1, none⟩ = false ∧ wx.cell? ⟨g9, 1, none⟩ = some (.slice (some ⟨ga1, 0, none⟩) D.length D.length)) := Lib.hid (fun wx v hown hg => by
    have h := (KG.out wx (HB59.out.trans ((below_grownBy hg).mono HB59.out.size))).1
    obtain ⟨gm, cm, e, hmore⟩ := msgs_more (M1.out.below HB59.out) MOK9.out (below_grownBy hg) LEN1.out (fun k hk e => by
      have h1 := LT9.out
      have h2 := HB59.out.size
      have h3 := (below_alloc w9 (.cells #[.string (strL nm), .slice m'.fa m'.fields.length m'.fc] 50)).size
      omega) hown
    exact ⟨gm, cm, e, hmore, below_grownBy hg, h.2.2.2 1, h.2.1⟩)
  have hxv : #[(Value.string (strL nm)), .slice m'.fa m'.fields.length m'.fc].toList = x.cells := by rw [← hx]; rfl
  go_upto_region 12 with (at_builtin; go_must (refine wpList_append_grows _ rfl _ _ 42 rfl 50 i0 _ 2 40 Try.underlying42 hi0 hz0 hz1 hz2 rfl (by decide) (some ⟨ga1, 0, none⟩) D.length D.length (D1.flatMap MsgD.cells) rfl (fun e => by cases e) hlo holds ⟨w9.heap.size, 0, none⟩ 1 1 x.cells rfl hxc hnews (msg_one _) (by omega) (by unfold maxLen; omega) (by omega) ?_); go_must (intro v' w10 hown hgrow); go_must (obtain ⟨gm, cm, rfl, hmore, hb10, hfz, huz⟩ := KST.out w10 _ hown hgrow))
  clear hown hgrow
  have HB510 := Lib.hid (HB59.out.trans (hb10.mono HB59.out.size))
  have h9 := (HB510.out.block g9 LT9.out.1).trans H9.out
  have h10 := (HB510.out.block g10 LT9.out.2).trans H10.out
  have h9' := heap_setCell_same w10 g9 1 _ 44 (.slice (some ⟨gm, 0, none⟩) (D.length + 1) cm) h9
  simp only [List.setIfInBounds_toArray, List.set_cons_zero, List.set_cons_succ] at h9'
  have h10' := (Below.heap_setCell w10 ⟨g9, 1, none⟩ (.slice (some ⟨gm, 0, none⟩) (D.length + 1) cm) g10 (Ne.symm LT5.out.2.2)).trans h10
  have hr11 : Rest (fun k => k = g9) w10 (w10.setCell ⟨g9, 1, none⟩ (.slice (some ⟨gm, 0, none⟩) (D.length + 1) cm)) := (Rest.refl (fun k => k = g9) w10).setCell (S := fun k => k = g9) (p := ⟨g9, 1, none⟩) (fun _ => rfl) _
  obtain ⟨w11, hw11⟩ : ∃ w', w10.setCell ⟨g9, 1, none⟩ (.slice (some ⟨gm, 0, none⟩) (D.length + 1) cm) = w' := ⟨_, rfl⟩
  rw [hw11] at h9' h10' hr11 ⊢
  have hb10w := HB5.out.trans (HB510.out.mono HB5.out.size)
  have HB11 := Lib.hid (hb10w.trans (hr11.toBelow w1.heap.size hb10w.size (fun k hk e => by have := LT5.out; have := HB3.out.size; omega)))
  have MM : Hid (MsgsAt (fun k => k = g9 ∨ k = g10) w11 (some ⟨gm, 0, none⟩) cm (D1 ++ [x])) := Lib.hid (hmore.rest hr11 (fun k _ e => .inl e))
  have ML : Hid (MsgsAt (fun k => k = g9 ∨ k = g10) w11 A3 D.length D3) := Lib.hid (((M3.out.below HB510.out)).rest hr11 (fun k _ e => .inl e))
  have X811 : Hid (Boxed w11 g8 3 (.int .i64 ((q : Nat) : Int))) := Lib.hid (boxed_rest (boxed_below X85.out HB510.out X85.out.lt) hr11 (fun e => by
    have e : g8 = g9 := e
    have h1 := h9
    rw [← e, show w10.heap[g8]? = _ from boxed_below X85.out HB510.out X85.out.lt] at h1
    cases h1))
  have G9 := Lib.hid h9'
  have G10 := Lib.hid h10'
  clear u0 u1 u2 u3 v0 v1 v2 v3 n0 n1 hi0 hz0 hz1 hz2 hlo holds hnews hfew hxc hxv hx KST hmore hb10 hfz huz h9 h10 h9' h10' hr11 hw11 hb10w H9 H10 M1 M3 ROW1 HROW MOK8 MOK9 X9 EG12 SZ7 HB57 HB58 HB59 HB510 X85 A0 A1' HB6 KG NM
  have KM : Hid (∀ wx, Below w11.heap.size w11 wx → (wx.cell? ⟨b, 0, none⟩ = some (.string (strL na)) ∧ wx.cell? ⟨b, 1, none⟩ = some (.slice (some ⟨g, o, none⟩) D.length c) ∧ wx.cell? ⟨b, 2, none⟩ = some (.string (strL st))) ∧ (wx.cell? ⟨g9, 0, none⟩ = some (.string (strL na)) ∧ wx.cell? ⟨g9, 1, none⟩ = some (.slice (some ⟨gm, 0, none⟩) (D.length + 1) cm) ∧ wx.cell? ⟨g9, 2, none⟩ = some (.string (strL st))) ∧ wx.cell? ⟨g8, 0, none⟩ = some (.int .i64 ((q : Nat) : Int)) ∧ Below w1.heap.size w1 wx) := Lib.hid (fun wx hb => by
    have h1 := (hb.block g9 (Array.getElem?_eq_some_iff.1 G9.out).1).trans G9.out
    have h2 := HB11.out.trans (hb.mono HB11.out.size)
    exact ⟨KD.out wx h2, ⟨by simp [World.cell?, h1], by simp [World.cell?, h1], by simp [World.cell?, h1]⟩, (boxed_below X811.out hb X811.out.lt).cell, h2⟩)
  have KW : Hid (∀ wx, Below w11.heap.size w11 wx → MsgsAt (fun k => wx.heap.size ≤ k) wx (some ⟨g, o, none⟩) c D ∧ MsgsAt (fun k => wx.heap.size ≤ k) wx (some ⟨gm, 0, none⟩) cm (D1 ++ [x])) := Lib.hid (fun wx hb => ⟨MsgsAt.old (K1.out wx (HB11.out.trans (hb.mono HB11.out.size))) (Nat.le_refl _), MsgsAt.old (MM.out.below hb) (Nat.le_refl _)⟩)
  have LX : Hid ((D1 ++ [x]).length = D.length + 1) := Lib.hid (by rw [List.length_append, LEN1.out]; rfl)
  obtain ⟨r, hr⟩ : ∃ r, defAllR na st D = r := ⟨_, rfl⟩
  obtain ⟨r2, hr2⟩ : ∃ r, defAllR na st (D1 ++ [x]) = r := ⟨_, rfl⟩
  have RR := Lib.hid hr
  have RR2 := Lib.hid hr2
  have HC1 : Hid (∀ wx, Below w11.heap.size w11 wx → Calls Try.prog 34 #[.agg #[.string (strL na), .slice (some ⟨g, o, none⟩) D.length c, .string (strL st)]] wx fun e w' => e = .returned (.tuple #[.agg #[.int .i64 (flawT r).1, .int .i64 (flawT r).2.1, .int .i64 (flawT r).2.2], .bool r.isSome]) ∧ Below wx.heap.size wx w') := Lib.hid (fun wx hb => by
    have h := check_all na st _ c D _ wx (KW.out wx hb).1 (fun k hk => hk)
    rwa [hr] at h)
  have HC2 : Hid (∀ wx, Below w11.heap.size w11 wx → Calls Try.prog 34 #[.agg #[.string (strL na), .slice (some ⟨gm, 0, none⟩) (D.length + 1) cm, .string (strL st)]] wx fun e w' => e = .returned (.tuple #[.agg #[.int .i64 (flawT r2).1, .int .i64 (flawT r2).2.1, .int .i64 (flawT r2).2.2], .bool r2.isSome]) ∧ Below wx.heap.size wx w') := Lib.hid (fun wx hb => by
    have h := check_all na st _ cm (D1 ++ [x]) _ wx (KW.out wx hb).2 (fun k hk => hk)
    rwa [hr2, LX.out] at h)
  have HV1 : Hid (∀ wx, Below w11.heap.size w11 wx → Calls Try.prog 35 #[.agg #[.string (strL na), .slice (some ⟨g, o, none⟩) D.length c, .string (strL st)]] wx fun e w' => e = .returned (.bool (!r.isSome)) ∧ Below wx.heap.size wx w') := Lib.hid (fun wx hb => by
    have h := valid_all na st _ c D _ wx (KW.out wx hb).1 (fun k hk => hk)
    rwa [hr] at h)
  have HV2 : Hid (∀ wx, Below w11.heap.size w11 wx → Calls Try.prog 35 #[.agg #[.string (strL na), .slice (some ⟨gm, 0, none⟩) (D.length + 1) cm, .string (strL st)]] wx fun e w' => e = .returned (.bool (!r2.isSome)) ∧ Below wx.heap.size wx w') := Lib.hid (fun wx hb => by
    have h := valid_all na st _ cm (D1 ++ [x]) _ wx (KW.out wx hb).2 (fun k hk => hk)
    rwa [hr2, LX.out] at h)
  -- the same names and fields
  have LIKE := Lib.hid (show (D1 ++ [x]).map normM = (D ++ [{ m with name := nm }]).map normM by rw [List.map_append, List.map_append, N1.out, List.map_cons, List.map_cons, NX.out])
  clear hr hr2
  obtain ⟨⟨p0, p1, p2⟩, _⟩ := KM.out w11 (Below.refl _ _)
  go_wp2_with fail
  refine (HC1.out w11 (Below.refl _ _)).mono ?_
  rintro e w12 ⟨rfl, hb12⟩
  obtain ⟨⟨fm, ff, fc⟩, hfl⟩ : ∃ t, flawT r = t := ⟨_, rfl⟩
  rw [hfl]
  dsimp only
  have hal13 := below_alloc w12 (.cells #[.int .i64 fm, .int .i64 ff, .int .i64 fc] 79)
  have hx13 := heap_alloc_new w12 (.cells #[.int .i64 fm, .int .i64 ff, .int .i64 fc] 79)
  obtain ⟨g13, eg13⟩ : ∃ g, w12.heap.size = g := ⟨_, rfl⟩
  obtain ⟨w13, hw13⟩ : ∃ w', w12.alloc (.cells #[.int .i64 fm, .int .i64 ff, .int .i64 fc] 79) = w' := ⟨_, rfl⟩
  rw [hw13] at hal13 hx13
  rw [eg13] at hx13
  have HB13 := Lib.hid (hb12.trans (hal13.mono hb12.size))
  have X13 := Lib.hid hx13
  have W13 := Lib.hid hw13
  have EG13 := Lib.hid eg13
  have FL := Lib.hid hfl
  clear p0 p1 p2 hb12 hfl hal13 hx13 hw13 eg13
  go_upto_region 13 with fail
  rw [W13.out, EG13.out]
  clear W13 EG13
  obtain ⟨⟨q0, q1, q2⟩, ⟨r0, r1, r2'⟩, _, _⟩ := KM.out w13 HB13.out
  cases his : r.isSome with
  | true =>
    obtain ⟨p, hp⟩ := Option.isSome_iff_exists.1 his
    have HVF : Hid (∀ wx, Below w11.heap.size w11 wx → Calls Try.prog 35 #[.agg #[.string (strL na), .slice (some ⟨g, o, none⟩) D.length c, .string (strL st)]] wx fun e w' => e = .returned (.bool false) ∧ Below wx.heap.size wx w') := Lib.hid (fun wx hb => by
      have h := HV1.out wx hb
      rw [his] at h
      exact h)
    have hp1 : p = (fm, ff, fc) := by
      have := FL.out
      rw [hp] at this
      exact this
    by_cases hneg : fm < 0
    · have hd1 : decide (fm < 0) = true := decide_eq_true hneg
      clear hp hp1 his hneg
      go_wp2_with fail
      refine (HC2.out w13 HB13.out).mono ?_
      rintro e w14 ⟨rfl, hb14⟩
      obtain ⟨⟨gm2, gf2, gc2⟩, hfl2⟩ : ∃ t, flawT r2 = t := ⟨_, rfl⟩
      rw [hfl2]
      dsimp only
      obtain ⟨is2, his2⟩ : ∃ b, r2.isSome = b := ⟨_, rfl⟩
      rw [his2]
      clear hfl2 his2
      have hal15 := below_alloc w14 (.cells #[.int .i64 gm2, .int .i64 gf2, .int .i64 gc2] 79)
      have hx15 := heap_alloc_new w14 (.cells #[.int .i64 gm2, .int .i64 gf2, .int .i64 gc2] 79)
      obtain ⟨g15, eg15⟩ : ∃ g, w14.heap.size = g := ⟨_, rfl⟩
      obtain ⟨w15, hw15⟩ : ∃ w', w14.alloc (.cells #[.int .i64 gm2, .int .i64 gf2, .int .i64 gc2] 79) = w' := ⟨_, rfl⟩
      rw [hw15] at hal15 hx15
      rw [eg15] at hx15
      have hb1315 := hb14.trans (hal15.mono hb14.size)
      have HB15 := Lib.hid (HB13.out.trans (hb1315.mono HB13.out.size))
      have x13 := (hb1315.block g13 (Array.getElem?_eq_some_iff.1 X13.out).1).trans X13.out
      have f0 : w15.cell? ⟨g13, 0, none⟩ = some (.int .i64 fm) := by simp [World.cell?, x13]
      have f1 : w15.cell? ⟨g13, 1, none⟩ = some (.int .i64 ff) := by simp [World.cell?, x13]
      have f2 : w15.cell? ⟨g13, 2, none⟩ = some (.int .i64 fc) := by simp [World.cell?, x13]
      have e0 : w15.cell? ⟨g15, 0, none⟩ = some (.int .i64 gm2) := by simp [World.cell?, hx15]
      have e1 : w15.cell? ⟨g15, 1, none⟩ = some (.int .i64 gf2) := by simp [World.cell?, hx15]
      have e2 : w15.cell? ⟨g15, 2, none⟩ = some (.int .i64 gc2) := by simp [World.cell?, hx15]
      have W15 := Lib.hid hw15
      have EG15 := Lib.hid eg15
      clear q0 q1 q2 r0 r1 r2' hb14 hal15 hx15 hw15 eg15 hb1315 x13
      go_upto_region 15 with fail
      rw [W15.out, EG15.out]
      clear W15 EG15
      obtain ⟨⟨q0, q1, q2⟩, _⟩ := KM.out w15 HB15.out
      go_wp2_with fail
      refine (HVF.out w15 HB15.out).mono ?_
      rintro e w16 ⟨rfl, hb16⟩
      have HB16 := Lib.hid (HB11.out.trans ((HB15.out.trans (hb16.mono HB15.out.size)).mono HB11.out.size))
      clear hb16 q0 q1 q2 f0 f1 f2 e0 e1 e2
      go_wp2_with fail
      refine ((HKN _).out).mono ?_
      rintro e w17 ⟨rfl, hbk⟩
      have HB17 := Lib.hid (HB16.out.trans (hbk.mono HB16.out.size))
      clear hbk
      have cr := (KR.out w17 HB17.out).cell
      have cf := (KR.out w17 HB17.out).frozen
      go_wp2_with fail
      have h9 := Boxed.set (.bool true) (KR.out w17 HB17.out)
      have hbw := (HB1.out.trans (HB17.out.mono HB1.out.size)).setCell (p := ⟨b + 1, 0, none⟩) (by show w.heap.size ≤ b + 1; have := EB.out; omega) (.bool true)
      exact ⟨.bool true, by simp [results, Try.results8, go_sem, h9.cell], rfl, hbw⟩
    · have hd1 : decide (fm < 0) = false := decide_eq_false hneg
      have R2E : Hid (r2 = some (fm, ff, fc)) := Lib.hid (by
        rw [← RR2.out, defAllR_like LIKE.out]
        exact flaw_stays (by rw [RR.out, hp, hp1]) (by show 0 ≤ fm; omega) HN.out.2.1)
      have hcmp : ∀ w, (binOp .eql 79 (.agg #[.int .i64 fm, .int .i64 ff, .int .i64 fc]) (.agg #[.int .i64 fm, .int .i64 ff, .int .i64 fc])).run Try.prog w = .ok (.bool true) w := fun w => by
        simp [go_sem]
      clear hp hp1 his hneg
      go_wp2_with fail
      refine (HC2.out w13 HB13.out).mono ?_
      rintro e w14 ⟨rfl, hb14⟩
      rw [R2E.out]
      dsimp only [flawT, Option.getD_some, Option.isSome_some]
      have hal15 := below_alloc w14 (.cells #[.int .i64 fm, .int .i64 ff, .int .i64 fc] 79)
      have hx15 := heap_alloc_new w14 (.cells #[.int .i64 fm, .int .i64 ff, .int .i64 fc] 79)
      obtain ⟨g15, eg15⟩ : ∃ g, w14.heap.size = g := ⟨_, rfl⟩
      obtain ⟨w15, hw15⟩ : ∃ w', w14.alloc (.cells #[.int .i64 fm, .int .i64 ff, .int .i64 fc] 79) = w' := ⟨_, rfl⟩
      rw [hw15] at hal15 hx15
      rw [eg15] at hx15
      have hb1315 := hb14.trans (hal15.mono hb14.size)
      have HB15 := Lib.hid (HB13.out.trans (hb1315.mono HB13.out.size))
      have x13 := (hb1315.block g13 (Array.getElem?_eq_some_iff.1 X13.out).1).trans X13.out
      have f0 : w15.cell? ⟨g13, 0, none⟩ = some (.int .i64 fm) := by simp [World.cell?, x13]
      have f1 : w15.cell? ⟨g13, 1, none⟩ = some (.int .i64 ff) := by simp [World.cell?, x13]
      have f2 : w15.cell? ⟨g13, 2, none⟩ = some (.int .i64 fc) := by simp [World.cell?, x13]
      have e0 : w15.cell? ⟨g15, 0, none⟩ = some (.int .i64 fm) := by simp [World.cell?, hx15]
      have e1 : w15.cell? ⟨g15, 1, none⟩ = some (.int .i64 ff) := by simp [World.cell?, hx15]
      have e2 : w15.cell? ⟨g15, 2, none⟩ = some (.int .i64 fc) := by simp [World.cell?, hx15]
      have W15 := Lib.hid hw15
      have EG15 := Lib.hid eg15
      clear q0 q1 q2 r0 r1 r2' hb14 hal15 hx15 hw15 eg15 hb1315 x13
      go_upto_region 15 with fail
      rw [W15.out, EG15.out]
      clear W15 EG15
      obtain ⟨⟨q0, q1, q2⟩, _⟩ := KM.out w15 HB15.out
      go_wp2_with fail
      refine (HVF.out w15 HB15.out).mono ?_
      rintro e w16 ⟨rfl, hb16⟩
      have HB16 := Lib.hid (HB11.out.trans ((HB15.out.trans (hb16.mono HB15.out.size)).mono HB11.out.size))
      clear hb16 q0 q1 q2 f0 f1 f2 e0 e1 e2
      go_wp2_with fail
      refine ((HKN _).out).mono ?_
      rintro e w17 ⟨rfl, hbk⟩
      have HB17 := Lib.hid (HB16.out.trans (hbk.mono HB16.out.size))
      clear hbk
      have cr := (KR.out w17 HB17.out).cell
      have cf := (KR.out w17 HB17.out).frozen
      go_wp2_with fail
      have h9 := Boxed.set (.bool true) (KR.out w17 HB17.out)
      have hbw := (HB1.out.trans (HB17.out.mono HB1.out.size)).setCell (p := ⟨b + 1, 0, none⟩) (by show w.heap.size ≤ b + 1; have := EB.out; omega) (.bool true)
      exact ⟨.bool true, by simp [results, Try.results8, go_sem, h9.cell], rfl, hbw⟩
  | false =>
  have RN : Hid (defAllR na st D = none) := Lib.hid (by
    rw [RR.out]
    cases r with
    | none => rfl
    | some p => cases his)
  clear his HV1 HC1 HC2 X13 FL RR
  obtain ⟨ix, hix⟩ : ∃ ix, max (idxOf (fun d : MsgD => d.name == nm) D) 0 = ix := ⟨_, rfl⟩
  obtain ⟨tw, htw⟩ : ∃ tw, D.any (fun d : MsgD => d.name == nm) = tw := ⟨_, rfl⟩
  have HFD := Lib.hid (msg_find na st (some ⟨g, o, none⟩) c D nm _ w13 (KW.out w13 HB13.out).1.1)
  rw [hix, htw] at HFD
  have TW := Lib.hid htw
  clear hix htw
  go_wp2_with fail
  refine HFD.out.mono ?_
  rintro e w14 ⟨rfl, hb14⟩
  have HB14 := Lib.hid (HB13.out.trans (hb14.mono HB13.out.size))
  clear hb14 HFD q0 q1 q2 r0 r1 r2'
  obtain ⟨_, ⟨r0, r1, r2'⟩, _, _⟩ := KM.out w14 HB14.out
  obtain ⟨nb, hnb⟩ : ∃ nb, nameB nm = nb := ⟨_, rfl⟩
  have HNM := fun w => Lib.hid (refName nm w)
  rw [hnb] at HNM
  have NB := Lib.hid hnb
  clear hnb
  go_upto_region 17 with fail
  go_cut [134] from 135 (fun x134 wx => x134 = .bool false ∧ Below w14.heap.size w14 wx)
  case first =>
    cases nb with
    | false =>
      go_wp2_with (go_at_call 36; refine ((HNM _).out).mono ?_; rintro e w' ⟨rfl, rfl⟩)
      go_meet
      case rel => exact ⟨rfl, Below.refl _ _⟩
    | true =>
      cases tw with
      | true =>
        go_wp2_with (go_at_call 36; refine ((HNM _).out).mono ?_; rintro e w' ⟨rfl, rfl⟩)
        go_meet
        case rel => exact ⟨rfl, Below.refl _ _⟩
      | false =>
        have hr2 : r2 = none := by
          rw [← RR2.out, defAllR_like LIKE.out]
          exact valid_more RN.out HM.out HN.out.2.1 NB.out TW.out
        have HV := Lib.hid (HV2.out w14 HB14.out)
        rw [hr2] at HV
        go_wp2_with (go_at_call 36; refine ((HNM _).out).mono ?_; rintro e w' ⟨rfl, rfl⟩)
        refine HV.out.mono ?_
        rintro e w15 ⟨rfl, hb15⟩
        have HB15 := Lib.hid hb15
        clear hb15
        go_wp2_with fail
        go_meet
        case rel => exact ⟨rfl, HB15.out⟩
  case rest =>
  obtain ⟨rfl, hbc⟩ := hcut
  obtain ⟨w15, hw15⟩ : ∃ w', wc = w' := ⟨_, rfl⟩
  rw [hw15] at hbc ⊢
  clear hw15
  have HB15 := Lib.hid (HB14.out.trans (hbc.mono HB14.out.size))
  clear hbc r0 r1 r2' HNM
  obtain ⟨n1, hn1⟩ : ∃ n1, D.length = n1 + 1 := ⟨D.length - 1, by have := HN.out; omega⟩
  have HN1 := Lib.hid hn1
  have hwn : IntKind.i64.wrap (((D.length : Nat) : Int) - 1) = ((n1 : Nat) : Int) := by rw [IntWalk.i64_in _ (by omega)]; omega
  have hnc : ((n1 : Nat) : Int) ≤ ((D.length : Nat) : Int) := by omega
  have hnc2 : n1 ≤ D.length := by omega
  have hnc3 : n1 < D.length := by omega
  clear hn1
  obtain ⟨z0, hz0⟩ : ∃ z, D3[0]? = some z := ⟨_, List.getElem?_eq_getElem (by have := LEN3.out; have := HN.out; omega)⟩
  obtain ⟨ga3, oa3, eA3, _⟩ := ML.out.1.at_ hz0
  subst eA3
  clear hz0
  have hb1115 := HB15.out
  have h10 := (HB15.out.block g10 (Array.getElem?_eq_some_iff.1 G10.out).1).trans G10.out
  have v1 : w15.cell? ⟨g10, 1, none⟩ = some (.slice (some ⟨ga3, oa3, none⟩) D.length D.length) := by simp [World.cell?, h10]
  have vf : w15.frozen? ⟨g10, 1, none⟩ = false := by simp [World.frozen?, h10]
  go_upto_region 20 with fail
  have h10' := heap_setCell_same w15 g10 1 _ 44 (.slice (some ⟨ga3, oa3, none⟩) n1 D.length) h10
  simp only [List.setIfInBounds_toArray, List.set_cons_zero, List.set_cons_succ] at h10'
  have hr16 : Rest (fun k => k = g10) w15 (w15.setCell ⟨g10, 1, none⟩ (.slice (some ⟨ga3, oa3, none⟩) n1 D.length)) := (Rest.refl (fun k => k = g10) w15).setCell (S := fun k => k = g10) (p := ⟨g10, 1, none⟩) (fun _ => rfl) _
  obtain ⟨w16, hw16⟩ : ∃ w', w15.setCell ⟨g10, 1, none⟩ (.slice (some ⟨ga3, oa3, none⟩) n1 D.length) = w' := ⟨_, rfl⟩
  rw [hw16] at h10' hr16 ⊢
  have hb15w := HB11.out.trans (HB15.out.mono HB11.out.size)
  have HB16 := Lib.hid (hb15w.trans (hr16.toBelow w1.heap.size hb15w.size (fun k hk e => by have := LT5.out; have := HB3.out.size; omega)))
  have ML16 : Hid (MsgsAt (fun k => k = g9 ∨ k = g10) w16 (some ⟨ga3, oa3, none⟩) D.length D3) := Lib.hid ((ML.out.below HB15.out).rest hr16 (fun k _ e => .inr e))
  have x8b := boxed_below X811.out HB15.out X811.out.lt
  have X816 : Hid (Boxed w16 g8 3 (.int .i64 ((q : Nat) : Int))) := Lib.hid (boxed_rest x8b hr16 (fun e => by
    have e : g8 = g10 := e
    have h1 := h10
    rw [← e, show w15.heap[g8]? = _ from x8b] at h1
    cases h1))
  have G10' := Lib.hid h10'
  clear v1 vf h10 h10' hr16 hw16 hb15w x8b hb1115 MM ML HV2 KM KW G9 G10 X811 RR2 LIKE NX HB11 HB13 HB14 HB15 TW NB
  obtain ⟨z, hz⟩ : ∃ z, D[n1]? = some z := ⟨_, List.getElem?_eq_getElem hnc3⟩
  have KN : Hid (∀ wx, Below w16.heap.size w16 wx → (wx.cell? ⟨b, 0, none⟩ = some (.string (strL na)) ∧ wx.cell? ⟨b, 1, none⟩ = some (.slice (some ⟨g, o, none⟩) D.length c) ∧ wx.cell? ⟨b, 2, none⟩ = some (.string (strL st))) ∧ (wx.cell? ⟨g10, 0, none⟩ = some (.string (strL na)) ∧ wx.cell? ⟨g10, 1, none⟩ = some (.slice (some ⟨ga3, oa3, none⟩) n1 D.length) ∧ wx.cell? ⟨g10, 2, none⟩ = some (.string (strL st))) ∧ wx.cell? ⟨g, o + n1 * 2, none⟩ = some (.string (strL z.name)) ∧ wx.cell? ⟨g8, 0, none⟩ = some (.int .i64 ((q : Nat) : Int)) ∧ Below w1.heap.size w1 wx) := Lib.hid (fun wx hb => by
    have h1 := (hb.block g10 (Array.getElem?_eq_some_iff.1 G10'.out).1).trans G10'.out
    have h2 := HB16.out.trans (hb.mono HB16.out.size)
    obtain ⟨g', o', e', hh⟩ := (K1.out wx h2).1.at_ hz
    simp only [Option.some.injEq, Addr.mk.injEq, and_true] at e'
    obtain ⟨rfl, rfl⟩ := e'
    exact ⟨KD.out wx h2, ⟨by simp [World.cell?, h1], by simp [World.cell?, h1], by simp [World.cell?, h1]⟩, hh 0 _ rfl, (boxed_below X816.out hb X816.out.lt).cell, h2⟩)
  have KD16 : Hid (∀ wx, Below w16.heap.size w16 wx → MsgsAt (fun k => wx.heap.size ≤ k) wx (some ⟨g, o, none⟩) c D) := Lib.hid (fun wx hb => MsgsAt.old (K1.out wx (HB16.out.trans (hb.mono HB16.out.size))) (Nat.le_refl _))
  have HVL : Hid (z.name ≠ st → ∀ wx, Below w16.heap.size w16 wx → Calls Try.prog 35 #[.agg #[.string (strL na), .slice (some ⟨ga3, oa3, none⟩) n1 D.length, .string (strL st)]] wx fun e w' => e = .returned (.bool true) ∧ Below wx.heap.size wx w') := Lib.hid (fun hne wx hb => by
    have hl3 : (D3.take n1).length = n1 := by rw [List.length_take, LEN3.out]; omega
    have h := valid_all na st (some ⟨ga3, oa3, none⟩) D.length (D3.take n1) _ wx (msgs_take (MsgsAt.old (ML16.out.below hb) (Nat.le_refl _)) (by rw [LEN3.out]; exact hnc2)) (fun k hk => hk)
    have hd : D = D.take n1 ++ [z] := by
      have := (drop_of hz).2
      rw [← this, List.take_of_length_le (by have := HN1.out; omega)]
    have hv : defAllR na st (D3.take n1) = none := by
      rw [defAllR_like (D := D.take n1) (by rw [List.map_take, List.map_take, N3.out])]
      refine valid_less (z := z) ?_ hne
      rw [← hd]
      exact RN.out
    rw [hv, hl3] at h
    exact h)
  clear hz
  have hqi0 : (0 : Int) ≤ ((n1 : Nat) : Int) := by omega
  have hqi1 : ((n1 : Nat) : Int) < ((D.length : Nat) : Int) := by omega
  have hwn1 : IntKind.i64.wrap ((n1 : Nat) : Int) = ((n1 : Nat) : Int) := IntWalk.i64_in _ (by omega)
  go_cut [155] from 156 (fun x155 wx => x155 = .bool false ∧ Below w16.heap.size w16 wx)
  case first =>
    obtain ⟨⟨q0, q1, q2⟩, ⟨r0, r1, r2'⟩, nz, _, _⟩ := KN.out w16 (Below.refl _ _)
    by_cases he : z.name = st
    · rw [he] at nz
      refine wp_region_noPanic ?_
      go_quiet (fail)
      refine NoPanic.normal ?_
      go_wp2_with fail
      go_meet
      case rel => exact ⟨rfl, ⟨rfl, rfl, rfl, Nat.le_refl _, fun _ _ => rfl⟩⟩
    · have e1 := text_ne he
      have HV := Lib.hid (HVL.out he)
      have KE : Hid (∀ wx, Below w16.heap.size w16 wx → wx.cell? ⟨b, 1, none⟩ = some (.slice (some ⟨g, o, none⟩) D.length c) ∧ wx.cell? ⟨b, 2, none⟩ = some (.string (strL st)) ∧ wx.cell? ⟨g, o + n1 * 2, none⟩ = some (.string (strL z.name)) ∧ wx.cell? ⟨g10, 0, none⟩ = some (.string (strL na)) ∧ wx.cell? ⟨g10, 1, none⟩ = some (.slice (some ⟨ga3, oa3, none⟩) n1 D.length) ∧ wx.cell? ⟨g10, 2, none⟩ = some (.string (strL st))) := Lib.hid (fun wx hb => by
        obtain ⟨⟨q0, q1, q2⟩, ⟨r0, r1, r2'⟩, nz, _, _⟩ := KN.out wx hb
        exact ⟨q1, q2, nz, r0, r1, r2'⟩)
      clear he
      refine wp_region_noPanic ?_
      go_region_held (fun wx => wx.cell? ⟨b, 1, none⟩ = some (.slice (some ⟨g, o, none⟩) D.length c) ∧ wx.cell? ⟨b, 2, none⟩ = some (.string (strL st)) ∧ wx.cell? ⟨g, o + n1 * 2, none⟩ = some (.string (strL z.name)) ∧ wx.cell? ⟨g10, 0, none⟩ = some (.string (strL na)) ∧ wx.cell? ⟨g10, 1, none⟩ = some (.slice (some ⟨ga3, oa3, none⟩) n1 D.length) ∧ wx.cell? ⟨g10, 2, none⟩ = some (.string (strL st))) (first | exact KE.out _ (Below.refl _ _).drew | exact KE.out _ HB17.out | exact KE.out _ (Below.refl _ _)) (first | (go_at_call 35; refine (HV.out _ (by first | exact (Below.refl _ _).drew | exact Below.refl _ _)).mono ?_; rintro e w17 ⟨rfl, hb17⟩; have HB17 := Lib.hid (by first | exact (Below.refl _ _).drew.trans hb17 | exact hb17 : Below w16.heap.size w16 w17); clear hb17))
      all_goals
        refine NoPanic.normal ?_
        go_wp2_with fail
        go_meet
        case rel => exact ⟨rfl, HB17.out⟩
  case rest =>
  obtain ⟨rfl, hbc⟩ := hcut
  obtain ⟨w17, hw17⟩ : ∃ w', wc = w' := ⟨_, rfl⟩
  rw [hw17] at hbc ⊢
  clear hw17
  have HB17 := Lib.hid hbc
  clear hbc HVL hwn hnc hnc2 hnc3 hqi0 hqi1 hwn1
  obtain ⟨⟨q0, q1, q2⟩, _, _, x8, _⟩ := KN.out w17 HB17.out
  obtain ⟨dq, hdq⟩ : ∃ dq, ((getN (defE D) m.name).getD (0, false)).1 = dq := ⟨_, rfl⟩
  have hdr : 1 ≤ dq ∧ dq ≤ 16 := by
    have h := nature_of RN.out HM.out
    omega
  have DQ := Lib.hid hdq
  have NATI : Hid (∀ (i : Nat) (e : MsgD), D[i]? = some e → natInR (defAllR na st D) (defE D) D ((i : Nat) : Int) = ((getN (defE D) e.name).getD (0, false), 0)) := Lib.hid (fun i e he => by
    rw [RN.out]
    unfold natInR
    have hl := (List.getElem?_eq_some_iff.1 he).1
    have hi : inB ((i : Nat) : Int) 0 (((D.length : Nat) : Int) - 1) = true := by simp [inB]; omega
    simp [hi, he])
  have HDP : Hid (∀ (i : Nat) (e : MsgD), D[i]? = some e → ∀ wx, Below w16.heap.size w16 wx → Calls Try.prog 27 #[.agg #[.string (strL na), .slice (some ⟨g, o, none⟩) D.length c, .string (strL st)], .int .i64 ((i : Nat) : Int)] wx fun e' w' => e' = .returned (.tuple #[.int .i64 ((getN (defE D) e.name).getD (0, false)).1, .int .i64 0]) ∧ Below wx.heap.size wx w') := Lib.hid (fun i e he wx hb => by
    have h := depth_all na st _ c D _ ((i : Nat) : Int) wx (KD16.out wx hb) (fun k hk => hk)
    rwa [NATI.out i e he] at h)
  have hdp := HDP.out q m HM.out w17 HB17.out
  rw [hdq] at hdp
  have hd1 : decide (dq < 1) = false := decide_eq_false (by omega)
  have hd2 : decide ((16 : Int) < dq) = false := decide_eq_false (by omega)
  have HDQ := Lib.hid hdr
  have HP := Lib.hid hdp
  clear hdq hdp hdr
  go_wp2_with fail
  refine HP.out.mono ?_
  rintro e w18 ⟨rfl, hb18⟩
  have hal19 := below_alloc w18 (.cells #[.int .i64 dq] 3)
  have hx19 := Boxed.new w18 3 (.int .i64 dq)
  obtain ⟨g19, eg19⟩ : ∃ g, w18.heap.size = g := ⟨_, rfl⟩
  obtain ⟨w19, hw19⟩ : ∃ w', w18.alloc (.cells #[.int .i64 dq] 3) = w' := ⟨_, rfl⟩
  rw [hw19] at hal19 hx19
  rw [eg19] at hx19
  have hb1819 := hb18.trans (hal19.mono hb18.size)
  have HB19 := Lib.hid (HB17.out.trans (hb1819.mono HB17.out.size))
  have X19 := Lib.hid hx19
  have W19 := Lib.hid hw19
  have EG19 := Lib.hid eg19
  have x19 := hx19.cell
  clear q0 q1 q2 x8 hb18 hal19 hx19 hw19 eg19 hb1819 HP
  go_upto_region 23 with fail
  rw [W19.out, EG19.out]
  clear W19 EG19
  obtain ⟨⟨q0, q1, q2⟩, _, _, x8, hbw⟩ := KN.out w19 HB19.out
  obtain ⟨g', o', e', hh⟩ := (K1.out w19 hbw).1.at_ HM.out
  simp only [Option.some.injEq, Addr.mk.injEq, and_true] at e'
  obtain ⟨rfl, rfl⟩ := e'
  have m0 : w19.cell? ⟨g, o + q * 2, none⟩ = some (.string (strL m.name)) := hh 0 _ rfl
  have m1 : w19.cell? ⟨g, o + q * 2 + 1, none⟩ = some (.slice m.fa m.fields.length m.fc) := hh 1 _ rfl
  have hqi0 : (0 : Int) ≤ ((q : Nat) : Int) := by omega
  have hqi1 : ((q : Nat) : Int) < ((D.length : Nat) : Int) := by have := HN.out; omega
  have hwq : IntKind.i64.wrap ((q : Nat) : Int) = ((q : Nat) : Int) := IntWalk.i64_in _ (by have := HN.out; omega)
  have hokm : ∀ f ∈ m.fields, okF f := fun f hf => FIT.out.2.2 m (List.mem_of_getElem? HM.out) f hf
  have hn4 : m.fields.length ≤ 400 := by
    have h1 := FIT.out.2.1
    have h2 := sum_mem (List.mem_of_getElem? HM.out)
    omega
  have hfa := (K1.out w19 hbw).2 m (List.mem_of_getElem? HM.out)
  have hrf := refers_any m.name m.fa m.fc m.fields S w19 hfa.1 (by
    have := targs_len m.fields hokm
    omega) (fun d hd wx hb => targets_all d S wx (FieldOk.below (hfa.2 d hd) hb).2 (by have := (hokm d hd).1; omega))
  have HRF := Lib.hid hrf
  have HNL := Lib.hid (show (refsN m.fields).length ≤ 9223372036854775807 by
    have h1 := addAll_len (m.fields.flatMap targB) []
    have h2 := targs_len m.fields hokm
    have h3 : (refsN m.fields).length ≤ 0 + (m.fields.flatMap targB).length := h1
    omega)
  clear hh hfa hrf hokm hn4 hbw
  go_upto_region 25 with fail
  clear x19 hd1 hd2
  go_wp2_with fail
  refine HRF.out.mono ?_
  rintro e w20 ⟨qb, A', c', rfl, hb20, hseq⟩
  have HB20 := Lib.hid (HB19.out.trans (hb20.mono HB19.out.size))
  have X20 := Lib.hid (boxed_below X19.out hb20 X19.out.lt)
  have SQ := Lib.hid hseq
  clear HRF q0 q1 q2 x8 m0 m1 hqi0 hqi1 hwq hb20 hseq X19
  have hq := eqlSeq
  go_upto_region 28 with fail
  clear hq
  refine (wpIn_wide (n := 6)).1 ?_
  gi_wp2_with fail
  refine (wpIn_wide (n := 6)).1 ?_
  refine wpIn_block ?_
  refine open_joined (gf := 67) (lb := #[.pointer (some ⟨qb, 0, none⟩)]) (by decide) rfl Try.entVals (LG w20 w20.heap.size) .skip ?turn (fun fr W h => wpIn_skip h) ?restt
  case turn =>
    intro W1 rr hrr hb1 hsz hR
    obtain ⟨fn, hrr⟩ := hrr
    obtain ⟨D2, hD⟩ : ∃ D2, w20.heap.size = D2 := ⟨_, rfl⟩
    rw [hD] at hrr hb1 hsz hR ⊢
    obtain ⟨lr, hlr⟩ : ∃ lr, D2 + 1 = lr := ⟨_, rfl⟩
    rw [hlr] at hR ⊢
    have hj0 : LJ w20 W1 lr D2 (rr .ready none) := ⟨by rw [hD]; exact hb1, hR⟩
    have J0 := Lib.hid hj0
    have HRR := Lib.hid hrr
    have N1 := Lib.hid (show w20.heap.size ≤ lr by omega)
    have N2 := Lib.hid (show lr ≠ D2 by omega)
    clear hrr hb1 hsz hR hD hlr hj0
    refine (strs_at 5 (by decide) lr qb c' (fun i => i < w19.heap.size) A' (refsN m.fields) (fun _ W => LJ w20 W lr D2 (rr .ready none)) (fun _ _ => False) (fun pre W W' h hb => h.later hb) HNL.out (fun pre W h => (SQ.out.below h.bel).sl) ?hY W1 (SQ.out.below J0.out.bel).bx.cell J0.out).mono ?post
    case post =>
      rintro e W2 ⟨hv, (hj | ⟨pre, hp, hf⟩)⟩
      · exact ⟨hv, .inl ⟨hj.rec_, fun o => hj.go o N1.out N2.out⟩⟩
      · exact hf.elim
    case hY =>
      intro pre x W hj hpx
      have hx : (refsN m.fields)[pre.length]? = some x := by obtain ⟨t, ht⟩ := hpx; rw [← ht]; simp
      obtain ⟨i, me, hi, hik, hne, hidx, hdep⟩ := refs_below RN.out HM.out (List.mem_of_getElem? hx)
      have hnat := (nature_of RN.out HM.out).1
      rw [DQ.out] at hnat
      rw [← hnat, ← hne] at hdep
      have hany : D.any (fun d : MsgD => d.name == x) = true := List.any_eq_true.2 ⟨me, List.mem_of_getElem? hi, by simp [hne]⟩
      have hmax : max (idxOf (fun d : MsgD => d.name == x) D) 0 = ((i : Nat) : Int) := by rw [hidx]; omega
      obtain ⟨bd, hbd⟩ : ∃ bd, ((getN (defE D) me.name).getD (0, false)).1 = bd := ⟨_, rfl⟩
      rw [hbd] at hdep
      have JW := Lib.hid hj
      have HFD : Hid (∀ wx, Below w16.heap.size w16 wx → Calls Try.prog 19 #[.agg #[.string (strL na), .slice (some ⟨g, o, none⟩) D.length c, .string (strL st)], .string (strL x)] wx fun e w' => e = .returned (.tuple #[.int .i64 ((i : Nat) : Int), .bool true]) ∧ Below wx.heap.size wx w') := Lib.hid (fun wx hb => by
        have h := msg_find na st _ c D x _ wx (KD16.out wx hb).1
        rwa [hmax, hany] at h)
      have HDE : Hid (∀ wx, Below w16.heap.size w16 wx → Calls Try.prog 27 #[.agg #[.string (strL na), .slice (some ⟨g, o, none⟩) D.length c, .string (strL st)], .int .i64 ((i : Nat) : Int)] wx fun e' w' => e' = .returned (.tuple #[.int .i64 bd, .int .i64 0]) ∧ Below wx.heap.size wx w') := Lib.hid (fun wx hb => by
        have h := HDP.out i me hi wx hb
        rwa [hbd] at h)
      have HG := Lib.hid (And.intro hik hdep)
      clear hj hpx hx hi hik hne hidx hdep hnat hany hmax hbd
      refine named_round HRR.out JW.out.rec_ rfl ?a1 ?asg ?body
      case asg =>
        intro K hK
        have HK := Lib.hid hK
        clear hK
        gi_wp2
        exact HK.out
      case body =>
        intro W2 hW2
        have hj2 : LJ w20 W2 lr D2 (rr .busy none) := by rw [hW2]; exact JW.out.put _ N1.out N2.out
        have J2 := Lib.hid hj2
        have HB2' := Lib.hid (HB20.out.trans (hj2.bel.mono HB20.out.size))
        clear hj2 hW2
        obtain ⟨⟨q0, q1, q2⟩, _⟩ := KN.out W2 HB2'.out
        gi_wp2_with fail
        refine ⟨trivial, (CallsIn.inRound lr (callsIn_wide.2 (HFD.out W2 HB2'.out))).mono ?_⟩
        rintro e W3 ⟨rfl, hb3⟩
        have J3 := Lib.hid (J2.out.later hb3)
        have HB3' := Lib.hid (HB2'.out.trans (hb3.mono HB2'.out.size))
        clear hb3 q0 q1 q2
        obtain ⟨⟨q0, q1, q2⟩, _⟩ := KN.out W3 HB3'.out
        gi_wp2_with fail
        refine ⟨trivial, (CallsIn.inRound lr (callsIn_wide.2 (HDE.out W3 HB3'.out))).mono ?_⟩
        rintro e W4 ⟨rfl, hb4⟩
        have J4 := Lib.hid (J3.out.later hb4)
        have HB4' := Lib.hid (HB3'.out.trans (hb4.mono HB3'.out.size))
        clear hb4 q0 q1 q2
        have x8 := (KN.out W4 HB4'.out).2.2.2.1
        have x19 := (boxed_below X20.out J4.out.bel X20.out.lt).cell
        have hg1 : decide (((q : Nat) : Int) ≤ ((i : Nat) : Int)) = false := decide_eq_false (by have := HG.out.1; omega)
        have hg2 : decide (q ≤ i) = false := decide_eq_false (by have := HG.out.1; omega)
        have hg3 : decide (dq ≤ bd) = false := decide_eq_false (by have := HG.out.2; omega)
        gi_wp2_with fail
        exact ⟨J4.out.rec_, J4.out.put (rr .ready none) N1.out N2.out⟩
  case restt =>
    rintro Wz ⟨hz1, hz2⟩
    have HBz := Lib.hid (HB16.out.trans ((HB20.out.trans (hz1.mono HB20.out.size)).mono HB16.out.size))
    have DFM := Lib.hid hz2
    obtain ⟨Dm, hDm⟩ : ∃ Dm, w20.heap.size = Dm := ⟨_, rfl⟩
    rw [hDm] at DFM ⊢
    have DGE := Lib.hid (show w.heap.size ≤ Dm by have := HB20.out.size; have := HB16.out.size; have := HB1.out.size; omega)
    clear hz1 hz2 hDm
    gi_wp2_with fail
    go_wp2_with fail
    refine ((HKN _).out).mono ?_
    rintro e wF ⟨rfl, hbF⟩
    have HBF := Lib.hid (HBz.out.trans (hbF.mono HBz.out.size))
    have K9 := Lib.hid ((hbF.block Dm (Array.getElem?_eq_some_iff.1 DFM.out).1).trans DFM.out)
    have n1 := Lib.hid (show Dm ≠ b + 1 by
      have h1 := K9.out
      intro e
      rw [e, show wF.heap[b + 1]? = _ from KR.out wF HBF.out] at h1
      cases h1)
    have cr := (KR.out wF HBF.out).cell
    have cf := (KR.out wF HBF.out).frozen
    clear hbF
    go_wp2_with fail
    have ha1 := Boxed.set (.bool true) (KR.out wF HBF.out)
    have ha2 := (HB1.out.trans (HBF.out.mono HB1.out.size)).setCell (p := ⟨b + 1, 0, none⟩) (by show w.heap.size ≤ b + 1; have := EB.out; omega) (.bool true)
    have k1 := (Below.heap_setCell wF ⟨b + 1, 0, none⟩ (.bool true) Dm n1.out).trans K9.out
    obtain ⟨wX, hwX⟩ : ∃ wX, wF.setCell ⟨b + 1, 0, none⟩ (.bool true) = wX := ⟨_, rfl⟩
    rw [hwX] at ha1 ha2 k1 ⊢
    clear hwX cr cf
    have hb10 : Boxed (wX.putObj Dm (.deferred none)) (b + 1) 4 (.bool true) := (World.putObj_heap_other n1.out.symm).trans ha1
    have hbw2 := ha2.grown (grownBy_putObj' wX Dm (.deferred none)) ha2.size (fun k e => by cases e; exact DGE.out)
    refine ⟨by simp, .inl ⟨_, _, rfl, run_takeDeferred k1, ?_⟩⟩
    exact ⟨.bool true, by simp [results, Try.results8, go_sem, hb10.cell], rfl, hbw2⟩
end Go.Proofs.Ytbpkppmbbpoohaa
