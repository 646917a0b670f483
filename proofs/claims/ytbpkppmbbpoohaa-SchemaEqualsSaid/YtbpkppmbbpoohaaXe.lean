/- The walk of SchemaEquals. Conditions: the messages of both definitions lie in memory, their texts within the reach. -/
import Derived.Test.YtbpkppmbbpoohaaEy
import Derived.Test.YtbpkppmbbpoohaaXf
import Derived.Test.YtbpkppmbbpoohaaKb
import Derived.Test.YtbpkppmbbpoohaaRp
import Derived.Deep.CutRange
namespace Go.Proofs.Ytbpkppmbbpoohaa
open Go.RowKit Go.Shelf

theorem below_al {n : Nat} {w cur : World} (h : Below n w cur) (hn : n ≤ cur.heap.size) (o : Obj) : Below n w (cur.alloc o) := h.alloc hn o

/-- A copy of a definition, made. -/
def CopR (na st : List UInt8) (D : List MsgD) (w : World) (v : Value) (w' : World) : Prop := ∃ A' D', v = .agg #[.string (strL na), .slice A' D.length D.length, .string (strL st)] ∧ CopD w.heap.size w' D A' D' ∧ Below w.heap.size w w'
def zeroD : Obj := .cells #[.string ⟨#[]⟩, .slice none 0 0, .string ⟨#[]⟩] 44 (0, 0)
def obD : Value → Obj
  | .agg cs => .cells cs 44 (0, 0)
  | _ => zeroD

theorem store3 {w : World} {g : Nat} {na st : ByteArray} {x : Value} (hz : w.heap[g]? = some zeroD) : ∃ w', w' = ((w.setCell ⟨g, 0, none⟩ (.string na)).setCell ⟨g, 1, none⟩ x).setCell ⟨g, 2, none⟩ (.string st) ∧ Rest (fun k => k = g) w w' ∧ w'.heap[g]? = some (obD (.agg #[.string na, x, .string st])) := by
  unfold zeroD at hz
  have h3 := heap_setCell_same _ g 2 _ 44 (.string st) (heap_setCell_same _ g 1 _ 44 x (heap_setCell_same w g 0 _ 44 (.string na) hz))
  simp only [List.setIfInBounds_toArray, List.set_cons_zero, List.set_cons_succ] at h3
  exact ⟨_, rfl, ((((Rest.refl (fun k => k = g) w).setCell (S := fun k => k = g) (p := ⟨g, 0, none⟩) (fun _ => rfl) _).setCell (S := fun k => k = g) (p := ⟨g, 1, none⟩) (fun _ => rfl) _).setCell (S := fun k => k = g) (p := ⟨g, 2, none⟩) (fun _ => rfl) _), h3⟩

set_option maxRecDepth 100000 in
set_option maxHeartbeats 12800000 in
theorem equalsLaw_walk (na st na2 st2 : List UInt8) (A A2 : Option Addr) (c c2 : Nat) (D D2 : List MsgD) (S : Nat → Prop) (w : World) (hD : MsgsAt S w A c D) (hD2 : MsgsAt S w A2 c2 D2) (hz : HSZ D) (hz2 : HSZ D2) (hs : ∀ m ∈ D, ∀ d ∈ m.fields, ∀ c ∈ d.cases, c.of_.length ≤ 140737488355328) :
    Calls Try.prog 7 #[.agg #[.string (strL na), .slice A D.length c, .string (strL st)], .agg #[.string (strL na2), .slice A2 D2.length c2, .string (strL st2)]] w fun e w' => e = .returned (.bool true) ∧ Below w.heap.size w w' := by
  obtain ⟨wa, hwa⟩ : ∃ wa, w.alloc (.cells #[.string (strL na), .slice A D.length c, .string (strL st)] 44) = wa := ⟨_, rfl⟩
  obtain ⟨w1, hw1⟩ : ∃ w1, wa.alloc (.cells #[.string (strL na2), .slice A2 D2.length c2, .string (strL st2)] 44) = w1 := ⟨_, rfl⟩
  have hw : (w.alloc (.cells #[.string (strL na), .slice A D.length c, .string (strL st)] 44)).alloc (.cells #[.string (strL na2), .slice A2 D2.length c2, .string (strL st2)] 44) = w1 := by rw [hwa, hw1]
  have ba : Below w.heap.size w wa := by rw [← hwa]; exact below_alloc _ _
  have b1 : Below wa.heap.size wa w1 := by rw [← hw1]; exact below_alloc _ _
  have sa : wa.heap.size = w.heap.size + 1 := by rw [← hwa]; simp
  have s1 : w1.heap.size = w.heap.size + 2 := by rw [← hw1]; simp; omega
  have hb1 : Below w.heap.size w w1 := ba.trans (b1.mono (by omega))
  have x1 : w1.heap[w.heap.size]? = some (.cells #[.string (strL na), .slice A D.length c, .string (strL st)] 44 (0, 0)) := (b1.block _ (by omega)).trans (by rw [← hwa]; exact heap_alloc_new w _)
  have y1 : w1.heap[w.heap.size + 1]? = some (.cells #[.string (strL na2), .slice A2 D2.length c2, .string (strL st2)] 44 (0, 0)) := by rw [← hw1, ← sa]; exact heap_alloc_new wa _
  obtain ⟨b, eb⟩ : ∃ b, w.heap.size = b := ⟨_, rfl⟩
  rw [eb] at x1 y1 s1
  have KD : Hid (∀ wx, Below w1.heap.size w1 wx → (wx.cell? ⟨b, 0, none⟩ = some (.string (strL na)) ∧ wx.cell? ⟨b, 1, none⟩ = some (.slice A D.length c) ∧ wx.cell? ⟨b, 2, none⟩ = some (.string (strL st))) ∧ (wx.cell? ⟨b + 1, 0, none⟩ = some (.string (strL na2)) ∧ wx.cell? ⟨b + 1, 1, none⟩ = some (.slice A2 D2.length c2) ∧ wx.cell? ⟨b + 1, 2, none⟩ = some (.string (strL st2)))) := Lib.hid (fun wx hb => by
    have h1 := (hb.block b (Array.getElem?_eq_some_iff.1 x1).1).trans x1
    have h2 := (hb.block (b + 1) (Array.getElem?_eq_some_iff.1 y1).1).trans y1
    exact ⟨⟨by simp [World.cell?, h1], by simp [World.cell?, h1], by simp [World.cell?, h1]⟩, by simp [World.cell?, h2], by simp [World.cell?, h2], by simp [World.cell?, h2]⟩)
  have HW := Lib.hid hw
  have EB := Lib.hid eb
  have HB1 := Lib.hid hb1
  have S1 := Lib.hid s1
  have K1 : Hid (∀ wx, Below w1.heap.size w1 wx → MsgsAt S wx A c D) := Lib.hid (fun wx hb => MsgsAt.rest hD (Rest.below (S := fun _ => False) (hb1.trans (hb.mono hb1.size))) (fun _ _ e => e.elim))
  have K2 : Hid (∀ wx, Below w1.heap.size w1 wx → MsgsAt S wx A2 c2 D2) := Lib.hid (fun wx hb => MsgsAt.rest hD2 (Rest.below (S := fun _ => False) (hb1.trans (hb.mono hb1.size))) (fun _ _ e => e.elim))
  have HD := Lib.hid hD
  have HKN : ∀ wx, Hid (Calls Try.prog 9 #[] wx fun e w' => e = .returned (.bool true) ∧ Below wx.heap.size wx w') := fun wx => Lib.hid (known_any wx)
  have HZ := Lib.hid (And.intro hz hz2)
  have HS := Lib.hid hs
  obtain ⟨⟨p0, p1, p2⟩, q0, q1, q2⟩ := KD.out w1 (Below.refl _ _)
  have HF1 := Lib.hid (fits_any na st A c D S w1 (K1.out w1 (Below.refl _ _)))
  have HF2 : Hid (∀ wx, Below w1.heap.size w1 wx → Calls Try.prog 18 #[.agg #[.string (strL na2), .slice A2 D2.length c2, .string (strL st2)]] wx (FitsE D2 wx)) := Lib.hid (fun wx hb => fits_any na2 st2 A2 c2 D2 S wx (K2.out wx hb))
  clear hD hD2 hwa hw1 hw ba b1 sa s1 hb1 x1 y1 eb hz hz2 hs
  go_enter Try.func7, Try.ntmps7
  go_upto_region 1 with fail
  rw [HW.out, EB.out]
  go_wp2_with fail
  refine HF1.out.mono ?_
  rintro e w2 ⟨fb, rfl, hfit, hb2⟩
  have HB2 := Lib.hid hb2
  have HFT := Lib.hid hfit
  clear hfit hb2 p0 p1 p2 q0 q1 q2 HF1
  obtain ⟨⟨p0, p1, p2⟩, q0, q1, q2⟩ := KD.out w2 HB2.out
  cases fb with
  | false =>
    go_wp2_with fail
    refine ((HKN _).out).mono ?_
    rintro e w3 ⟨rfl, hb3⟩
    have HB3 := Lib.hid (HB1.out.trans ((HB2.out.trans (hb3.mono HB2.out.size)).mono HB1.out.size))
    clear hb3
    go_wp2_with fail
    go_ret
    exact ⟨rfl, HB3.out⟩
  | true =>
  go_wp2_with fail
  refine (HF2.out w2 HB2.out).mono ?_
  rintro e w3 ⟨fb, rfl, hfit2, hb3⟩
  have HB3 := Lib.hid (HB2.out.trans (hb3.mono HB2.out.size))
  have HFT2 := Lib.hid hfit2
  clear hfit2 hb3 p0 p1 p2 q0 q1 q2 HF2
  obtain ⟨⟨p0, p1, p2⟩, q0, q1, q2⟩ := KD.out w3 HB3.out
  cases fb with
  | false =>
    go_wp2_with fail
    refine ((HKN _).out).mono ?_
    rintro e w4 ⟨rfl, hb4⟩
    have HB4 := Lib.hid (HB1.out.trans ((HB3.out.trans (hb4.mono HB3.out.size)).mono HB1.out.size))
    clear hb4
    go_wp2_with fail
    go_ret
    exact ⟨rfl, HB4.out⟩
  | true =>
  have FIT := Lib.hid (HFT.out (by first | exact rfl | trivial) HZ.out.1)
  clear HFT HFT2
  go_wp2_with fail
  obtain ⟨RR, hRR⟩ : ∃ r, sameD na st na2 st2 D D2 = r := ⟨_, rfl⟩
  have HRR := Lib.hid hRR
  have HRE := Lib.hid (refEqual_any na st na2 st2 A A2 c c2 D D2 S w3 (K1.out w3 HB3.out) (K2.out w3 HB3.out))
  rw [hRR] at HRE
  clear hRR
  refine HRE.out.mono ?_
  rintro e w4 ⟨rfl, hb4⟩
  have HB4 := Lib.hid (HB3.out.trans (hb4.mono HB3.out.size))
  clear hb4 p0 p1 p2 q0 q1 q2 HRE
  have LT4 := Lib.hid (show b + 1 < w4.heap.size by have := S1.out; have := HB4.out.size; omega)
  have KS : Hid (∀ wx, Below w4.heap.size w4 wx → Below w4.heap.size w4 wx ∧ wx.cell? ⟨b, 0, none⟩ = some (.string (strL na)) ∧ wx.cell? ⟨b, 1, none⟩ = some (.slice A D.length c) ∧ wx.cell? ⟨b, 2, none⟩ = some (.string (strL st))) := Lib.hid (fun wx hb => ⟨hb, (KD.out wx (HB4.out.trans (hb.mono HB4.out.size))).1⟩)
  have KC : Hid (∀ wx, Below w4.heap.size w4 wx → Calls Try.prog 24 #[.agg #[.string (strL na), .slice A D.length c, .string (strL st)]] wx fun e w' => ∃ A' D', e = .returned (.agg #[.string (strL na), .slice A' D.length D.length, .string (strL st)]) ∧ CopD wx.heap.size w' D A' D' ∧ Below wx.heap.size wx w') := Lib.hid (fun wx hb => copyDef na st A c D S wx (K1.out wx (HB4.out.trans (hb.mono HB4.out.size))) (by have := FIT.out.1; omega) (fun m hm => ⟨by
      have h1 := FIT.out.2.1
      have h2 := sum_mem hm
      omega, fun d hd => ⟨by have := (FIT.out.2.2 m hm d hd).2; omega, by have := (FIT.out.2.2 m hm d hd).1; omega⟩⟩))
  obtain ⟨_, p0, p1, p2⟩ := KS.out w4 (Below.refl _ _)
  go_upto_region 4 with fail
  go_cut [6, 7] from 29 (fun x6 x7 wx => ∃ g6 g7 va vb wα wβ wγ wδ, x6 = .pointer (some ⟨g6, 0, none⟩) ∧ x7 = .pointer (some ⟨g7, 0, none⟩) ∧ PairE w4 (CopR na st D) wx (fun k => k = g6 ∨ k = g7) g6 g7 va vb wα wβ wγ wδ ∧ wx.heap[g6]? = some (obD va) ∧ wx.heap[g7]? = some (obD vb))
  case first =>
    refine pair_region ⟨25, 26, 27, 28, 6, 7⟩ (.agg #[.string (strL na), .slice A D.length c, .string (strL st)]) (.agg #[.string (strL na), .slice A D.length c, .string (strL st)]) (CopR na st D) zeroD obD 24 rfl (by kernel_rfl) (by unfold PairAt.apart; decide) (by simp) (by refine ⟨rfl, rfl, rfl, rfl, rfl, rfl, rfl, rfl⟩) (by refine ⟨rfl, rfl, rfl, rfl, rfl, rfl, rfl, rfl⟩) (topo (by kernel_rfl)) (by simp [Region.binds]) (by simp [Region.binds]) (by simp [Region.binds]) (by simp [Region.binds]) (by simp [Region.binds]) (by simp [Region.binds]) (by simp [Region.binds]) ?_ ?_ ?_ ?_ ?_ ?_ (fun w v w' h => by obtain ⟨_, _, _, _, hb⟩ := h; exact hb) ?_ ?_ ?_ ?_ ?_
    · intro a w hf hb
      have h2 : a.eval (.tmp 2) = .pointer (some ⟨b, 0, none⟩) := eval_at ((hf.low 2 (by unfold PairAt.has; decide)).trans rfl)
      obtain ⟨_, z0, z1, z2⟩ := KS.out w hb
      unfold execOp
      simp only
      rw [h2]
      simp [go_sem, z0, z1, z2]
    · intro a w hf hb
      have h2 : a.eval (.tmp 2) = .pointer (some ⟨b, 0, none⟩) := eval_at ((hf.low 2 (by unfold PairAt.has; decide)).trans rfl)
      obtain ⟨_, z0, z1, z2⟩ := KS.out w hb
      unfold execOp
      simp only
      rw [h2]
      simp [go_sem, z0, z1, z2]
    · intro a w h
      dsimp only at h
      unfold execOp
      simp [go_sem, resolve, h]
    · intro a w h
      dsimp only at h
      unfold execOp
      simp [go_sem, resolve, h]
    · intro w hb
      refine (KC.out w hb).mono ?_
      rintro e w' ⟨A', D', he, hc, hb'⟩
      exact ⟨_, he, A', D', rfl, hc, hb'⟩
    · intro w hb
      refine (KC.out w hb).mono ?_
      rintro e w' ⟨A', D', he, hc, hb'⟩
      exact ⟨_, he, A', D', rfl, hc, hb'⟩
    · intro a w
      unfold execOp
      simp [go_sem, zeroD]
    · intro a w
      unfold execOp
      simp [go_sem, zeroD]
    · rintro a w g v u u' h4 h1 hz ⟨A', D', rfl, _, _⟩
      have k4 := eval_at h4
      have k1 := eval_at h1
      dsimp only at k4 k1
      obtain ⟨w', hw', hr, ho⟩ := store3 (na := strL na) (st := strL st) (x := .slice A' D.length D.length) hz
      unfold zeroD at hz
      have z0 : w.cell? ⟨g, 0, none⟩ = some (.string ⟨#[]⟩) := by simp [World.cell?, hz]
      have z1 : w.cell? ⟨g, 1, none⟩ = some (.slice none 0 0) := by simp [World.cell?, hz]
      have z2 : w.cell? ⟨g, 2, none⟩ = some (.string ⟨#[]⟩) := by simp [World.cell?, hz]
      have fz : ∀ o, w.frozen? ⟨g, o, none⟩ = false := fun o => by simp [World.frozen?, hz]
      refine ⟨w', ?_, hr, ho⟩
      rw [hw']
      unfold execOp
      simp only
      rw [k4, k1]
      simp [go_sem, z0, z1, z2, fz]
    · rintro a w g v u u' h4 h1 hz ⟨A', D', rfl, _, _⟩
      have k4 := eval_at h4
      have k1 := eval_at h1
      dsimp only at k4 k1
      obtain ⟨w', hw', hr, ho⟩ := store3 (na := strL na) (st := strL st) (x := .slice A' D.length D.length) hz
      unfold zeroD at hz
      have z0 : w.cell? ⟨g, 0, none⟩ = some (.string ⟨#[]⟩) := by simp [World.cell?, hz]
      have z1 : w.cell? ⟨g, 1, none⟩ = some (.slice none 0 0) := by simp [World.cell?, hz]
      have z2 : w.cell? ⟨g, 2, none⟩ = some (.string ⟨#[]⟩) := by simp [World.cell?, hz]
      have fz : ∀ o, w.frozen? ⟨g, o, none⟩ = false := fun o => by simp [World.frozen?, hz]
      refine ⟨w', ?_, hr, ho⟩
      rw [hw']
      unfold execOp
      simp only
      rw [k4, k1]
      simp [go_sem, z0, z1, z2, fz]
    · intro a w g6 g7 va vb wα wβ wγ wδ hF hE h6 h7
      have he := hF.eq (by simp)
      subst he
      clear hF
      simp only [Act.put, List.setIfInBounds_toArray, List.set_cons_zero, List.set_cons_succ]
      have HE := Lib.hid hE
      have H6 := Lib.hid h6
      have H7 := Lib.hid h7
      clear hE h6 h7
      go_wp2_with fail
      go_meet
      case rel => exact ⟨g6, g7, va, vb, wα, wβ, wγ, wδ, rfl, rfl, HE.out, H6.out, H7.out⟩
  case rest =>
  obtain ⟨g6, g7, va, vb, wα, wβ, wγ, wδ, rfl, rfl, hE, h6, h7⟩ := hcut
  obtain ⟨w5, hw5⟩ : ∃ w5, wc = w5 := ⟨_, rfl⟩
  rw [hw5] at hE h6 h7 ⊢
  clear hw5
  obtain ⟨A1, D1, rfl, hc1, hb1⟩ := hE.r1
  obtain ⟨A3, D3, rfl, hc3, hb3⟩ := hE.r2
  have h6 : w5.heap[g6]? = some (.cells #[.string (strL na), .slice A1 D.length D.length, .string (strL st)] 44 (0, 0)) := h6
  have h7 : w5.heap[g7]? = some (.cells #[.string (strL na), .slice A3 D.length D.length, .string (strL st)] 44 (0, 0)) := h7
  have hrest1 : Rest (fun k => k = g6 ∨ k = g7) wβ w5 := ((Rest.below hE.b1).trans (Rest.below hb3) (fun _ _ e => e)).trans hE.b2 (fun _ _ e => e)
  have C5 := Lib.hid (hc1.rest hrest1 (fun k h1 h2 e => by have := hE.o16; have := hE.o17; omega))
  have O5 := Lib.hid (hc3.rest hE.b2 (fun k h1 h2 e => by have := hE.o26; have := hE.o27; omega))
  have LEN1 := Lib.hid hc1.len
  have LEN3 := Lib.hid hc3.len
  have hb45 : Below w4.heap.size w4 w5 := ((((hE.b0.trans (hb1.mono hE.b0.size)).trans (hE.b1.mono (by have := hE.b0.size; have := hb1.size; omega))).trans (hb3.mono (by have := hE.b0.size; have := hb1.size; have := hE.b1.size; omega))).trans (hE.b2.toBelow w4.heap.size (by have := hE.b0.size; have := hb1.size; have := hE.b1.size; have := hb3.size; omega) (fun k hk e => by have := hE.ge6; have := hE.ge7; omega)))
  obtain ⟨lo, elo⟩ : ∃ lo, wα.heap.size = lo := ⟨_, rfl⟩
  obtain ⟨hi, ehi⟩ : ∃ hi, wβ.heap.size = hi := ⟨_, rfl⟩
  obtain ⟨lo3, elo3⟩ : ∃ lo, wγ.heap.size = lo := ⟨_, rfl⟩
  have ORD := Lib.hid (show w4.heap.size ≤ lo ∧ lo ≤ hi ∧ hi ≤ lo3 ∧ lo3 ≤ w5.heap.size ∧ (g6 < lo ∨ hi ≤ g6) ∧ (g7 < lo ∨ hi ≤ g7) by
    have := hE.b0.size; have := hb1.size; have := hE.b1.size; have := hb3.size; have := hE.b2.size; have := hE.o16; have := hE.o17
    refine ⟨by omega, by omega, by omega, by omega, by omega, by omega⟩)
  have SH5 : Hid (CShp (tyOf wβ) lo hi 140737488355328 w5 A1 D1) := Lib.hid (by
    have h0 := CShp.of_cop hc1 (Nat.le_refl _) HS.out
    rw [elo, ehi] at h0
    exact h0.rest hrest1 (fun k h1 h2 e => by have := hE.o16; have := hE.o17; omega))
  rw [elo] at C5
  rw [elo3] at O5
  have HB5 := Lib.hid (HB4.out.trans (hb45.mono HB4.out.size))
  have HB45 := Lib.hid hb45
  have H6 := Lib.hid h6
  have H7 := Lib.hid h7
  have KG : Hid (∀ S' wx, Rest S' w5 wx → ¬ S' g6 → ¬ S' g7 → (wx.cell? ⟨g6, 0, none⟩ = some (.string (strL na)) ∧ wx.cell? ⟨g6, 1, none⟩ = some (.slice A1 D.length D.length) ∧ wx.cell? ⟨g6, 2, none⟩ = some (.string (strL st))) ∧ (wx.cell? ⟨g7, 0, none⟩ = some (.string (strL na)) ∧ wx.cell? ⟨g7, 1, none⟩ = some (.slice A3 D.length D.length) ∧ wx.cell? ⟨g7, 2, none⟩ = some (.string (strL st)))) := Lib.hid (fun S' wx hr n6 n7 => by
    have h1 := (hr.block g6 (Array.getElem?_eq_some_iff.1 h6).1 n6).trans h6
    have h2 := (hr.block g7 (Array.getElem?_eq_some_iff.1 h7).1 n7).trans h7
    exact ⟨⟨by simp [World.cell?, h1], by simp [World.cell?, h1], by simp [World.cell?, h1]⟩, by simp [World.cell?, h2], by simp [World.cell?, h2], by simp [World.cell?, h2]⟩)
  -- the four comparisons
  have KA : Hid (∀ wx, Below w5.heap.size w5 wx → MsgsAt (fun _ => False) wx A c D ∧ MsgsAt (fun _ => False) wx A2 c2 D2 ∧ MsgsAt (fun _ => False) wx A1 D.length D1) := Lib.hid (fun wx hb => ⟨msgs_free (K1.out wx (HB5.out.trans (hb.mono HB5.out.size))), msgs_free (K2.out wx (HB5.out.trans (hb.mono HB5.out.size))), msgs_free (C5.out.below hb).ok⟩)
  have HE1 : Hid (∀ wx, Below w5.heap.size w5 wx → Calls Try.prog 33 #[.agg #[.string (strL na), .slice A D.length c, .string (strL st)], .agg #[.string (strL na2), .slice A2 D2.length c2, .string (strL st2)]] wx fun x w' => x = .returned (.bool RR) ∧ Below wx.heap.size wx w') := Lib.hid (fun wx hb => by rw [← HRR.out]; exact equal_any na st na2 st2 A A2 c c2 D D2 _ wx (KA.out wx hb).1 (KA.out wx hb).2.1)
  have HE2 : Hid (∀ wx, Below w5.heap.size w5 wx → Calls Try.prog 33 #[.agg #[.string (strL na2), .slice A2 D2.length c2, .string (strL st2)], .agg #[.string (strL na), .slice A D.length c, .string (strL st)]] wx fun x w' => x = .returned (.bool RR) ∧ Below wx.heap.size wx w') := Lib.hid (fun wx hb => by rw [← HRR.out, sameD_symm]; exact equal_any na2 st2 na st A2 A c2 c D2 D _ wx (KA.out wx hb).2.1 (KA.out wx hb).1)
  have HE3 : Hid (∀ wx, Below w5.heap.size w5 wx → Calls Try.prog 33 #[.agg #[.string (strL na), .slice A D.length c, .string (strL st)], .agg #[.string (strL na), .slice A1 D.length D.length, .string (strL st)]] wx fun x w' => x = .returned (.bool true) ∧ Below wx.heap.size wx w') := Lib.hid (fun wx hb => by
    have h := equal_any na st na st A A1 c D.length D D1 _ wx (KA.out wx hb).1 (KA.out wx hb).2.2
    rw [copD_same C5.out, LEN1.out] at h
    exact h)
  have HE4 : Hid (∀ wx, Below w5.heap.size w5 wx → Calls Try.prog 32 #[.agg #[.string (strL na), .slice A D.length c, .string (strL st)], .agg #[.string (strL na), .slice A1 D.length D.length, .string (strL st)]] wx fun x w' => x = .returned (.bool true) ∧ Below wx.heap.size wx w') := Lib.hid (fun wx hb => by
    have h := refEqual_any na st na st A A1 c D.length D D1 _ wx (KA.out wx hb).1 (KA.out wx hb).2.2
    rw [copD_same C5.out, LEN1.out] at h
    exact h)
  clear hE h6 h7 hc1 hb1 hc3 hb3 hrest1 hb45 elo ehi elo3 p0 p1 p2
  have KL : Hid (∀ wx, Below w5.heap.size w5 wx → ((wx.cell? ⟨b, 0, none⟩ = some (.string (strL na)) ∧ wx.cell? ⟨b, 1, none⟩ = some (.slice A D.length c) ∧ wx.cell? ⟨b, 2, none⟩ = some (.string (strL st))) ∧ (wx.cell? ⟨b + 1, 0, none⟩ = some (.string (strL na2)) ∧ wx.cell? ⟨b + 1, 1, none⟩ = some (.slice A2 D2.length c2) ∧ wx.cell? ⟨b + 1, 2, none⟩ = some (.string (strL st2)))) ∧ (wx.cell? ⟨g6, 0, none⟩ = some (.string (strL na)) ∧ wx.cell? ⟨g6, 1, none⟩ = some (.slice A1 D.length D.length) ∧ wx.cell? ⟨g6, 2, none⟩ = some (.string (strL st)))) := Lib.hid (fun wx hb => ⟨KD.out wx (HB5.out.trans (hb.mono HB5.out.size)), (KG.out (fun _ => False) wx (Rest.below hb) (fun x => x) (fun x => x)).1⟩)
  obtain ⟨⟨⟨p0, p1, p2⟩, q0, q1, q2⟩, u0, u1, u2⟩ := KL.out w5 (Below.refl _ _)
  go_wp2_with fail
  refine (HE1.out w5 (Below.refl _ _)).mono ?_
  rintro e w6 ⟨rfl, hb6⟩
  have HB6 := Lib.hid hb6
  clear hb6 p0 p1 p2 q0 q1 q2 u0 u1 u2
  obtain ⟨⟨⟨p0, p1, p2⟩, q0, q1, q2⟩, u0, u1, u2⟩ := KL.out w6 HB6.out
  have hne : (RR != RR) = false := by cases RR <;> rfl
  go_wp2_with fail
  refine (HE2.out w6 HB6.out).mono ?_
  rintro e w7 ⟨rfl, hb7⟩
  have HB7 := Lib.hid (HB6.out.trans (hb7.mono HB6.out.size))
  clear hb7 p0 p1 p2 q0 q1 q2 u0 u1 u2
  obtain ⟨⟨⟨p0, p1, p2⟩, q0, q1, q2⟩, u0, u1, u2⟩ := KL.out w7 HB7.out
  go_wp2_with fail
  refine (HE3.out w7 HB7.out).mono ?_
  rintro e w8 ⟨rfl, hb8⟩
  have HB8 := Lib.hid (HB7.out.trans (hb8.mono HB7.out.size))
  clear hb8 p0 p1 p2 q0 q1 q2 u0 u1 u2
  obtain ⟨⟨⟨p0, p1, p2⟩, q0, q1, q2⟩, u0, u1, u2⟩ := KL.out w8 HB8.out
  go_wp2_with fail
  refine (HE4.out w8 HB8.out).mono ?_
  rintro e w9 ⟨rfl, hb9⟩
  have HB9 := Lib.hid (HB8.out.trans (hb9.mono HB8.out.size))
  clear hb9 p0 p1 p2 q0 q1 q2 u0 u1 u2
  obtain ⟨⟨⟨p0, p1, p2⟩, q0, q1, q2⟩, u0, u1, u2⟩ := KL.out w9 HB9.out
  obtain ⟨τ, hτ⟩ : ∃ τ, tyOf wβ = τ := ⟨_, rfl⟩
  rw [hτ] at SH5
  have SH9 := Lib.hid (SH5.out.later HB9.out)
  have FEW := Lib.hid (copD_few C5.out FIT.out)
  have DL := Lib.hid (show D.length ≤ 9223372036854775807 by have := FIT.out.1; omega)
  have S59 := Lib.hid HB9.out.size
  have NG6 : Hid (¬ (lo ≤ g6 ∧ g6 < hi)) := Lib.hid (by have := ORD.out; omega)
  have NG7 : Hid (¬ (lo ≤ g7 ∧ g7 < hi)) := Lib.hid (by have := ORD.out; omega)
  have KU : Hid (∀ wx, Rest (fun k => lo ≤ k ∧ k < hi) w9 wx → wx.cell? ⟨g6, 1, none⟩ = some (.slice A1 D.length D.length)) := Lib.hid (fun wx hr => (KG.out _ wx ((Rest.below HB9.out).trans hr (fun _ _ e => e)) NG6.out NG7.out).1.2.1)
  clear hτ p0 p1 p2 q0 q1 q2 u0 u1 u2 hne SH5 HE1 HE2 HE3 HE4 KA KL HRR
  go_upto_region 8 with fail
  go_loopw [8] (fun x8 wr => ∃ i : Nat, i ≤ D.length ∧ x8 = .int .i64 ((i : Nat) : Int) ∧ Rest (fun k => lo ≤ k ∧ k < hi) w9 wr ∧ CShp τ lo hi (140737488355328 + i * 20000) wr A1 D1) (fun x8 _ => D.length - (intOf x8).toNat)
  case atStart => exact ⟨0, Nat.zero_le _, rfl, Rest.refl _ _, SH9.out⟩
  case round =>
    obtain ⟨i, hi2, rfl, hr, hsh⟩ := hrel
    have HR := Lib.hid hr
    have HSH := Lib.hid hsh
    clear hr hsh
    have u1 := KU.out wr HR.out
    have hdl := DL.out
    by_cases hlt : i < D.length
    case neg =>
      obtain rfl : i = D.length := by omega
      have HBr : Hid (Below w4.heap.size w4 wr) := Lib.hid ((HB45.out.trans ((Below.mono HB9.out HB45.out.size).trans (HR.out.toBelow w4.heap.size (by have := HB45.out.size; have := S59.out; omega) (fun k hk e => by have := ORD.out; omega)))))
      have HB1r := Lib.hid (HB4.out.trans (HBr.out.mono HB4.out.size))
      have HE5 : Hid (Calls Try.prog 32 #[.agg #[.string (strL na), .slice A D.length c, .string (strL st)], .agg #[.string (strL na), .slice A3 D.length D.length, .string (strL st)]] wr fun x w' => x = .returned (.bool true) ∧ Below wr.heap.size wr w') := Lib.hid (by
        have ho := O5.out.rest ((Rest.below HB9.out).trans HR.out (fun _ _ e => e)) (fun k h1 h2 e => by have := ORD.out; omega)
        have h := refEqual_any na st na st A A3 c D.length D D3 _ wr (msgs_free (K1.out wr HB1r.out)) (msgs_free ho.ok)
        rw [copD_same ho, LEN3.out] at h
        exact h)
      obtain ⟨_, p0, p1, p2⟩ := KS.out wr HBr.out
      obtain ⟨q0, q1, q2⟩ := (KG.out _ wr ((Rest.below HB9.out).trans HR.out (fun _ _ e => e)) NG6.out NG7.out).2
      obtain ⟨wz, hwz⟩ : ∃ wz : World, wz = wr := ⟨_, rfl⟩
      rw [← hwz] at HBr HB1r HE5 p0 p1 p2 q0 q1 q2 u1 ⊢
      clear hwz
      go_wp2_with fail
      refine HE5.out.mono ?_
      rintro e w10 ⟨rfl, hb10⟩
      have HB10 := Lib.hid (HB1.out.trans ((HB1r.out.trans (hb10.mono HB1r.out.size)).mono HB1.out.size))
      clear hb10 p0 p1 p2 q0 q1 q2 u1
      go_wp2_with fail
      refine ((HKN _).out).mono ?_
      rintro e w11 ⟨rfl, hb11⟩
      have HB11 := Lib.hid (HB10.out.trans (hb11.mono HB10.out.size))
      clear hb11
      go_wp2_with fail
      go_ret
      exact ⟨rfl, HB11.out⟩
    case pos =>
    obtain ⟨m, hm⟩ : ∃ m, D1[i]? = some m := ⟨_, List.getElem?_eq_getElem (by rw [LEN1.out]; exact hlt)⟩
    have HM := Lib.hid hm
    have HFM := Lib.hid (FEW.out.2 m (List.mem_of_getElem? hm))
    obtain ⟨g, hA, hgl, hgt, _, _, h1, _⟩ := HSH.out i m hm
    have EA := Lib.hid hA
    have GL := Lib.hid hgl
    have GT := Lib.hid hgt
    have KV : Hid (∀ wx, Rest (fun k => lo ≤ k ∧ k < hi) w9 wx → wx.cell? ⟨g6, 1, none⟩ = some (.slice (some ⟨g, 0, none⟩) D.length D.length)) := Lib.hid (fun wx hr => by rw [← EA.out]; exact KU.out wx hr)
    have KF : Hid (∀ B wx, CShp τ lo hi B wx A1 D1 → (∀ o, wx.frozen? ⟨g, o, none⟩ = false) ∧ (∃ v, wx.cell? ⟨g, i * 2, none⟩ = some v) ∧ wx.cell? ⟨g, i * 2 + 1, none⟩ = some (.slice m.fa m.fields.length m.fc) ∧ FShp τ lo hi B wx m.fa m.fields) := Lib.hid (fun B wx h => by
      obtain ⟨g', hA', _, _, h3, h4, h5, h6⟩ := h i m HM.out
      rw [EA.out] at hA'
      simp only [Option.some.injEq, Addr.mk.injEq, and_true] at hA'
      subst hA'
      exact ⟨h3, h4, h5, h6⟩)
    have i0 : (0 : Int) ≤ ((i : Nat) : Int) := by omega
    have i1 : ((i : Nat) : Int) < ((D.length : Nat) : Int) := by omega
    have hml : m.fields.length ≤ 9223372036854775807 := by have := HFM.out.1; omega
    have HI := Lib.hid hlt
    clear hm hA hgl hgt h1 u1 hlt
    have u1 := KV.out wr HR.out
    go_upto_region 11 with fail
    clear u1
    go_loopw [9] (fun x9 wy => ∃ k : Nat, k ≤ m.fields.length ∧ x9 = .int .i64 ((k : Nat) : Int) ∧ Rest (fun k => lo ≤ k ∧ k < hi) w9 wy ∧ CShp τ lo hi (140737488355328 + i * 20000 + k * 50) wy A1 D1) (fun x9 _ => m.fields.length - (intOf x9).toNat)
    case atStart => exact ⟨0, Nat.zero_le _, rfl, HR.out, HSH.out⟩
    case round =>
      obtain ⟨k, hk2, rfl, hr, hsh⟩ := hrel
      have HR2 := Lib.hid hr
      have HS2 := Lib.hid hsh
      clear hr hsh HR HSH
      have u1 := KV.out wr HR2.out
      obtain ⟨hf, ⟨vq, h0⟩, h1, hF⟩ := KF.out _ wr HS2.out
      by_cases hlt : k < m.fields.length
      case neg =>
        obtain rfl : k = m.fields.length := by omega
        have hfz := hf (i * 2)
        have hb2 : 140737488355328 + i * 20000 + m.fields.length * 50 ≤ 140737488355328 + (i + 1) * 20000 := by have := HFM.out.1; omega
        have hs3 := Lib.hid (HS2.out.set (B' := 140737488355328 + (i + 1) * 20000) (q := g) (off := i * 2) (v := .string ⟨#[63]⟩) (.inr (.inr (.inr ⟨GT.out, i, rfl⟩))) hb2)
        have hr3 := Lib.hid (HR2.out.setCell (p := ⟨g, i * 2, none⟩) (fun _ => GL.out) (.string ⟨#[63]⟩))
        clear hF hf hb2
        go_wp2_with fail
        go_roundw
        case rel => exact ⟨i + 1, by have := HI.out; omega, by go_num, hr3.out, hs3.out⟩
        case measure => have := HI.out; simp [intOf]; omega
      case pos =>
      obtain ⟨d, hd⟩ : ∃ d, m.fields[k]? = some d := ⟨_, List.getElem?_eq_getElem hlt⟩
      have HDD := Lib.hid hd
      have HOD := Lib.hid (HFM.out.2 d (List.mem_of_getElem? hd))
      obtain ⟨gf, hA, hgl, hgt, _, ⟨vn, x0⟩, hc, _, _⟩ := hF k d hd
      have EF := Lib.hid hA
      have GFL := Lib.hid hgl
      have GFT := Lib.hid hgt
      have KFF : Hid (∀ B wx, CShp τ lo hi B wx A1 D1 → wx.cell? ⟨g, i * 2 + 1, none⟩ = some (.slice (some ⟨gf, 0, none⟩) m.fields.length m.fc) ∧ (∀ o, wx.frozen? ⟨gf, o, none⟩ = false) ∧ (∃ s : ByteArray, wx.cell? ⟨gf, k * 15, none⟩ = some (.string s)) ∧
          (∀ (n : Nat) (t : TermD), d.terms[n]? = some t → ∃ g2, d.ta = some ⟨g2, 0, none⟩ ∧ (lo ≤ g2 ∧ g2 < hi) ∧ τ g2 = 76 ∧ PutI wx ⟨g2, n * 2 + 1, none⟩) ∧
          (∀ (n : Nat) (c : CaseD), d.cases[n]? = some c → ∃ g2, d.ca = some ⟨g2, 0, none⟩ ∧ (lo ≤ g2 ∧ g2 < hi) ∧ τ g2 = 62 ∧ PutS B wx ⟨g2, n * 3 + 2, none⟩)) := Lib.hid (fun B wx h => by
        obtain ⟨_, _, h5, h6⟩ := KF.out B wx h
        obtain ⟨g', hA', _, _, a1, a2, _, a3, a4⟩ := h6 k d HDD.out
        rw [EF.out] at hA' h5
        simp only [Option.some.injEq, Addr.mk.injEq, and_true] at hA'
        subst hA'
        exact ⟨h5, a1, a2, a3, a4⟩)
      rw [hA] at h1
      have k0 : (0 : Int) ≤ ((k : Nat) : Int) := by omega
      have k1 : ((k : Nat) : Int) < ((m.fields.length : Nat) : Int) := by omega
      have x1 : wr.cell? ⟨gf, k * 15 + 1, none⟩ = some (.int .i64 d.kind) := hc 1 _ (by decide) rfl
      have x2 : wr.cell? ⟨gf, k * 15 + 2, none⟩ = some (.int .i64 d.bits) := hc 2 _ (by decide) rfl
      have x3 : wr.cell? ⟨gf, k * 15 + 3, none⟩ = some (.bool d.little) := hc 3 _ (by decide) rfl
      have x4 : wr.cell? ⟨gf, k * 15 + 4, none⟩ = some (.bool d.loose) := hc 4 _ (by decide) rfl
      have x5 : wr.cell? ⟨gf, k * 15 + 5, none⟩ = some (.int .i64 d.low) := hc 5 _ (by decide) rfl
      have x6 : wr.cell? ⟨gf, k * 15 + 6, none⟩ = some (.int .i64 d.high) := hc 6 _ (by decide) rfl
      have x7 : wr.cell? ⟨gf, k * 15 + 7, none⟩ = some (.int .i64 d.base) := hc 7 _ (by decide) rfl
      have x8 : wr.cell? ⟨gf, k * 15 + 8, none⟩ = some (.slice d.ta d.terms.length d.tc) := hc 8 _ (by decide) rfl
      have x9 : wr.cell? ⟨gf, k * 15 + 9, none⟩ = some (.string (strL d.of_)) := hc 9 _ (by decide) rfl
      have x10 : wr.cell? ⟨gf, k * 15 + 10, none⟩ = some (.string (strL d.tag)) := hc 10 _ (by decide) rfl
      have x11 : wr.cell? ⟨gf, k * 15 + 11, none⟩ = some (.string (strL d.from_)) := hc 11 _ (by decide) rfl
      have x12 : wr.cell? ⟨gf, k * 15 + 12, none⟩ = some (.slice d.ca d.cases.length d.cc) := hc 12 _ (by decide) rfl
      have x13 : wr.cell? ⟨gf, k * 15 + 13, none⟩ = some (.int .i64 d.check) := hc 13 _ (by decide) rfl
      have x14 : wr.cell? ⟨gf, k * 15 + 14, none⟩ = some (.int .i64 d.key) := hc 14 _ (by decide) rfl
      have HK := Lib.hid hlt
      clear hd hA hgl hgt hc hF hf h0 hlt
      have hal := below_alloc wr (.cells #[.string vn, .int .i64 d.kind, .int .i64 d.bits, .bool d.little, .bool d.loose, .int .i64 d.low, .int .i64 d.high, .int .i64 d.base, .slice d.ta d.terms.length d.tc, .string (strL d.of_), .string (strL d.tag), .string (strL d.from_), .slice d.ca d.cases.length d.cc, .int .i64 d.check, .int .i64 d.key] 28)
      have hbx := heap_alloc_new wr (.cells #[.string vn, .int .i64 d.kind, .int .i64 d.bits, .bool d.little, .bool d.loose, .int .i64 d.low, .int .i64 d.high, .int .i64 d.base, .slice d.ta d.terms.length d.tc, .string (strL d.of_), .string (strL d.tag), .string (strL d.from_), .slice d.ca d.cases.length d.cc, .int .i64 d.check, .int .i64 d.key] 28)
      obtain ⟨fb, efb⟩ : ∃ fb, wr.heap.size = fb := ⟨_, rfl⟩
      obtain ⟨w10, hw10⟩ : ∃ w', wr.alloc (.cells #[.string vn, .int .i64 d.kind, .int .i64 d.bits, .bool d.little, .bool d.loose, .int .i64 d.low, .int .i64 d.high, .int .i64 d.base, .slice d.ta d.terms.length d.tc, .string (strL d.of_), .string (strL d.tag), .string (strL d.from_), .slice d.ca d.cases.length d.cc, .int .i64 d.check, .int .i64 d.key] 28) = w' := ⟨_, rfl⟩
      rw [hw10] at hal hbx
      rw [efb] at hbx
      have W10 := Lib.hid hw10
      have EFB := Lib.hid efb
      have FB := Lib.hid hbx
      have R10 := Lib.hid (HR2.out.trans (Rest.below (S := fun k => lo ≤ k ∧ k < hi) hal) (fun _ _ e => e))
      have S10 := Lib.hid (HS2.out.later hal)
      have NFB : Hid (¬ (lo ≤ fb ∧ fb < hi)) := Lib.hid (by have := ORD.out; have := HR2.out.size; have := S59.out; omega)
      have KB2 : Hid (∀ wx, Rest (fun k => lo ≤ k ∧ k < hi) w10 wx → wx.cell? ⟨fb, 8, none⟩ = some (.slice d.ta d.terms.length d.tc) ∧ wx.cell? ⟨fb, 12, none⟩ = some (.slice d.ca d.cases.length d.cc)) := Lib.hid (fun wx hr => by
        have h := (hr.block fb (Array.getElem?_eq_some_iff.1 FB.out).1 NFB.out).trans FB.out
        exact ⟨by simp [World.cell?, h], by simp [World.cell?, h]⟩)
      clear hal hbx hw10 efb HR2 HS2
      go_upto_region 14 with fail
      rw [W10.out, EFB.out]
      clear u1 h1 x0 x1 x2 x3 x4 x5 x6 x7 x8 x9 x10 x11 x12 x13 x14
      have hcl := HOD.out.1
      have htl := HOD.out.2
      obtain ⟨B0, hB0⟩ : ∃ B0, 140737488355328 + i * 20000 + k * 50 = B0 := ⟨_, rfl⟩
      have hB0l : B0 ≤ 140737500000000 := by have := FEW.out.1; have := HI.out; have := HFM.out.1; have := HK.out; have := LEN1.out; omega
      rw [hB0] at S10
      have HB0 := Lib.hid hB0
      have HBL := Lib.hid hB0l
      clear hB0 hB0l
      go_wp2_with fail
      go_loopw [11] (fun x11 wy => ∃ n : Nat, n ≤ d.cases.length ∧ x11 = .int .i64 ((n : Nat) : Int) ∧ Rest (fun k => lo ≤ k ∧ k < hi) w10 wy ∧ CShp τ lo hi (B0 + n) wy A1 D1) (fun x11 _ => d.cases.length - (intOf x11).toNat)
      case atStart => exact ⟨0, Nat.zero_le _, rfl, Rest.refl _ _, S10.out⟩
      case round =>
        obtain ⟨n, hn2, rfl, hr, hsh⟩ := hrel
        have HR3 := Lib.hid hr
        have HS3 := Lib.hid hsh
        clear hr hsh S10
        have b12 := (KB2.out wr HR3.out).2
        by_cases hlt : n < d.cases.length
        case pos =>
          obtain ⟨cc, hcc⟩ : ∃ cc, d.cases[n]? = some cc := ⟨_, List.getElem?_eq_getElem hlt⟩
          obtain ⟨_, _, _, _, hC⟩ := KFF.out _ wr HS3.out
          obtain ⟨g2, eca, gl, gt, hp⟩ := hC n cc hcc
          rw [eca] at b12
          have pf := hp.fr
          obtain ⟨sv, pc, psz⟩ := hp.ex
          have hn0 : (0 : Int) ≤ ((n : Nat) : Int) := by omega
          have hn1 : ((n : Nat) : Int) < ((d.cases.length : Nat) : Int) := by omega
          have hlen : (9223372036854775807 < sv.size + 1) = False := by have := HBL.out; simp; omega
          clear hC hcc eca hp
          go_upto_region 17 with fail
          have HR4 := Lib.hid ((HR3.out.setCell (p := ⟨g2, n * 3 + 2, none⟩) (fun _ => gl) (.string (sv ++ ⟨#[120]⟩))).drew)
          have HS4 := Lib.hid ((HS3.out.set (B' := B0 + (n + 1)) (q := g2) (off := n * 3 + 2) (v := .string (sv ++ ⟨#[120]⟩)) (.inl ⟨gt, ⟨n, rfl⟩, _, rfl, by
            rw [ByteArray.size_append]
            have : (ByteArray.mk #[120]).size = 1 := rfl
            omega⟩) (by omega)).later (W' := (wr.setCell ⟨g2, n * 3 + 2, none⟩ (.string (sv ++ ⟨#[120]⟩))).drew) ⟨rfl, rfl, rfl, Nat.le_refl _, fun _ _ => rfl⟩)
          clear gl gt psz
          go_region
          clear b12 pf pc hlen
          go_wp2_with fail
          go_roundw
          case rel => exact ⟨n + 1, by omega, by go_num, HR4.out, HS4.out⟩
          case measure => simp [intOf]; omega
        case neg =>
        obtain rfl : n = d.cases.length := by omega
        have HS5 := Lib.hid (HS3.out.mono (show B0 + d.cases.length ≤ B0 + 50 by omega))
        go_wp2_with fail
        clear b12
        go_loopw [12] (fun x12 wy => ∃ n : Nat, n ≤ d.terms.length ∧ x12 = .int .i64 ((n : Nat) : Int) ∧ Rest (fun k => lo ≤ k ∧ k < hi) w10 wy ∧ CShp τ lo hi (B0 + 50) wy A1 D1) (fun x12 _ => d.terms.length - (intOf x12).toNat)
        case atStart => exact ⟨0, Nat.zero_le _, rfl, HR3.out, HS5.out⟩
        case round =>
          obtain ⟨n, hn2, rfl, hr, hsh⟩ := hrel
          have HR6 := Lib.hid hr
          have HS6 := Lib.hid hsh
          clear hr hsh HS3 HS5 HR3
          have b8 := (KB2.out wr HR6.out).1
          by_cases hlt : n < d.terms.length
          case pos =>
            obtain ⟨tt, htt⟩ : ∃ tt, d.terms[n]? = some tt := ⟨_, List.getElem?_eq_getElem hlt⟩
            obtain ⟨_, _, _, hT, _⟩ := KFF.out _ wr HS6.out
            obtain ⟨g2, eta, gl, gt, hp⟩ := hT n tt htt
            rw [eta] at b8
            have pf := hp.fr
            obtain ⟨kv, pc⟩ := hp.ex
            have hn0 : (0 : Int) ≤ ((n : Nat) : Int) := by omega
            have hn1 : ((n : Nat) : Int) < ((d.terms.length : Nat) : Int) := by omega
            have HR7 : Hid (∀ kk : Int, Rest (fun k => lo ≤ k ∧ k < hi) w10 (wr.setCell ⟨g2, n * 2 + 1, none⟩ (.int .i64 kk))) := Lib.hid (fun kk => HR6.out.setCell (p := ⟨g2, n * 2 + 1, none⟩) (fun _ => gl) _)
            have HS7 : Hid (∀ kk : Int, CShp τ lo hi (B0 + 50) (wr.setCell ⟨g2, n * 2 + 1, none⟩ (.int .i64 kk)) A1 D1) := Lib.hid (fun kk => HS6.out.set (B' := B0 + 50) (q := g2) (off := n * 2 + 1) (v := .int .i64 kk) (.inr (.inl ⟨gt, ⟨n, rfl⟩, _, rfl⟩)) (Nat.le_refl _))
            clear hT htt eta hp gl gt
            go_wp2_with fail
            clear b8 pf pc
            go_roundw
            case rel => exact ⟨n + 1, by omega, by go_num, HR7.out _, HS7.out _⟩
            case measure => simp [intOf]; omega
          case neg =>
          obtain rfl : n = d.terms.length := by omega
          have HR8 := Lib.hid (R10.out.trans HR6.out (fun _ _ e => e))
          have u1 := KV.out wr HR8.out
          obtain ⟨h5, hf, ⟨sn, x0⟩, _, _⟩ := KFF.out _ wr HS6.out
          have hfz := hf (k * 15)
          have HR9 := Lib.hid (HR8.out.setCell (p := ⟨gf, k * 15, none⟩) (fun _ => GFL.out) (.string ⟨#[63]⟩))
          have HS9 := Lib.hid (HS6.out.set (B' := 140737488355328 + i * 20000 + (k + 1) * 50) (q := gf) (off := k * 15) (v := .string ⟨#[63]⟩) (.inr (.inr (.inl ⟨GFT.out, ⟨k, rfl⟩, _, rfl⟩))) (by have := HB0.out; omega))
          have hk0 : (0 : Int) ≤ ((k : Nat) : Int) := by omega
          have hk1 : ((k : Nat) : Int) < ((m.fields.length : Nat) : Int) := by have := HK.out; omega
          clear hf
          go_wp2_with fail
          clear b8 u1 h5 x0 hfz
          go_roundw
          case rel => exact ⟨k + 1, by have := HK.out; omega, by go_num, HR9.out, HS9.out⟩
          case measure => have := HK.out; simp [intOf]; omega
end Go.Proofs.Ytbpkppmbbpoohaa
