/- The walk of VarintExact for integers. Conditions: the bytes lie in memory, ten at most. -/
import Derived.Test.YtfkaghfbngicmaaR0
namespace Go.Proofs.Ytfkaghfbngicmaa
open Go.RowKit Go.Shelf
attribute [local go_sem] Oper.semAt_some

set_option maxRecDepth 100000 in
set_option maxHeartbeats 12800000 in
theorem exact_ok (v : Nat) (hv : v < 34359738368) (FA : Option Addr) (FN FC : Nat) (B : List Nat) (w : World) (hs : SrcAt w (.slice FA FN FC) B) (hN : FN = B.length) (hl10 : FN ≤ 10) (h256 : ∀ c ∈ B, c < 256) :
    Calls Try.prog 8 #[.int .i64 v, .slice FA FN FC] w fun e w' => e = .returned (.bool true) ∧ Below w.heap.size w w' := by
  have hnil := eqlSeqQ
  have HKN : ∀ wx, Hid (Calls Try.prog 10 #[] wx fun e w' => e = .returned (.bool true) ∧ Below wx.heap.size wx w') := fun wx => Lib.hid (known9_any wx)
  have hq1 := len1_le v
  have hqs := len1_spec hv
  obtain ⟨q, hq⟩ : ∃ q, len1 v = q := ⟨_, rfl⟩
  have hrs := fun k (h1 : 1 ≤ k) (h5 : k ≤ 5) (h : v < 128 ^ k) F => read_strict hv h1 h5 h F
  rw [hq] at hq1 hqs
  simp only [hq] at hrs
  have HQS := Lib.hid hqs
  have HRS := Lib.hid hrs
  clear hqs hrs hq
  obtain ⟨wa, hwa⟩ : ∃ wa, w.alloc (.cells #[.int .i64 ((v : Nat) : Int)] 3) = wa := ⟨_, rfl⟩
  obtain ⟨wb, hwb⟩ : ∃ wb, wa.alloc (.cells #[.slice FA FN FC] 22) = wb := ⟨_, rfl⟩
  obtain ⟨w1, hw1⟩ : ∃ w1, wb.alloc (.cells #[.bool false] 4) = w1 := ⟨_, rfl⟩
  have hw : ((w.alloc (.cells #[.int .i64 ((v : Nat) : Int)] 3)).alloc (.cells #[.slice FA FN FC] 22)).alloc (.cells #[.bool false] 4) = w1 := by rw [hwa, hwb, hw1]
  have ba : Below w.heap.size w wa := by rw [← hwa]; exact below_new _ _
  have bb : Below wa.heap.size wa wb := by rw [← hwb]; exact below_new _ _
  have b1 : Below wb.heap.size wb w1 := by rw [← hw1]; exact below_new _ _
  have sa : wa.heap.size = w.heap.size + 1 := by rw [← hwa]; simp
  have sb : wb.heap.size = w.heap.size + 2 := by rw [← hwb]; simp; omega
  have s1 : w1.heap.size = w.heap.size + 3 := by rw [← hw1]; simp; omega
  have xv : Boxed w1 w.heap.size 3 (.int .i64 ((v : Nat) : Int)) := by
    refine boxed_below (boxed_below ?_ bb (by omega)) b1 (by omega)
    rw [← hwa]
    exact Boxed.new w _ _
  have xf : Boxed w1 (w.heap.size + 1) 22 (.slice FA FN FC) := by
    refine boxed_below ?_ b1 (by omega)
    rw [← hwb, ← sa]
    exact Boxed.new wa _ _
  have xr : Boxed w1 (w.heap.size + 2) 4 (.bool false) := by rw [← hw1, ← sb]; exact Boxed.new wb _ _
  have hb1 : Below w.heap.size w w1 := (ba.trans (bb.mono (by omega))).trans (b1.mono (by omega))
  have HFO := Lib.hid (Forms_any ((v : Nat) : Int) w1)
  obtain ⟨w2, hw2⟩ : ∃ w2, w1.alloc (.cells #[.int .i64 ((v : Nat) : Int)] 3) = w2 := ⟨_, rfl⟩
  have b2 := below_new w1 (.cells #[.int .i64 ((v : Nat) : Int)] 3)
  have xc := Boxed.new w1 3 (.int .i64 ((v : Nat) : Int))
  have s2 : w2.heap.size = w.heap.size + 4 := by rw [← hw2]; simp; omega
  rw [hw2] at b2 xc HFO
  rw [s1] at xc HFO
  obtain ⟨w3, hw3⟩ : ∃ w3, w2.alloc (.cells #[.bool true] 4) = w3 := ⟨_, rfl⟩
  have b3 := below_new w2 (.cells #[.bool true] 4)
  have xi := Boxed.new w2 4 (.bool true)
  have s3 : w3.heap.size = w.heap.size + 5 := by rw [← hw3]; simp; omega
  rw [hw3] at b3 xi
  rw [s2] at xi
  obtain ⟨w4, hw4⟩ : ∃ w4, w3.alloc (.cells #[.string ⟨#[]⟩] 9) = w4 := ⟨_, rfl⟩
  have b4 := below_new w3 (.cells #[.string ⟨#[]⟩] 9)
  have xs := Boxed.new w3 9 (.string ⟨#[]⟩)
  have s4 : w4.heap.size = w.heap.size + 6 := by rw [← hw4]; simp; omega
  rw [hw4] at b4 xs
  rw [s3] at xs
  obtain ⟨b, eb⟩ : ∃ b, w.heap.size = b := ⟨_, rfl⟩
  rw [eb] at xv xf xr xc xi xs HFO s1 s2 s3 s4 hb1 ⊢
  have hcf : w1.cell? ⟨b + 1, 0, none⟩ = some (.slice FA FN FC) := xf.cell
  have hcv : w1.cell? ⟨b, 0, none⟩ = some (.int .i64 ((v : Nat) : Int)) := xv.cell
  have hx4 : ∀ (W : World) (lr Dd : Nat) (r : Loop), Below w4.heap.size w4 W → RecAt W lr Dd r → b + 5 < Dd → Dd < lr → VX w W b lr Dd r ((v : Nat) : Int) (.slice FA FN FC) true ⟨#[]⟩ := fun W lr Dd r hW hr h1 h2 =>
    have c2 := b2.trans (((b3.trans (b4.mono (by omega))).trans (hW.mono (by omega))).mono (by omega))
    have c3 := b3.trans ((b4.trans (hW.mono (by omega))).mono (by omega))
    have c4 := b4.trans (hW.mono (by omega))
    ⟨hb1.trans (c2.mono (by omega)), boxed_below xv c2 xv.lt, boxed_below xf c2 xf.lt, boxed_below xr c2 xr.lt, boxed_below xc c3 xc.lt, boxed_below xi c4 xi.lt, boxed_below xs hW xs.lt, hr, h1, h2⟩
  have hsb : ∀ W, Below b w W → SrcAt W (.slice FA FN FC) B := fun W h => hs.below h (by rw [← eb]; exact hs.lt)
  have HSB := Lib.hid hsb
  have HN := Lib.hid hN
  have H256 := Lib.hid h256
  clear hsb hN h256 hs
  have HX4 := Lib.hid hx4
  have HW := Lib.hid hw
  have EB := Lib.hid eb
  have HV := Lib.hid hv
  have W3 := Lib.hid hw3
  have W4 := Lib.hid hw4
  have S1 := Lib.hid s1
  have S2 := Lib.hid s2
  have S3 := Lib.hid s3
  have S4 := Lib.hid s4
  clear hwa hwb hw1 hw ba bb b1 sa sb s1 xv xf xr xc xi xs hb1 hw2 hw3 hw4 b2 b3 b4 s2 s3 s4 eb hv hx4
  refine (callsIn_wide (n := 6)).1 ?_
  refine callsIn_of_wp_marks Try.func8 rfl trivial ?_ rfl
  simp only [Try.ntmps8, List.size_toArray, List.length_cons, List.length_nil, Nat.reduceAdd, Nat.reduceSub, Array.replicate_succ, Array.replicate_zero, List.push_toArray, List.append_toArray, List.nil_append, List.cons_append]
  refine wpIn_wide.2 ?_
  have hd10 : decide ((10 : Int) < ((FN : Nat) : Int)) = false := decide_eq_false (by omega)
  go_upto_region 3 with fail
  rw [HW.out, EB.out]
  go_wp2_with fail
  refine HFO.out.mono ?_
  rintro e w' ⟨rfl, rfl⟩
  go_upto_region 7 with fail
  rw [W3.out, S2.out, show b + 1 + 1 = b + 2 from rfl]
  go_wp2_with fail
  rw [W4.out, S3.out]
  clear hcf hcv hnil hd10
  refine (wpIn_wide (n := 6)).1 ?_
  gi_wp2_with fail
  refine open_joined (gf := 31) (lb := #[.pointer (some ⟨b + 3, 0, none⟩)]) (by decide) rfl Try.entForms (VY w · b w4.heap.size ((v : Nat) : Int) false) .skip ?turn ?brk ?rest
  case brk =>
    intro fr W h
    exact wpIn_skip h
  case turn =>
    intro W1 rr hrr hb1 hsz hR
    obtain ⟨fn, hrr⟩ := hrr
    have h6 : b + 5 < w4.heap.size := by rw [S4.out]; omega
    have hj0 : VX w W1 b (w4.heap.size + 1) w4.heap.size (rr .ready none) ((v : Nat) : Int) (.slice FA FN FC) true ⟨#[]⟩ := HX4.out W1 _ _ _ hb1 hR h6 (Nat.lt_succ_self _)
    obtain ⟨D2, hD⟩ : ∃ D2, w4.heap.size = D2 := ⟨_, rfl⟩
    rw [hD] at hrr hj0 ⊢
    obtain ⟨lr, hlr⟩ : ∃ lr, D2 + 1 = lr := ⟨_, rfl⟩
    rw [hlr] at hj0 ⊢
    have J0 := Lib.hid hj0
    have HRR := Lib.hid hrr
    clear hrr hb1 hsz hR hD hlr h6 hj0
    refine (forms_at 5 (by decide) lr (b + 3) v HV.out (JX w b lr D2 (rr .ready none) v (.slice FA FN FC) q) (fun k W => False) W1 (lr + 1)
      (fun k W W' h hb => h.later hb) (fun k W h => by obtain ⟨_, _, h⟩ := h.vx; exact ⟨h.cb.cell, h.lt⟩)
      (fun k W h h1 h5 hn => by
        have hkq : k < q := by
          rcases Nat.lt_or_ge k q with hc | hc
          · exact hc
          · exact absurd (Nat.lt_of_lt_of_le HQS.out.1 (pow128_mono hc)) hn
        rcases h with ⟨_, h⟩ | ⟨h2, _⟩
        · exact .inl ⟨hkq, h⟩
        · omega) ?hY (.inl ⟨hq1.1, J0.out⟩)).mono ?post
    case post =>
      rintro e W2 ⟨hv, (hj | ⟨k, _, _, _, hf⟩)⟩
      · rcases hj with ⟨h2, _⟩ | ⟨_, h⟩
        · omega
        · exact ⟨hv, .inl ⟨h.rec_, fun o => h.go o⟩⟩
      · exact hf.elim
    case hY =>
      intro k g W hj k1 k5 hkv hg hgc
      have hqk : q ≤ k := by
        rcases Nat.lt_or_ge k q with h | h
        · exact absurd hkv (HQS.out.2 k h k1)
        · exact h
      obtain ⟨fst, S, hvx, hfs⟩ : ∃ fst S, VX w W b lr D2 (rr .ready none) v (.slice FA FN FC) fst S ∧ ((fst = true ∧ k = q) ∨ (fst = false ∧ q < k ∧ S = strOf (formV v (k - 1)))) := by
        rcases hj with ⟨h2, h⟩ | ⟨h2, h⟩
        · exact ⟨_, _, h, .inl ⟨rfl, by omega⟩⟩
        · exact ⟨_, _, h, .inr ⟨rfl, h2, rfl⟩⟩
      have hrl := read_loose k1 k5 hkv B
      have hrs := HRS.out k k1 k5 hkv B
      have JW := Lib.hid hvx
      have HFS := Lib.hid hfs
      have HQK := Lib.hid hqk
      have HGL := Lib.hid (show lr < g by omega)
      have HGC := Lib.hid hgc
      clear hj hvx hfs hgc hkv hqk hg
      refine named_round HRR.out JW.out.rec_ rfl ?a1 ?asg ?body
      case asg =>
        intro K hK
        have HK := Lib.hid hK
        clear hK
        gi_wp2
        exact HK.out
      case body =>
        intro W2 hW2
        have hj2 : VX w W2 b lr D2 (rr .busy none) v (.slice FA FN FC) fst S := by rw [hW2]; exact JW.out.put _
        have hg2 : W2.heap[g]? = some (.cells (u8s (formV v k)).toArray 5 (0, 0)) := by rw [hW2]; exact (World.putObj_heap_other (show g ≠ lr by have := HGL.out; omega)).trans HGC.out
        have hroom := room_of_heap hg2
        have hF256 := formV_lt v k
        have hsg := hroom.src k k (by rw [formV_len]; exact Nat.le_refl _)
        rw [List.take_of_length_le (by rw [formV_len]; exact Nat.le_refl _)] at hsg
        have hsf := HSB.out W2 hj2.bel
        have hsj : ∀ m, m ≤ k → SrcAt W2 (.slice (some ⟨g, 0, none⟩) m k) ((formV v k).take m) := fun m hm => hroom.src m k (by rw [formV_len]; exact hm)
        have hlf : (formV v k).length = k := formV_len v k
        have hrd : ∀ (loose : Bool) (A' : Option Addr) (c' : Nat) (W : World), SrcAt W (.slice A' (k + FN) c') (formV v k ++ B) → k + FN ≤ c' → c' ≤ 9223372036854775807 →
            Hid (Calls Try.prog 14 #[.slice A' (k + FN) c', .bool loose] W (ReadOf (readC (formV v k ++ B) loose) W)) := fun loose A' c' W h1 h2 h3 =>
          Lib.hid (read_any A' (k + FN) c' loose (formV v k ++ B) W h1 (by rw [List.length_append, formV_len, HN.out]) h2 h3 (fun c hc => by
            rcases List.mem_append.1 hc with h | h
            · exact hF256 c h
            · exact H256.out c h))
        have hr1 := hrd true
        have hr2 := hrd false
        unfold ReadOf at hr1 hr2
        simp only [hrl] at hr1
        simp only [hrs] at hr2
        obtain ⟨D, hD⟩ : ∃ D, formV v k = D := ⟨_, rfl⟩
        rw [hD] at hsg hlf hF256 hr1 hr2 hsj
        have HD := Lib.hid hD
        have J2 := Lib.hid hj2
        have HSG := Lib.hid hsg
        have HSJ := Lib.hid hsj
        have HF := Lib.hid hF256
        have HSF := Lib.hid hsf
        have HLF := Lib.hid hlf
        have HR1 := Lib.hid hr1
        have HR2 := Lib.hid hr2
        clear hj2 hg2 hroom hsj hF256 hsg hsf hlf hrd hr1 hr2 hrl hrs hD hW2 JW HGC
        gi_upto_region 10 with fail
        have cf := J2.out.fb.cell
        refine rel_region (XR W2.heap.size k FN g (.slice FA FN FC) D B) XK XL [26, 27, 28, 29, 30, 9] rfl (by decide) (by simp) (by kernel_rfl) (fun _ => trivial) (fun _ => by decide) (topoB (by kernel_rfl)) (by decide) (by kernel_rfl) ?step ?fin
        case step =>
          intro i o d ho hd
          rcases i with _ | _ | _ | _ | _ | _ | i
          · cases ho
            cases hd
            refine ⟨rfl, rfl, (by intro c h; cases h), ?_⟩
            simp only [List.getElem_toArray, List.getElem_cons_zero, List.getElem_cons_succ]
            intro a' w' hf hb ha
            refine .inl ⟨.slice (some ⟨w'.heap.size, 0, none⟩) 0 0, w'.alloc (.cells #[] 5), by simp [execOp, go_sem], ⟨⟨w'.heap.size, rfl, heap_alloc_new _ _, hb.size⟩, hb.alloc hb.size _, fun j u _ _ _ h => XR.below (below_new w' _) j u h⟩⟩
          · cases ho
            cases hd
            refine ⟨rfl, rfl, (by intro c h; cases h), ?_⟩
            simp only [List.getElem_toArray, List.getElem_cons_zero, List.getElem_cons_succ]
            intro a' w' hf hb ha
            have h : a'.eval (.tmp 8) = .slice (some ⟨g, 0, none⟩) k k := (eval_low hf (j := 8) (by decide)).trans rfl
            refine .inl ⟨.slice (some ⟨g, 0, none⟩) k k, w', ?_, RNext.same rfl hb⟩
            unfold execOp
            simp only
            rw [h]
            rfl
          · cases ho
            cases hd
            refine ⟨rfl, rfl, (by intro c h; cases h), ?_⟩
            simp only [List.getElem_toArray, List.getElem_cons_zero, List.getElem_cons_succ]
            intro a' w' hf hb ha
            obtain ⟨v0, hv0, hR0⟩ := ha { on := 0, ground := .data } (by simp) (by decide) 26 rfl
            obtain ⟨v1, hv1, hR1⟩ := ha { on := 1, ground := .data } (by simp) (by decide) 27 rfl
            obtain ⟨g0, rfl, hg0, hbg⟩ := hR0 (.inl rfl)
            have e1 : v1 = .slice (some ⟨g, 0, none⟩) k k := hR1 (.inr (by decide))
            subst e1
            obtain ⟨v', w2', hrun, hrow, hbw⟩ := run_append_zero 22 (base := W2.heap.size) hg0 hbg hb.size (HSG.out.below hb HSG.out.lt) (by have := HLF.out; omega)
            have hrow2 := hrow
            rw [HLF.out] at hrow2
            obtain ⟨A', c, rfl, _, _⟩ := own_form hrow2
            refine .inl ⟨_, w2', ?_, ⟨⟨A', c, rfl, hrow2⟩, hb.trans (hbw.mono hb.size), fun j u _ _ _ h => XR.below hbw j u h⟩⟩
            have h0 := eval_got hv0
            have h1 := eval_got hv1
            simp [execOp, resolve, invoke, builtin, h0, h1, hrun, Result.andThen]
          · cases ho
            cases hd
            refine ⟨rfl, rfl, (by intro c h; cases h), ?_⟩
            simp only [List.getElem_toArray, List.getElem_cons_zero, List.getElem_cons_succ]
            intro a' w' hf hb ha
            have h : a'.tmps[3]? = some (.pointer (some ⟨b + 1, 0, none⟩)) := (hf.low 3 (by decide)).trans rfl
            have k0 := (hb.cell (p := ⟨b + 1, 0, none⟩) (block_lt_of_cell cf)).trans cf
            refine .inl ⟨.slice FA FN FC, w', ?_, RNext.same rfl hb⟩
            simp [execOp, h, go_sem, k0]
          · cases ho
            cases hd
            refine ⟨rfl, rfl, (by intro c h; cases h), ?_⟩
            simp only [List.getElem_toArray, List.getElem_cons_zero, List.getElem_cons_succ]
            intro a' w' hf hb ha
            obtain ⟨v0, hv0, hR0⟩ := ha { on := 2, ground := .data } (by simp) (by decide) 28 rfl
            obtain ⟨v1, hv1, hR1⟩ := ha { on := 3, ground := .data } (by simp) (by decide) 29 rfl
            obtain ⟨A1, c1, rfl, hrow1⟩ := hR0 (.inl rfl)
            have e1 : v1 = .slice FA FN FC := hR1 (.inr (by decide))
            subst e1
            obtain ⟨v', w2', hrun, hrow2, hg2⟩ := run_append_ownS 22 hrow1 hb.size (HSF.out.below hb HSF.out.lt) (by have := HN.out; omega)
            rw [← HN.out] at hrow2
            obtain ⟨A2, c2, rfl, hc21, hc22⟩ := own_form hrow2
            have hbw : Below W2.heap.size W2 w2' := hb.grown hg2 hb.size (fun k e => (hrow1.lt k e).1)
            refine .inl ⟨_, w2', ?_, ⟨⟨A2, c2, rfl, SrcAt.of_row hrow2, hc21, hc22⟩, hbw, fun j u hj1 hj2 hj3 h => ?_⟩⟩
            · have h0 := eval_got hv0
              have h1 := eval_got hv1
              simp [execOp, resolve, invoke, builtin, h0, h1, hrun, Result.andThen]
            · match j, h with
              | 0, _ => exact absurd hj3 (by decide)
              | 1, h => exact h
              | 2, _ => exact absurd rfl hj2
              | 3, h => exact h
              | j + 4, _ =>
                have h4 : 4 < j + 4 := by omega
                simp [XL, h4] at hj3
          · cases ho
            cases hd
            refine ⟨rfl, rfl, (by intro c h; cases h), ?_⟩
            simp only [List.getElem_toArray, List.getElem_cons_zero, List.getElem_cons_succ]
            intro a' w' hf hb ha
            obtain ⟨v0, hv0, hR0⟩ := ha { on := 4, ground := .data } (by simp) (by decide) 30 rfl
            obtain ⟨A1, c1, rfl, h4⟩ := hR0 (.inr (by decide))
            have h0 := eval_got hv0
            refine .inl ⟨.slice A1 (k + FN) c1, w', ?_, RNext.same ⟨A1, c1, rfl, h4⟩ hb⟩
            unfold execOp
            simp only
            rw [h0]
            rfl
          · cases ho
        case fin =>
          intro V w5 hb5 hV
          have v1 : V 1 = .slice (some ⟨g, 0, none⟩) k k := hV 1 (by decide) (by decide)
          have v3 : V 3 = .slice FA FN FC := hV 3 (by decide) (by decide)
          obtain ⟨A', c', v5, hs5, hc5, hm5⟩ := hV 5 (by decide) (by decide)
          clear hV
          simp only [putFrom, Act.put, List.setIfInBounds_toArray, List.set_cons_zero, List.set_cons_succ, Nat.zero_add, Nat.reduceAdd, v1, v3, v5]
          generalize V 0 = x26
          generalize V 2 = x28
          generalize V 4 = x30
          clear v1 v3 v5 V cf
          have J5 := Lib.hid (J2.out.later hb5)
          have HSG5 := Lib.hid (HSG.out.below hb5 HSG.out.lt)
          have HSJ5 := Lib.hid (fun m (hm : m ≤ k) => (HSJ.out m hm).below hb5 (HSJ.out m hm).lt)
          have HS5 := Lib.hid hs5
          have HC5 := Lib.hid hc5
          have HM5 := Lib.hid hm5
          clear hb5 hs5 hc5 hm5
          gi_wp2_with fail
          refine ⟨trivial, (CallsIn.inRound lr (callsIn_wide.2 (HR1.out A' c' w5 HS5.out HC5.out HM5.out).out)).mono ?_⟩
          rintro e w6 ⟨rfl, hb6⟩
          have J6 := Lib.hid (J5.out.later hb6)
          have HSG6 := Lib.hid (HSG5.out.below hb6 HSG5.out.lt)
          have HSJ6 := Lib.hid (fun m (hm : m ≤ k) => (HSJ5.out m hm).below hb6 (HSJ5.out m hm).lt)
          have HS6 := Lib.hid (HS5.out.below hb6 HS5.out.lt)
          clear hb6 HS5 J5 HSG5 HSJ5
          gi_wp2_with fail
          refine ⟨trivial, (CallsIn.inRound lr (callsIn_wide.2 (HR2.out A' c' w6 HS6.out HC5.out HM5.out).out)).mono ?_⟩
          rintro e w7 ⟨rfl, hb7⟩
          have J7 := Lib.hid (J6.out.later hb7)
          have HSG7 := Lib.hid (HSG6.out.below hb7 HSG6.out.lt)
          have HSJ7 := Lib.hid (fun m (hm : m ≤ k) => (HSJ6.out m hm).below hb7 (HSJ6.out m hm).lt)
          clear hb7 HS6 J6 HSG6 HSJ6 HR1 HR2 HSF HSG HSJ J2 HC5 HM5
          gi_upto_region 13 with fail
          have cv := J7.out.vb.cell
          have ci := J7.out.ib.cell
          have cs := J7.out.sb.cell
          rcases HFS.out with ⟨rfl, hkq⟩ | ⟨rfl, hkq, hSF⟩
          · rw [if_pos hkq]
            have HKQ := Lib.hid hkq
            clear hkq
            gi_upto_region 15 with fail
            gi_cut [101] from 84 (fun s wx => s = .bool false ∧ ∃ nn, wx = w7.drewN nn)
            case first =>
              refine region_quiet_round (F := Fence.wide) rfl (by kernel_rfl) (by kernel_rfl) (by kernel_rfl) ?_
              repeat (gi_big_quiet_step (fail))
              refine wpQuietIn_nil ?_
              rintro _ ⟨nq, rfl⟩
              rename_i h1 h0
              refine h0 _ _ (Met.intro (h1 _ _ ?_))
              (repeat apply Exists.intro)
              refine ⟨?rel, rfl⟩
              case rel => exact ⟨rfl, _, rfl⟩
            case rest =>
            skip
            clear cv ci cs
            obtain ⟨rfl, nn, hwc⟩ := hcut
            have J8 := Lib.hid (show VX w wc b lr D2 (rr .busy none) v (.slice FA FN FC) true S by rw [hwc]; exact J7.out.later (below_drewN _ _))
            have HSG8 := Lib.hid (show SrcAt wc (.slice (some ⟨g, 0, none⟩) k k) D by rw [hwc]; exact HSG7.out.below (below_drewN _ _) HSG7.out.lt)
            clear hwc J7 HSG7 HSJ7
            gi_upto_region 17 with fail
            have j10 := J8.out.setI false
            have c4 := J8.out.ib.cell
            have f4 := J8.out.ib.frozen
            have c5 := j10.sb.cell
            have f5 := j10.sb.frozen
            have c6 := (j10.later (below_drew _)).sb.cell
            have f6 := (j10.later (below_drew _)).sb.frozen
            have c8 := J8.out.sb.cell
            have f8 := J8.out.sb.frozen
            have hsg10 := SrcAt.rest (S := fun i => i = b + 4) HSG8.out ((Rest.refl (fun i => i = b + 4) wc).setCell (S := fun i => i = b + 4) (p := ⟨b + 4, 0, none⟩) (fun _ => rfl) (.bool false)) (fun k e => by simp [Value.ownBlock] at e; subst e; have := HGL.out; have := J8.out.o1; have := J8.out.o2; omega)
            have hx9 := conv_src (HSG8.out.below (below_drew wc) HSG8.out.lt) HF.out
            have hx10 := conv_src (hsg10.below (below_drew _) hsg10.lt) HF.out
            obtain ⟨S', hS'⟩ : ∃ S', strOf D = S' := ⟨_, rfl⟩
            rw [hS'] at hx9 hx10
            have HJ10 := Lib.hid ((j10.setS S').later (below_drew _))
            have HS' := Lib.hid hS'
            clear j10 hsg10 hS'
            gi_region_with fail
            all_goals
              gi_wp2_with fail
              refine ⟨HJ10.out.rec_, .inr ⟨by have := HQK.out; omega, ?_⟩⟩
              rw [Nat.add_sub_cancel, HD.out, HS'.out]
              exact HJ10.out.put _
          · rw [if_neg (by omega)]
            gi_upto_region 15 with (exact (not_undef (by assumption)).elim)
            obtain ⟨j, hj⟩ : ∃ j, k - 1 = j := ⟨_, rfl⟩
            rw [hj] at hSF
            have hne : strOf (D.take j) ≠ S := by
              rw [hSF, ← HD.out]
              exact str_noprefix v j k (by omega) (by omega)
            have hSz : S.size = j := by rw [hSF, strOf_size, formV_len]
            have hcv : ∀ n, (convert 22 9 (.slice (some ⟨g, 0, none⟩) j k)).run Try.prog (w7.drewN n) = .ok (.string (strOf (D.take j))) (w7.drewN n) := fun n => conv_src ((HSJ7.out j (by omega)).below (below_drewN _ _) (HSJ7.out j (by omega)).lt) (fun c hc => HF.out c (List.mem_of_mem_take hc))
            obtain ⟨T, hT⟩ : ∃ T, strOf (D.take j) = T := ⟨_, rfl⟩
            rw [hT] at hcv hne
            have hj1 : j ≤ k := by omega
            have hjk : j < k := by omega
            have hj2 : ((j : Nat) : Int) < ((k : Nat) : Int) := by omega
            have hj3 : ((j : Nat) : Int) ≤ ((k : Nat) : Int) := by omega
            have hj4 : (0 : Int) ≤ ((j : Nat) : Int) := by omega
            have HST := Lib.hid hSF
            have hbe := str_beq hne
            clear hSF hT
            gi_cut [101] from 84 (fun s wx => s = .bool false ∧ ∃ nn, wx = w7.drewN nn)
            case first =>
              refine region_quiet_round (F := Fence.wide) rfl (by kernel_rfl) (by kernel_rfl) (by kernel_rfl) ?_
              repeat (gi_big_quiet_step (fail))
              refine wpQuietIn_nil ?_
              rintro _ ⟨nq, rfl⟩
              rename_i h1 h0
              refine h0 _ _ (Met.intro (h1 _ _ ?_))
              (repeat apply Exists.intro)
              refine ⟨?rel, rfl⟩
              case rel => exact ⟨rfl, _, rfl⟩
            case rest =>
            clear hne hbe hSz hcv hj1 hjk hj2 hj3 hj4
            clear cv ci cs
            obtain ⟨rfl, nn, hwc⟩ := hcut
            have J8 := Lib.hid (show VX w wc b lr D2 (rr .busy none) v (.slice FA FN FC) false S by rw [hwc]; exact J7.out.later (below_drewN _ _))
            have HSG8 := Lib.hid (show SrcAt wc (.slice (some ⟨g, 0, none⟩) k k) D by rw [hwc]; exact HSG7.out.below (below_drewN _ _) HSG7.out.lt)
            clear hwc J7 HSG7 HSJ7
            gi_upto_region 17 with fail
            have j10 := J8.out.setI false
            have c4 := J8.out.ib.cell
            have f4 := J8.out.ib.frozen
            have c5 := j10.sb.cell
            have f5 := j10.sb.frozen
            have c6 := (j10.later (below_drew _)).sb.cell
            have f6 := (j10.later (below_drew _)).sb.frozen
            have c8 := J8.out.sb.cell
            have f8 := J8.out.sb.frozen
            have hsg10 := SrcAt.rest (S := fun i => i = b + 4) HSG8.out ((Rest.refl (fun i => i = b + 4) wc).setCell (S := fun i => i = b + 4) (p := ⟨b + 4, 0, none⟩) (fun _ => rfl) (.bool false)) (fun k e => by simp [Value.ownBlock] at e; subst e; have := HGL.out; have := J8.out.o1; have := J8.out.o2; omega)
            have hx9 := conv_src (HSG8.out.below (below_drew wc) HSG8.out.lt) HF.out
            have hx10 := conv_src (hsg10.below (below_drew _) hsg10.lt) HF.out
            obtain ⟨S', hS'⟩ : ∃ S', strOf D = S' := ⟨_, rfl⟩
            rw [hS'] at hx9 hx10
            have HJ10 := Lib.hid ((j10.setS S').later (below_drew _))
            have HS' := Lib.hid hS'
            clear j10 hsg10 hS'
            gi_region_with fail
            all_goals
              gi_wp2_with fail
              refine ⟨HJ10.out.rec_, .inr ⟨by have := HQK.out; omega, ?_⟩⟩
              rw [Nat.add_sub_cancel, HD.out, HS'.out]
              exact HJ10.out.put _
  case rest =>
    intro Wz hz
    have hb0 : b ≤ Wz.heap.size := by have := hz.bel.size; have := EB.out; omega
    obtain ⟨Dm, hDm⟩ : ∃ D, w4.heap.size = D := ⟨_, rfl⟩
    have hDb : b + 5 < Dm := by rw [← hDm, S4.out]; omega
    rw [hDm] at hz ⊢
    clear hDm
    have ci := hz.ib.cell
    have cv := hz.vb.cell
    have HZ := Lib.hid hz
    have HB0 := Lib.hid hb0
    have HDB := Lib.hid hDb
    have hd1 : decide (((v : Nat) : Int) < 0) = false := decide_eq_false (by omega)
    have hd2 : decide ((34359738368 : Int) ≤ ((v : Nat) : Int)) = false := decide_eq_false (by have := HV.out; omega)
    clear hz hb0 hDb
    gi_wp2_with fail
    go_wp2_with fail
    refine ((HKN _).out).mono ?_
    rintro e wF ⟨rfl, hbF⟩
    have hrb := boxed_below HZ.out.rb hbF HZ.out.rb.lt
    have cr := hrb.cell
    have cf := hrb.frozen
    have K1 := Lib.hid ((hbF.block Dm (Array.getElem?_eq_some_iff.1 HZ.out.dfr).1).trans HZ.out.dfr)
    have HRB := Lib.hid hrb
    have BF := Lib.hid (HZ.out.bel.trans (hbF.mono HB0.out))
    clear hbF hrb ci cv HZ
    go_wp2_with fail
    have ha1 := Boxed.set (.bool true) HRB.out
    have ha2 := BF.out.setCell (p := ⟨b + 2, 0, none⟩) (show b ≤ b + 2 by omega) (.bool true)
    have n1 : Dm ≠ b + 2 := by have := HDB.out; omega
    have k1 := (Below.heap_setCell wF ⟨b + 2, 0, none⟩ (.bool true) Dm n1).trans K1.out
    obtain ⟨wX, hwX⟩ : ∃ wX, wF.setCell ⟨b + 2, 0, none⟩ (.bool true) = wX := ⟨_, rfl⟩
    rw [hwX] at ha1 ha2 k1 ⊢
    clear hwX cr cf
    have hb11 : Boxed (wX.putObj Dm (.deferred none)) (b + 2) 4 (.bool true) := (World.putObj_heap_other n1.symm).trans ha1
    have hbw3 := ha2.grown (grownBy_putObj' wX Dm (.deferred none)) (by have := ha2.size; have := EB.out; omega) (fun k e => by cases e; have := HDB.out; omega)
    refine ⟨by simp, .inl ⟨_, _, rfl, run_takeDeferred k1, ?_⟩⟩
    exact ⟨.bool true, by simp [results, Try.results8, go_sem, hb11.cell], rfl, hbw3⟩
end Go.Proofs.Ytfkaghfbngicmaa
