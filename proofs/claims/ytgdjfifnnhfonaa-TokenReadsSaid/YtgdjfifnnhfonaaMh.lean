/- The walk of TokenReads: the second turn over the tokens that are left. Conditions as before. -/
import Derived.Test.YtgdjfifnnhfonaaMg
namespace Go.Proofs.Ytgdjfifnnhfonaa
open Go.RowKit Go.Shelf
attribute [local go_sem] Oper.semAt_some
set_option maxRecDepth 100000 in
set_option maxHeartbeats 16000000 in
theorem reads_turn (l : List UInt8) (ao : Option Addr) (cL : Nat) (L : List TAct) (w : World) (q : Nat × Nat) : (readsAfter l ao cL L w q).1 := by
    conv => whnf
    intro hl hL bo hcL1 hcL2 w0 sb ESB HEND HW0 HB0 HA hi1 hi2 QQ w1 rp A c pb w2 EPB w3 ws A2 c2 wb w4 W4 EWB HE1 KK wr u12 u13 u14 u15 u16 u17 u18 u19 u20 u21 u22 u23 u24 u73 u74 u75 u76 u77 u78 u79 u80 u81 u82 u83 u84 u85 u86 u87 u88 u89 u90 u91 u92 u93 u94 u95 u96 u97 u98 u99 u100 u101 u102 u103 u104 u105 u106 u107 u108 u109 u110 u111 u112 u113 u114 u115 u116 u117 u118 u119 u120 u121 u122 u123 u124 u125 u126 u127 u128 u129 u130 u131 u132 u133 u134 u135 u136 u137 u138 u139 u140 u141 u142 u143 u144 u145 u146 u147 u148 u149 u150 u151 u152 u153 u154 u155 u156 u157 u158 u159 u160 u161 u162 u163 u164 u165 u166 u167 u168 u169 u170 u171 u172 u173 u174 u175 u176 u177 u178 u179 u180 u181 u182 u183 u184 u185 u186 u187 u188 u189 u190 u191 u192 u193 u194 u195 u196 u197 u198 u199 u200 u201 u202 u203 u204 u205 u206 u207 u208 u209 u210 u211 u212 u213 u214 u215 u216 u217 u218 u219 u220 u221 u222 u223 u224 u225 u226 u227 u228 u229 u230 u231 u232 u233 u234 u235 u236 u237 u238 u239 u240 u241 u242 u243 u244 u245 u246 u247 u248 u249 u250 u251 u252 u253 u254 u255 u256 u257 u258 u259 u260 u261 u262 u263 u264 u265 u266 u267 u268 u269 D hi hlt Ar cr nT hcm qb EQB HNT Q9 K9 a9 w6 QM tk e62 w7 tb w8 W8 ETB QT K8 a8 K7 a7 K6 a6 kb w9 TM9 XT9 XK QK HDL Wq HQ
    have hdm : w.heap.size ≤ w9.heap.size := by have := TM9.out.rw_.ord; have := TM9.out.rw_.size; omega
    have hr := HQ.out.1
    have htm := TM9.out.fresh hr (fun i e => by
      have h3 := QK.out
      have h4 := QT.out
      omega)
    have hxt := boxed_rest XT9.out hr (fun e => by have := QK.out; omega)
    obtain ⟨m2, hm2⟩ : ∃ m2, min 2 D.length = m2 := ⟨_, rfl⟩
    have hkb := HQ.out.2.1
    rw [hm2] at hkb
    have ck := hkb.cell
    have ct := hxt.cell
    obtain ⟨A3, c3, hwb3, hsl3⟩ := htm.rw_.ref
    have cw := hwb3.cell
    have hl3 := hsl3.1
    have hl4 := hsl3.2.1
    have hmn : (if ((D.length : Nat) : Int) < 2 then ((D.length : Nat) : Int) else 2) = ((m2 : Nat) : Int) := by split <;> omega
    have hmn2 : (if (2 : Int) < ((D.length : Nat) : Int) then 2 else ((D.length : Nat) : Int)) = ((m2 : Nat) : Int) := by split <;> omega
    have TMQ := Lib.hid htm
    have XTQ := Lib.hid hxt
    have DFQ := Lib.hid HQ.out.2.2
    have HM2 := Lib.hid hm2
    clear hr htm hxt hm2 hkb hwb3 hsl3 TM9 XT9 XK HQ
    gi_wp2_with fail
    clear ck ct cw hmn hmn2
    obtain ⟨Dm, eDm⟩ : ∃ Dm, w9.heap.size = Dm := ⟨_, rfl⟩
    rw [eDm] at DFQ hdm ⊢
    have HDM := Lib.hid hdm
    clear hdm
    have halT := below_alloc Wq (.cells #[.int .i64 1] 3)
    have hxT := Boxed.new Wq 3 (.int .i64 1)
    obtain ⟨tb2, etb2⟩ : ∃ tb2, Wq.heap.size = tb2 := ⟨_, rfl⟩
    obtain ⟨wT, hwT⟩ : ∃ wT, Wq.alloc (.cells #[.int .i64 1] 3) = wT := ⟨_, rfl⟩
    rw [hwT] at halT hxT ⊢
    rw [etb2] at hxT ⊢
    have TMT := Lib.hid (TMQ.out.later halT)
    have XT := Lib.hid hxT
    have QT2 : Hid (qb < tb2) := Lib.hid (by have := TMQ.out.bx.lt; omega)
    have DFT := Lib.hid ((halT.block Dm (Array.getElem?_eq_some_iff.1 DFQ.out).1).trans DFQ.out)
    clear halT hxT hwT etb2 TMQ XTQ DFQ eDm
    rw [roundsIn_succ]
    have ct := XT.out.cell
    gi_wp2_with fail
    clear ct
    have hal9 := below_alloc wT (.cells #[.int .i64 0] 3)
    have hxk := Boxed.new wT 3 (.int .i64 0)
    obtain ⟨kb2, ekb⟩ : ∃ kb2, wT.heap.size = kb2 := ⟨_, rfl⟩
    obtain ⟨wK, hwK⟩ : ∃ wK, wT.alloc (.cells #[.int .i64 0] 3) = wK := ⟨_, rfl⟩
    rw [hwK] at hal9 hxk ⊢
    rw [ekb] at hxk ⊢
    have TMK := Lib.hid (TMT.out.later hal9)
    have XTK := Lib.hid (boxed_below XT.out hal9 XT.out.lt)
    have XK2 := Lib.hid hxk
    have BTK := Lib.hid hal9
    have QK2 : Hid (tb2 < kb2) := Lib.hid (by have := XT.out.lt; omega)
    have EKB2 := Lib.hid ekb
    clear hal9 hxk hwK ekb TMT XT
    have hDl : (D.map (RTk.toD l)).length ≤ 9223372036854775807 := by
      have h1 := TMK.out.sl.1
      have h2 := TMK.out.sl.2.1
      omega
    have HDL2 := Lib.hid hDl
    clear hDl
    refine open_joined (gf := 54) (lb := #[.pointer (some ⟨qb, 0, none⟩)]) (by decide) rfl Try.ent54 (fun W => Rest (fun i => i = kb2) wK W ∧ Boxed W kb2 3 (.int .i64 ((D.length : Nat) : Int)) ∧ W.heap[wK.heap.size]? = some (.deferred (some []))) .skip ?turn1 ?brk1 ?rest1
    case brk1 =>
      intro fr W h
      exact wpIn_skip h
    case turn1 =>
      intro W1 rr hrr hb1 hsz hR
      obtain ⟨fn, hrr⟩ := hrr
      obtain ⟨D2, hD⟩ : ∃ D2, wK.heap.size = D2 := ⟨_, rfl⟩
      rw [hD] at hrr hb1 hsz hR ⊢
      obtain ⟨lr, hlr⟩ : ∃ lr, D2 + 1 = lr := ⟨_, rfl⟩
      rw [hlr] at hR ⊢
      have hb1' : Below wK.heap.size wK W1 := by rw [hD]; exact hb1
      have hkl := XK2.out.lt
      have hkD : kb2 < D2 := by omega
      have hle : D2 < lr := by omega
      have TM1 := Lib.hid (TMK.out.later hb1')
      have XK21 := Lib.hid (boxed_below XK2.out hb1' XK2.out.lt)
      have XT1 := Lib.hid (boxed_below XTK.out hb1' XTK.out.lt)
      have HRR := Lib.hid hrr
      have HR := Lib.hid hR
      have HB1 := Lib.hid hb1'
      have HKD := Lib.hid hkD
      have HLE := Lib.hid hle
      have HD := Lib.hid hD
      clear hrr hb1 hsz hR hD hlr hb1' hkl hkD hle TMK XK2 XTK
      have hG : ∀ (k : Nat) (W2 : World) (r : Loop), JL W1 kb2 lr k W2 → RecAt W2 lr D2 r → k = D.length → ∀ o, Rest (fun i => i = kb2) wK (W2.putObj lr o) ∧ Boxed (W2.putObj lr o) kb2 3 (.int .i64 ((D.length : Nat) : Int)) ∧ (W2.putObj lr o).heap[D2]? = some (.deferred (some [])) := fun k W2 r h hr hk o => by
        have h1 := HKD.out
        have h2 := HLE.out
        have hp := h.put o (by omega)
        have hrest : Rest (fun i => i = kb2) wK (W2.putObj lr o) := (Rest.below HB1.out).trans hp.rest (fun i hi e => by
          rcases e with e | e
          · exact e
          · have := HD.out; omega)
        refine ⟨hrest, by rw [← hk]; exact hp.kbx, ?_⟩
        exact (World.putObj_heap_other (show D2 ≠ lr by omega)).trans hr.dfr
      have HG := Lib.hid hG
      clear hG
      refine (toks54_at 5 (by decide) lr qb cr (OwnS sb (sb + 1) rp wb (wb + 1)) Ar (D.map (RTk.toD l)) (fun pre W => JT W1 tb2 kb2 lr D2 (rr .ready none) 1 pre.length W) (fun _ _ => False) (fun pre W W' h hb => h.later hb) HDL2.out (fun pre W h => (TM1.out.fresh h.rest (fun i e => by
        have h1 := HKD.out
        have h2 := HLE.out
        have h3 := QK2.out
        have h4 := QT2.out
        rcases e with e | e <;> omega)).sl) ?hY1 W1 TM1.out.bx.cell ⟨Rest.refl _ _, XK21.out, HR.out, fun h => absurd h (by decide)⟩).mono ?post1
      case post1 =>
        rintro e W2 ⟨hv, (hj | ⟨pre, hp, hf⟩)⟩
        · exact ⟨hv, .inl ⟨hj.rec_, HG.out _ _ _ hj.toL hj.rec_ (by rw [List.length_map])⟩⟩
        · exact hf.elim
      case hY1 =>
        intro pre x W hj hpx
        obtain ⟨d, hd, rfl⟩ : ∃ d, D[pre.length]? = some d ∧ x = d.toD l := by
          obtain ⟨t, ht⟩ := hpx
          have h1 : (D.map (RTk.toD l))[pre.length]? = some x := by rw [← ht]; simp
          rw [List.getElem?_map] at h1
          cases h2 : D[pre.length]? with
          | none => rw [h2] at h1; cases h1
          | some d => rw [h2] at h1; exact ⟨d, rfl, (Option.some.inj h1).symm⟩
        have hdl := (List.getElem?_eq_some_iff.1 hd).1
        have JW := Lib.hid hj
        have HDD := Lib.hid hd
        have HDX := Lib.hid hdl
        clear hj hpx hd hdl
        have hal := below_alloc W (.cells #[.int .i64 ((d.k : Nat) : Int), .string (strL d.t), .int .i64 ((d.v : Nat) : Int), .int .i64 (((adv (l.take d.a) (1, 1)).1 : Nat) : Int), .int .i64 (((adv (l.take d.a) (1, 1)).2 : Nat) : Int)] 36)
        have hvb := tbox_new W (.int .i64 ((d.k : Nat) : Int)) (.string (strL d.t)) (.int .i64 ((d.v : Nat) : Int)) (.int .i64 (((adv (l.take d.a) (1, 1)).1 : Nat) : Int)) (.int .i64 (((adv (l.take d.a) (1, 1)).2 : Nat) : Int))
        obtain ⟨Q, hQ⟩ : ∃ Q, adv (l.take d.a) (1, 1) = Q := ⟨_, rfl⟩
        have hix : (d.toD l).agg = .agg #[.int .i64 ((d.k : Nat) : Int), .string (strL d.t), .int .i64 ((d.v : Nat) : Int), .int .i64 ((Q.1 : Nat) : Int), .int .i64 ((Q.2 : Nat) : Int)] := by rw [← hQ]; rfl
        rw [hix]
        rw [hQ] at hal hvb
        obtain ⟨vb, evb⟩ : ∃ vb, W.heap.size = vb := ⟨_, rfl⟩
        obtain ⟨Wa, hWa⟩ : ∃ Wa, W.alloc (.cells #[.int .i64 ((d.k : Nat) : Int), .string (strL d.t), .int .i64 ((d.v : Nat) : Int), .int .i64 ((Q.1 : Nat) : Int), .int .i64 ((Q.2 : Nat) : Int)] 36) = Wa := ⟨_, rfl⟩
        rw [hWa] at hal hvb
        rw [evb] at hvb
        have hvl : lr < vb := by have := (Array.getElem?_eq_some_iff.1 JW.out.rec_.rec_).1; omega
        have JA := Lib.hid (JW.out.later hal)
        have VB := Lib.hid hvb
        have WA := Lib.hid hWa
        have EVB := Lib.hid evb
        have HVL := Lib.hid hvl
        have HQQ := Lib.hid hQ
        clear hal hvb hQ hix evb hWa hvl
        refine boxed_round HRR.out JW.out.rec_ JA.out.rec_ rfl ?a11 ?asg1 ?body1
        case asg1 =>
          intro K hK
          have HK := Lib.hid hK
          clear hK
          gi_wp2_with fail
          rw [WA.out, EVB.out]
          exact HK.out
        case body1 =>
          intro W2 hW2
          have n1 : kb2 ≠ lr := by have := HKD.out; have := HLE.out; omega
          have n2 : lr ≠ D2 := by have := HLE.out; omega
          have n3 : kb2 ≠ D2 := by have := HKD.out; omega
          have hj2 : JT W1 tb2 kb2 lr D2 (rr .busy none) 1 pre.length W2 := by rw [hW2]; exact JA.out.put _ n1 n2
          have hv2 : TBox W2 vb (.int .i64 ((d.k : Nat) : Int)) (.string (strL d.t)) (.int .i64 ((d.v : Nat) : Int)) (.int .i64 ((Q.1 : Nat) : Int)) (.int .i64 ((Q.2 : Nat) : Int)) := by
            rw [hW2]
            exact ⟨(World.putObj_heap_other (show vb ≠ lr by have := HVL.out; omega)).trans VB.out.blk⟩
          have htm2 : TM w W2 sb rp wb qb l q (leftR true D) D Ar cr := TM1.out.fresh hj2.rest (fun i e => by
            have h1 := HKD.out
            have h2 := HLE.out
            have h3 := QK2.out
            have h4 := QT2.out
            rcases e with e | e <;> omega)
          have hxt2 : Boxed W2 tb2 3 (.int .i64 1) := boxed_rest XT1.out hj2.rest (fun e => by have h1 := QK2.out; have h2 := HKD.out; have h3 := HLE.out; rcases e with e | e <;> omega)
          obtain ⟨A3, c3, hwb3, hsl3⟩ := htm2.rw_.ref
          obtain ⟨g3, o3, rfl, _, hx3⟩ := hsl3.2.2 pre.length d HDD.out
          have z0 : W2.cell? ⟨g3, o3 + pre.length * 4, none⟩ = some (.int .i64 d.k) := hx3 0 _ rfl
          have z1 : W2.cell? ⟨g3, o3 + pre.length * 4 + 1, none⟩ = some (.string (strL d.t)) := hx3 1 _ rfl
          have z2 : W2.cell? ⟨g3, o3 + pre.length * 4 + 2, none⟩ = some (.int .i64 d.v) := hx3 2 _ rfl
          have z3 : W2.cell? ⟨g3, o3 + pre.length * 4 + 3, none⟩ = some (.int .i64 d.a) := hx3 3 _ rfl
          have y0 := hv2.c0
          have y1 := hv2.c1
          have y2 := hv2.c2
          have y3 := hv2.c3
          have y4 := hv2.c4
          have ck := hj2.kbx.cell
          have cw := hwb3.cell
          have cs := htm2.rw_.str.cell
          have HIS : ∀ wx, Hid (Calls Try.prog 12 #[.agg #[.int .i64 ((d.k : Nat) : Int), .string (strL d.t), .int .i64 ((d.v : Nat) : Int), .int .i64 ((Q.1 : Nat) : Int), .int .i64 ((Q.2 : Nat) : Int)], .agg #[.int .i64 ((d.k : Nat) : Int), .string (strL d.t), .int .i64 ((d.v : Nat) : Int), .int .i64 ((d.a : Nat) : Int)], .string (strL l)] wx fun e w' => e = .returned (.bool true) ∧ Below wx.heap.size wx w') := fun wx => Lib.hid (lawIs_same l d.a d.k d.v d.t wx (htm2.rw_.ats d (List.mem_of_getElem? HDD.out)) (by omega) Q HQQ.out)
          have J2 := Lib.hid hj2
          have T2 := Lib.hid htm2
          have X2 := Lib.hid hxt2
          have hlt2 : pre.length < D.length := HDX.out
          have hd1 : decide (((D.length : Nat) : Int) ≤ ((pre.length : Nat) : Int)) = false := decide_eq_false (by omega)
          have hd2 : decide (D.length ≤ pre.length) = false := decide_eq_false (by omega)
          have hl3 := hsl3.1
          have hl4 := hsl3.2.1
          clear hj2 hv2 htm2 hxt2 hwb3 hsl3 hx3 hW2
          gi_upto_region 61 with fail
          gi_cut [295] from 282 (fun s wx => s = .bool false ∧ Below W2.heap.size W2 wx)
          case first =>
            have k0 := cell_regrown z0
            have k1 := cell_regrown z1
            have k2 := cell_regrown z2
            have k3 := cell_regrown z3
            have m0 := cell_regrown y0
            have m1 := cell_regrown y1
            have m2 := cell_regrown y2
            have m3 := cell_regrown y3
            have m4 := cell_regrown y4
            have kk := cell_regrown ck
            have kw := cell_regrown cw
            have ks := cell_regrown cs
            refine region_below_round (F := Fence.wide) rfl (by kernel_rfl) (by kernel_rfl) (by kernel_rfl) ?_
            iterate 11 (gi_big_quiet_step (fail))
            refine BigFrame.wpQuietIn_want (fun _ _ _ _ => trivial) rfl (fun K hK => ?_)
            gi_big_quiet_op
            refine ⟨_, fun _ => CallsIn.regrown_of (callsIn_wide.2 (HIS _).out), hK _ ?_⟩
            clear hK K
            repeat (gi_big_quiet_step (fail))
            refine wpQuietIn_nil ?_
            rintro _ ⟨p, rfl⟩
            rename_i h1 h0
            refine h0 _ _ (Met.intro (h1 _ _ ?_))
            (repeat apply Exists.intro)
            refine ⟨?rel1, rfl⟩
            case rel1 => exact ⟨rfl, below_regrown W2 p.d p.os⟩
          case rest =>
            obtain ⟨rfl, hbw⟩ := hcut
            have JC := Lib.hid (J2.out.later hbw)
            have XC := Lib.hid (boxed_below X2.out hbw X2.out.lt)
            clear z0 z1 z2 z3 y0 y1 y2 y3 y4 ck cw cs HIS hd1 hd2 J2 T2 X2 hbw
            have ck := JC.out.kbx.cell
            have fk := JC.out.kbx.frozen
            have hpl : ((pre.length : Nat) : Int) ≤ 9223372036854775806 := by omega
            gi_upto_region 64 with fail
            obtain ⟨k1, hk1⟩ : ∃ k1, pre.length + 1 = k1 := ⟨_, rfl⟩
            rw [show ((pre.length : Nat) : Int) + 1 = ((k1 : Nat) : Int) by omega]
            have hrs := (Rest.refl (fun i => i = kb2) wc).setCell (S := fun i => i = kb2) (p := ⟨kb2, 0, none⟩) (fun _ => rfl) (.int .i64 ((k1 : Nat) : Int))
            have hxt3 := boxed_rest XC.out hrs (fun e => by have := QK2.out; omega)
            have hkb3 := Boxed.set (.int .i64 ((k1 : Nat) : Int)) JC.out.kbx
            have hjt := JC.out.setK k1 n1 n3
            obtain ⟨w5', hw5'⟩ : ∃ w5', wc.setCell ⟨kb2, 0, none⟩ (.int .i64 ((k1 : Nat) : Int)) = w5' := ⟨_, rfl⟩
            rw [hw5'] at hxt3 hkb3 hjt ⊢
            have c26 := hxt3.cell
            have c27 := hkb3.cell
            have JTX := Lib.hid hjt
            have HK1 := Lib.hid hk1
            clear hw5' hrs hxt3 hkb3 hjt ck fk hk1
            have hjt := Lib.hid (JTX.out (fun h => absurd h (by decide)))
            gi_wp2_with fail
            have := hjt.out.put (rr .ready none) n1 n2
            rw [← HK1.out] at this
            exact ⟨hjt.out.rec_, this⟩
    case rest1 =>
      intro Wz hz
      have HZ := Lib.hid hz
      clear hz
      have hr := HZ.out.1
      have htm := TMK.out.fresh hr (fun i e => by
        have h3 := QK2.out
        have h4 := QT2.out
        omega)
      have hxt := boxed_rest XTK.out hr (fun e => by have := QK2.out; omega)
      have hkb := HZ.out.2.1
      have ck := hkb.cell
      have ct := hxt.cell
      obtain ⟨A4, c4, hwb4, hsl4⟩ := htm.rw_.ref
      have cw := hwb4.cell
      have hl3 := hsl4.1
      have hl4 := hsl4.2.1
      obtain ⟨D2, hD⟩ : ∃ D2, wK.heap.size = D2 := ⟨_, rfl⟩
      rw [hD] at HZ ⊢
      have hDT := (Array.getElem?_eq_some_iff.1 DFT.out).1
      have hk1 := XK2.out.lt
      have hne : Dm ≠ D2 := by have := EKB2.out; omega
      have hdz : Wz.heap[Dm]? = some (.deferred (some [])) := ((Rest.below BTK.out).trans hr (fun i _ e => e)).block Dm hDT (fun e => by have := EKB2.out; omega) |>.trans DFT.out
      have TMZ := Lib.hid htm
      have DF1 := Lib.hid hdz
      have DF2 := Lib.hid HZ.out.2.2
      have HNE := Lib.hid hne
      have HD2 := Lib.hid (show w.heap.size ≤ D2 by have h1 := htm.rw_.ord; have h2 := XK2.out.lt; have h3 := QK2.out; have h4 := QT2.out; have h5 := TMK.out.le; omega)
      have HDm := Lib.hid HDM.out
      clear hr htm hxt hkb hwb4 hsl4 TMK XTK XK2 HZ hDT hk1 hne hdz hD BTK
      gi_wp2_with fail
      clear ck ct cw
      rw [roundsIn_succ]
      gi_wp2_with fail
      go_wp2_with fail
      refine (known_any _).mono ?_
      rintro e w8' ⟨rfl, hb8⟩
      obtain ⟨wY, hwY⟩ : ∃ wY, Wz.alloc (.cells #[.int .i64 2] 3) = wY := ⟨_, rfl⟩
      have hbY : Below Wz.heap.size Wz wY := by rw [← hwY]; exact below_alloc Wz _
      rw [hwY] at hb8
      have hb9 : Below Wz.heap.size Wz w8' := hbY.trans (hb8.mono hbY.size)
      have htm := TMZ.out.later hb9
      have hrb := htm.rw_.res
      have cr := hrb.cell
      have cf := hrb.frozen
      have K1 := Lib.hid ((hb9.block Dm (Array.getElem?_eq_some_iff.1 DF1.out).1).trans DF1.out)
      have K2' := Lib.hid ((hb9.block D2 (Array.getElem?_eq_some_iff.1 DF2.out).1).trans DF2.out)
      have TMY := Lib.hid htm
      clear hb8 hbY hwY hb9 htm hrb DF1 DF2 TMZ
      go_wp2_with fail
      obtain ⟨ha1, ha2⟩ := TMY.out.rw_.answer true
      have n1 : Dm ≠ sb + 1 := fun e => by
        have hx := K1.out
        rw [e, show w8'.heap[sb + 1]? = _ from TMY.out.rw_.res] at hx
        cases hx
      have n2 : D2 ≠ sb + 1 := fun e => by
        have hx := K2'.out
        rw [e, show w8'.heap[sb + 1]? = _ from TMY.out.rw_.res] at hx
        cases hx
      have k1 := (Below.heap_setCell w8' ⟨sb + 1, 0, none⟩ (.bool true) Dm n1).trans K1.out
      have k2 := (Below.heap_setCell w8' ⟨sb + 1, 0, none⟩ (.bool true) D2 n2).trans K2'.out
      obtain ⟨wX, hwX⟩ : ∃ wX, w8'.setCell ⟨sb + 1, 0, none⟩ (.bool true) = wX := ⟨_, rfl⟩
      rw [hwX] at ha1 ha2 k1 k2 ⊢
      clear hwX cr cf
      have k3 : (wX.putObj D2 (.deferred none)).heap[Dm]? = _ := (World.putObj_heap_other HNE.out).trans k1
      have hb10 : Boxed (wX.putObj D2 (.deferred none)) (sb + 1) 4 (.bool true) := (World.putObj_heap_other n2.symm).trans ha1
      have hb11 : Boxed ((wX.putObj D2 (.deferred none)).putObj Dm (.deferred none)) (sb + 1) 4 (.bool true) := (World.putObj_heap_other n1.symm).trans hb10
      have hbw2 := ha2.grown (grownBy_putObj' wX D2 (.deferred none)) ha2.size (fun k e => by cases e; exact HD2.out)
      have hbw3 := hbw2.grown (grownBy_putObj' (wX.putObj D2 (.deferred none)) Dm (.deferred none)) hbw2.size (fun k e => by cases e; exact HDm.out)
      refine ⟨by simp, .inl ⟨_, _, rfl, run_takeDeferred k2, ?_⟩⟩
      refine ⟨by simp, .inl ⟨_, _, rfl, run_takeDeferred k3, ?_⟩⟩
      exact ⟨.bool true, by simp [results, Try.results5, go_sem, hb11.cell], rfl, hbw3⟩

end Go.Proofs.Ytgdjfifnnhfonaa
