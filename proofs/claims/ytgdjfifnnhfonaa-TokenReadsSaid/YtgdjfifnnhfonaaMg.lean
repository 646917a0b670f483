/- The walk of TokenReads behind its loop: Rest, and Next once more. Conditions as before. -/
import Derived.Test.YtgdjfifnnhfonaaMb
import Derived.Test.YtgdjfifnnhfonaaNa
namespace Go.Proofs.Ytgdjfifnnhfonaa
open Go.RowKit Go.Shelf
attribute [local go_sem] Oper.semAt_some
set_option maxRecDepth 100000 in
set_option maxHeartbeats 16000000 in
def readsAfter (l : List UInt8) (ao : Option Addr) (cL : Nat) (L : List TAct) (w : World) (q : Nat × Nat) : { G : Prop // Later G → (readsRound l ao cL L w q).1.2.2 } := by
  refine ⟨?G, fun hG => ?P⟩
  case P =>
    conv => whnf
    intro hl hL bo hcL1 hcL2 w0 sb ESB HEND HW0 HB0 HA hi1 hi2 QQ hh w1 rp A c pb w2 EPB w3 ws A2 c2 wb w4 W4 EWB HE1 KK aK wr u12 u13 u14 u15 u16 u17 u18 u19 u20 u21 u22 u23 u24 u73 u74 u75 u76 u77 u78 u79 u80 u81 u82 u83 u84 u85 u86 u87 u88 u89 u90 u91 u92 u93 u94 u95 u96 u97 u98 u99 u100 u101 u102 u103 u104 u105 u106 u107 u108 u109 u110 u111 u112 u113 u114 u115 u116 u117 u118 u119 u120 u121 u122 u123 u124 u125 u126 u127 u128 u129 u130 u131 u132 u133 u134 u135 u136 u137 u138 u139 u140 u141 u142 u143 u144 u145 u146 u147 u148 u149 u150 u151 u152 u153 u154 u155 u156 u157 u158 u159 u160 u161 u162 u163 u164 u165 u166 u167 u168 u169 u170 u171 u172 u173 u174 u175 u176 u177 u178 u179 u180 u181 u182 u183 u184 u185 u186 u187 u188 u189 u190 u191 u192 u193 u194 u195 u196 u197 u198 u199 u200 u201 u202 u203 u204 u205 u206 u207 u208 u209 u210 u211 u212 u213 u214 u215 u216 u217 u218 u219 u220 u221 u222 u223 u224 u225 u226 u227 u228 u229 u230 u231 u232 u233 u234 u235 u236 u237 u238 u239 u240 u241 u242 u243 u244 u245 u246 u247 u248 u249 u250 u251 u252 u253 u254 u255 u256 u257 u258 u259 u260 u261 u262 u263 u264 u265 u266 u267 u268 u269 i D hi RWr hlt
    obtain rfl : i = L.length := by omega
    obtain ⟨Ar, cr, hrd, hsl⟩ := RWr.out.rd
    obtain ⟨nT, hnT⟩ : ∃ nT, (D.map (RTk.toD l)).length = nT := ⟨_, rfl⟩
    have hcl := hsl.1
    have hcm := hsl.2.1
    have hrest := rd_rest rp Ar (D.map (RTk.toD l)).length cr q wr hrd HE1.out.1
    obtain ⟨qb, eqb⟩ : ∃ qb, wr.heap.size = qb := ⟨_, rfl⟩
    rw [eqb, hnT] at hrest
    rw [hnT] at hcl
    have HREST := Lib.hid hrest
    have SLD := Lib.hid hsl
    have EQB := Lib.hid eqb
    have HNT := Lib.hid hnT
    clear hrest hrd hsl eqb hnT
    go_wp2_with fail
    refine HREST.out.mono ?_
    rintro e w6 ⟨rfl, hw6⟩
    have hal := below_alloc wr (.cells #[.slice Ar nT cr] 23)
    have hqb := Boxed.new wr 23 (.slice Ar nT cr)
    rw [hw6, EQB.out] at hqb
    rw [hw6] at hal
    have hqM : wb + 1 ≤ qb := by have := RWr.out.size; have := EQB.out; omega
    have RW6 := Lib.hid (RWr.out.later hal)
    have QB6 := Lib.hid hqb
    have SL6 := Lib.hid (SLD.out.below hal)
    have QM := Lib.hid hqM
    clear hw6 hal hqb HREST SLD RWr hqM
    have hnext := rd_next (OwnS sb (sb + 1) rp wb (wb + 1)) rp q (D.map (RTk.toD l)) w6 RW6.out.rd HE1.out.1 (.inr (.inr (.inl rfl))) (fun i hi => .inr (.inr (.inr (.inr (Nat.le_trans RW6.out.size hi)))))
    obtain ⟨tk, htk⟩ : ∃ tk, (tokD true (D.map (RTk.toD l))).agg = tk := ⟨_, rfl⟩
    rw [htk] at hnext
    have hlp : leftP true (D.map (RTk.toD l)) = (leftR true D).map (RTk.toD l) := (leftR_map l true D).symm
    rw [hlp] at hnext
    have HNX := Lib.hid hnext
    clear hnext htk hlp
    dsimp only
    have e62 := fun w => eql62 w (.func 54) #[] #[.pointer (some ⟨qb, 0, none⟩)]
    go_wp2_with fail
    refine HNX.out.mono ?_
    rintro e w7 ⟨rfl, hrd7, hr7⟩
    have hRW7 := RW6.out.passed hr7 hrd7
    have ho := RW6.out.ord
    have hTM : TM w w7 sb rp wb qb l q (leftR true D) D Ar cr := ⟨hRW7, by have := boxed_rest QB6.out hr7 (by have := QM.out; omega); rw [HNT.out]; exact this, SL6.out.rest hr7 (fun i _ hi => .inr (.inr (.inl hi))), QM.out⟩
    have TM7 := Lib.hid hTM
    clear hrd7 hr7 hRW7 ho hTM RW6 QB6 SL6 HNX hcl
    have hal8 := below_alloc w7 (.cells #[.int .i64 0] 3)
    have hxt := Boxed.new w7 3 (.int .i64 0)
    obtain ⟨tb, etb⟩ : ∃ tb, w7.heap.size = tb := ⟨_, rfl⟩
    obtain ⟨w8, hw8⟩ : ∃ w8, w7.alloc (.cells #[.int .i64 0] 3) = w8 := ⟨_, rfl⟩
    rw [hw8] at hal8 hxt
    rw [etb] at hxt
    have TM8 := Lib.hid (TM7.out.later hal8)
    have XT := Lib.hid hxt
    have W8 := Lib.hid hw8
    have ETB := Lib.hid etb
    have QT : Hid (qb < tb) := Lib.hid (by have := TM7.out.bx.lt; omega)
    clear hal8 hxt hw8 etb TM7
    go_upto_block 3 with fail
    rw [W8.out, ETB.out]
    refine (wpIn_wide (n := 6)).1 ?_
    gi_wp2_with fail
    refine wpIn_loop_rounds 3 ?_
    rw [roundsIn_succ]
    have ct := XT.out.cell
    gi_wp2_with fail
    clear ct

    have hal9 := below_alloc w8 (.cells #[.int .i64 0] 3)
    have hxk := Boxed.new w8 3 (.int .i64 0)
    obtain ⟨kb, ekb⟩ : ∃ kb, w8.heap.size = kb := ⟨_, rfl⟩
    obtain ⟨w9, hw9⟩ : ∃ w9, w8.alloc (.cells #[.int .i64 0] 3) = w9 := ⟨_, rfl⟩
    rw [hw9] at hal9 hxk ⊢
    rw [ekb] at hxk ⊢
    have TM9 := Lib.hid (TM8.out.later hal9)
    have XT9 := Lib.hid (boxed_below XT.out hal9 XT.out.lt)
    have XK := Lib.hid hxk
    have QK : Hid (tb < kb) := Lib.hid (by have := XT.out.lt; omega)
    have EKB := Lib.hid ekb
    clear hal9 hxk hw9 ekb TM8 XT
    have hDl : (D.map (RTk.toD l)).length ≤ 9223372036854775807 := by
      have h1 := TM9.out.sl.1
      have h2 := TM9.out.sl.2.1
      omega
    have HDL := Lib.hid hDl
    clear hDl
    refine open_joined (gf := 54) (lb := #[.pointer (some ⟨qb, 0, none⟩)]) (by decide) rfl Try.ent54 (fun W => Rest (fun i => i = kb) w9 W ∧ Boxed W kb 3 (.int .i64 ((min 2 D.length : Nat) : Int)) ∧ W.heap[w9.heap.size]? = some (.deferred (some []))) (.exit 5) ?turn0 ?brk0 ?rest0
    case brk0 =>
      intro fr W h
      exact wpIn_exit (brk_of h)
    case turn0 =>
      intro W1 rr hrr hb1 hsz hR
      obtain ⟨fn, hrr⟩ := hrr
      obtain ⟨D2, hD⟩ : ∃ D2, w9.heap.size = D2 := ⟨_, rfl⟩
      rw [hD] at hrr hb1 hsz hR ⊢
      obtain ⟨lr, hlr⟩ : ∃ lr, D2 + 1 = lr := ⟨_, rfl⟩
      rw [hlr] at hR ⊢
      have hb1' : Below w9.heap.size w9 W1 := by rw [hD]; exact hb1
      have hkl := XK.out.lt
      have hkD : kb < D2 := by omega
      have hle : D2 < lr := by omega
      have TM1 := Lib.hid (TM9.out.later hb1')
      have XK1 := Lib.hid (boxed_below XK.out hb1' XK.out.lt)
      have XT1 := Lib.hid (boxed_below XT9.out hb1' XT9.out.lt)
      have HRR := Lib.hid hrr
      have HR := Lib.hid hR
      have HB1 := Lib.hid hb1'
      have HKD := Lib.hid hkD
      have HLE := Lib.hid hle
      have HD := Lib.hid hD
      clear hrr hb1 hsz hR hD hlr hb1' hkl hkD hle TM9 XK XT9
      have hG : ∀ (k : Nat) (W2 : World) (r : Loop), JL W1 kb lr k W2 → RecAt W2 lr D2 r → k = min 2 D.length → ∀ o, Rest (fun i => i = kb) w9 (W2.putObj lr o) ∧ Boxed (W2.putObj lr o) kb 3 (.int .i64 ((min 2 D.length : Nat) : Int)) ∧ (W2.putObj lr o).heap[D2]? = some (.deferred (some [])) := fun k W2 r h hr hk o => by
        have h1 := HKD.out
        have h2 := HLE.out
        have hp := h.put o (by omega)
        have hrest : Rest (fun i => i = kb) w9 (W2.putObj lr o) := (Rest.below HB1.out).trans hp.rest (fun i hi e => by
          rcases e with e | e
          · exact e
          · have := HD.out; omega)
        refine ⟨hrest, by rw [← hk]; exact hp.kbx, ?_⟩
        exact (World.putObj_heap_other (show D2 ≠ lr by omega)).trans hr.dfr
      have HG := Lib.hid hG
      clear hG
      refine (toks54_at 5 (by decide) lr qb cr (OwnS sb (sb + 1) rp wb (wb + 1)) Ar (D.map (RTk.toD l)) (fun pre W => JT W1 tb kb lr D2 (rr .ready none) 0 pre.length W) (fun pre W => RecAt W lr D2 (rr .done (some (.exit 5))) ∧ JL W1 kb lr 2 W ∧ pre.length = 2) (fun pre W W' h hb => h.later hb) HDL.out (fun pre W h => (TM1.out.fresh h.rest (fun i e => by
        have h1 := HKD.out
        have h2 := HLE.out
        have h3 := QK.out
        have h4 := QT.out
        rcases e with e | e <;> omega)).sl) ?hY W1 TM1.out.bx.cell ⟨Rest.refl _ _, XK1.out, HR.out, fun _ => by decide⟩).mono ?post0
      case post0 =>
        rintro e W2 ⟨hv, (hj | ⟨pre, hp, hr, hl2, hk⟩)⟩
        · have hg := hj.go rfl
          rw [List.length_map] at hg
          refine ⟨hv, .inl ⟨hj.rec_, HG.out _ _ _ hj.toL hj.rec_ (by rw [List.length_map]; omega)⟩⟩
        · have hle := hp.length_le
          rw [List.length_map] at hle
          exact ⟨hv, .inr ⟨hr, HG.out _ _ _ hl2 hr (by omega)⟩⟩
      case hY =>
        intro pre x W hj hpx
        obtain ⟨d, hd, rfl⟩ : ∃ d, D[pre.length]? = some d ∧ x = d.toD l := by
          obtain ⟨t, ht⟩ := hpx
          have h1 : (D.map (RTk.toD l))[pre.length]? = some x := by rw [← ht]; simp
          rw [List.getElem?_map] at h1
          cases h2 : D[pre.length]? with
          | none => rw [h2] at h1; cases h1
          | some d => rw [h2] at h1; exact ⟨d, rfl, (Option.some.inj h1).symm⟩
        have hdl := (List.getElem?_eq_some_iff.1 hd).1
        have JW := Lib.hid hj
        have HDD := Lib.hid hd
        have HDX := Lib.hid hdl
        clear hj hpx hd hdl
        have hal := below_alloc W (.cells #[.int .i64 ((d.k : Nat) : Int), .string (strL d.t), .int .i64 ((d.v : Nat) : Int), .int .i64 (((adv (l.take d.a) (1, 1)).1 : Nat) : Int), .int .i64 (((adv (l.take d.a) (1, 1)).2 : Nat) : Int)] 36)
        have hvb := tbox_new W (.int .i64 ((d.k : Nat) : Int)) (.string (strL d.t)) (.int .i64 ((d.v : Nat) : Int)) (.int .i64 (((adv (l.take d.a) (1, 1)).1 : Nat) : Int)) (.int .i64 (((adv (l.take d.a) (1, 1)).2 : Nat) : Int))
        obtain ⟨Q, hQ⟩ : ∃ Q, adv (l.take d.a) (1, 1) = Q := ⟨_, rfl⟩
        have hix : (d.toD l).agg = .agg #[.int .i64 ((d.k : Nat) : Int), .string (strL d.t), .int .i64 ((d.v : Nat) : Int), .int .i64 ((Q.1 : Nat) : Int), .int .i64 ((Q.2 : Nat) : Int)] := by rw [← hQ]; rfl
        rw [hix]
        rw [hQ] at hal hvb
        obtain ⟨vb, evb⟩ : ∃ vb, W.heap.size = vb := ⟨_, rfl⟩
        obtain ⟨Wa, hWa⟩ : ∃ Wa, W.alloc (.cells #[.int .i64 ((d.k : Nat) : Int), .string (strL d.t), .int .i64 ((d.v : Nat) : Int), .int .i64 ((Q.1 : Nat) : Int), .int .i64 ((Q.2 : Nat) : Int)] 36) = Wa := ⟨_, rfl⟩
        rw [hWa] at hal hvb
        rw [evb] at hvb
        have hvl : lr < vb := by have := (Array.getElem?_eq_some_iff.1 JW.out.rec_.rec_).1; omega
        have JA := Lib.hid (JW.out.later hal)
        have VB := Lib.hid hvb
        have WA := Lib.hid hWa
        have EVB := Lib.hid evb
        have HVL := Lib.hid hvl
        have HQQ := Lib.hid hQ
        clear hal hvb hQ hix evb hWa hvl
        refine boxed_round HRR.out JW.out.rec_ JA.out.rec_ rfl ?a10 ?asg0 ?body0
        case asg0 =>
          intro K hK
          have HK := Lib.hid hK
          clear hK
          gi_wp2_with fail
          rw [WA.out, EVB.out]
          exact HK.out
        case body0 =>
          intro W2 hW2
          have n1 : kb ≠ lr := by have := HKD.out; have := HLE.out; omega
          have n2 : lr ≠ D2 := by have := HLE.out; omega
          have n3 : kb ≠ D2 := by have := HKD.out; omega
          have hj2 : JT W1 tb kb lr D2 (rr .busy none) 0 pre.length W2 := by rw [hW2]; exact JA.out.put _ n1 n2
          have hv2 : TBox W2 vb (.int .i64 ((d.k : Nat) : Int)) (.string (strL d.t)) (.int .i64 ((d.v : Nat) : Int)) (.int .i64 ((Q.1 : Nat) : Int)) (.int .i64 ((Q.2 : Nat) : Int)) := by
            rw [hW2]
            exact ⟨(World.putObj_heap_other (show vb ≠ lr by have := HVL.out; omega)).trans VB.out.blk⟩
          have htm2 : TM w W2 sb rp wb qb l q (leftR true D) D Ar cr := TM1.out.fresh hj2.rest (fun i e => by
            have h1 := HKD.out
            have h2 := HLE.out
            have h3 := QK.out
            have h4 := QT.out
            rcases e with e | e <;> omega)
          have hxt2 : Boxed W2 tb 3 (.int .i64 0) := boxed_rest XT1.out hj2.rest (fun e => by have h1 := QK.out; have h2 := HKD.out; have h3 := HLE.out; rcases e with e | e <;> omega)
          obtain ⟨A3, c3, hwb3, hsl3⟩ := htm2.rw_.ref
          obtain ⟨g3, o3, rfl, _, hx3⟩ := hsl3.2.2 pre.length d HDD.out
          have z0 : W2.cell? ⟨g3, o3 + pre.length * 4, none⟩ = some (.int .i64 d.k) := hx3 0 _ rfl
          have z1 : W2.cell? ⟨g3, o3 + pre.length * 4 + 1, none⟩ = some (.string (strL d.t)) := hx3 1 _ rfl
          have z2 : W2.cell? ⟨g3, o3 + pre.length * 4 + 2, none⟩ = some (.int .i64 d.v) := hx3 2 _ rfl
          have z3 : W2.cell? ⟨g3, o3 + pre.length * 4 + 3, none⟩ = some (.int .i64 d.a) := hx3 3 _ rfl
          have y0 := hv2.c0
          have y1 := hv2.c1
          have y2 := hv2.c2
          have y3 := hv2.c3
          have y4 := hv2.c4
          have ck := hj2.kbx.cell
          have cw := hwb3.cell
          have cs := htm2.rw_.str.cell
          have HIS : ∀ wx, Hid (Calls Try.prog 12 #[.agg #[.int .i64 ((d.k : Nat) : Int), .string (strL d.t), .int .i64 ((d.v : Nat) : Int), .int .i64 ((Q.1 : Nat) : Int), .int .i64 ((Q.2 : Nat) : Int)], .agg #[.int .i64 ((d.k : Nat) : Int), .string (strL d.t), .int .i64 ((d.v : Nat) : Int), .int .i64 ((d.a : Nat) : Int)], .string (strL l)] wx fun e w' => e = .returned (.bool true) ∧ Below wx.heap.size wx w') := fun wx => Lib.hid (lawIs_same l d.a d.k d.v d.t wx (htm2.rw_.ats d (List.mem_of_getElem? HDD.out)) (by omega) Q HQQ.out)
          have J2 := Lib.hid hj2
          have T2 := Lib.hid htm2
          have X2 := Lib.hid hxt2
          have hlt2 : pre.length < D.length := HDX.out
          have hd1 : decide (((D.length : Nat) : Int) ≤ ((pre.length : Nat) : Int)) = false := decide_eq_false (by omega)
          have hd2 : decide (D.length ≤ pre.length) = false := decide_eq_false (by omega)
          have hl3 := hsl3.1
          have hl4 := hsl3.2.1
          clear hj2 hv2 htm2 hxt2 hwb3 hsl3 hx3 hW2
          gi_upto_region 61 with fail
          gi_cut [295] from 282 (fun s wx => s = .bool false ∧ Below W2.heap.size W2 wx)
          case first =>
            have k0 := cell_regrown z0
            have k1 := cell_regrown z1
            have k2 := cell_regrown z2
            have k3 := cell_regrown z3
            have m0 := cell_regrown y0
            have m1 := cell_regrown y1
            have m2 := cell_regrown y2
            have m3 := cell_regrown y3
            have m4 := cell_regrown y4
            have kk := cell_regrown ck
            have kw := cell_regrown cw
            have ks := cell_regrown cs
            refine region_below_round (F := Fence.wide) rfl (by kernel_rfl) (by kernel_rfl) (by kernel_rfl) ?_
            iterate 11 (gi_big_quiet_step (fail))
            refine BigFrame.wpQuietIn_want (fun _ _ _ _ => trivial) rfl (fun K hK => ?_)
            gi_big_quiet_op
            refine ⟨_, fun _ => CallsIn.regrown_of (callsIn_wide.2 (HIS _).out), hK _ ?_⟩
            clear hK K
            repeat (gi_big_quiet_step (fail))
            refine wpQuietIn_nil ?_
            rintro _ ⟨p, rfl⟩
            rename_i h1 h0
            refine h0 _ _ (Met.intro (h1 _ _ ?_))
            (repeat apply Exists.intro)
            refine ⟨?rel, rfl⟩
            case rel => exact ⟨rfl, below_regrown W2 p.d p.os⟩
          case rest =>
            obtain ⟨rfl, hbw⟩ := hcut
            have JC := Lib.hid (J2.out.later hbw)
            have XC := Lib.hid (boxed_below X2.out hbw X2.out.lt)
            clear z0 z1 z2 z3 y0 y1 y2 y3 y4 ck cw cs HIS hd1 hd2 J2 T2 X2 hbw
            have hkk : pre.length = 0 ∨ pre.length = 1 := by have := JC.out.go rfl; omega
            have ck := JC.out.kbx.cell
            have fk := JC.out.kbx.frozen
            have hpl : ((pre.length : Nat) : Int) ≤ 1 := by omega
            have HKK := Lib.hid hkk
            clear hkk
            gi_upto_region 64 with fail
            obtain ⟨k1, hk1⟩ : ∃ k1, pre.length + 1 = k1 := ⟨_, rfl⟩
            rw [show ((pre.length : Nat) : Int) + 1 = ((k1 : Nat) : Int) by omega]
            have hrs := (Rest.refl (fun i => i = kb) wc).setCell (S := fun i => i = kb) (p := ⟨kb, 0, none⟩) (fun _ => rfl) (.int .i64 ((k1 : Nat) : Int))
            have hxt3 := boxed_rest XC.out hrs (fun e => by have := QK.out; omega)
            have hkb3 := Boxed.set (.int .i64 ((k1 : Nat) : Int)) JC.out.kbx
            have hjl := JC.out.setL k1 n1 n3
            have hjt := JC.out.setK k1 n1 n3
            obtain ⟨w5', hw5'⟩ : ∃ w5', wc.setCell ⟨kb, 0, none⟩ (.int .i64 ((k1 : Nat) : Int)) = w5' := ⟨_, rfl⟩
            rw [hw5'] at hxt3 hkb3 hjl hjt ⊢
            have c26 := hxt3.cell
            have c27 := hkb3.cell
            have JLX := Lib.hid hjl
            have JTX := Lib.hid hjt
            have HK1 := Lib.hid hk1
            clear hw5' hrs hxt3 hkb3 hjl hjt ck fk hk1
            rcases HKK.out with hk | hk
            · have e1 : decide ((2 : Int) ≤ ((k1 : Nat) : Int)) = false := decide_eq_false (by have := HK1.out; omega)
              have e2 : decide (2 ≤ k1) = false := decide_eq_false (by have := HK1.out; omega)
              have hjt := Lib.hid (JTX.out (fun _ => by have := HK1.out; omega))
              have HK2 := Lib.hid hk
              clear hk
              gi_wp2_with fail
              have := hjt.out.put (rr .ready none) n1 n2
              rw [← HK1.out] at this
              exact ⟨hjt.out.rec_, this⟩
            · have e1 : decide ((2 : Int) ≤ ((k1 : Nat) : Int)) = true := decide_eq_true (by have := HK1.out; omega)
              have e2 : decide (2 ≤ k1) = true := decide_eq_true (by have := HK1.out; omega)
              have HK2 := Lib.hid hk
              clear hk
              gi_wp2_with fail
              refine ⟨JLX.out.1, JLX.out.1.put n2 _, ?_, HK2.out⟩
              have := JLX.out.2.put (.loop (rr .done (some (.exit 5)))) n1
              rwa [show k1 = 2 by have := HK1.out; have := HK2.out; omega] at this
    case rest0 =>
      rename_i Q9 K9 a9 K8 a8 K7 a7 K6 a6
      intro Wq hq
      have HQ := Lib.hid hq
      clear hq hh EKB
      revert hl hL bo hcL1 hcL2 w0 sb ESB HEND HW0 HB0 HA hi1 hi2 QQ w1 rp A c pb w2 EPB w3 ws A2 c2 wb w4 W4 EWB HE1 KK wr u12 u13 u14 u15 u16 u17 u18 u19 u20 u21 u22 u23 u24 u73 u74 u75 u76 u77 u78 u79 u80 u81 u82 u83 u84 u85 u86 u87 u88 u89 u90 u91 u92 u93 u94 u95 u96 u97 u98 u99 u100 u101 u102 u103 u104 u105 u106 u107 u108 u109 u110 u111 u112 u113 u114 u115 u116 u117 u118 u119 u120 u121 u122 u123 u124 u125 u126 u127 u128 u129 u130 u131 u132 u133 u134 u135 u136 u137 u138 u139 u140 u141 u142 u143 u144 u145 u146 u147 u148 u149 u150 u151 u152 u153 u154 u155 u156 u157 u158 u159 u160 u161 u162 u163 u164 u165 u166 u167 u168 u169 u170 u171 u172 u173 u174 u175 u176 u177 u178 u179 u180 u181 u182 u183 u184 u185 u186 u187 u188 u189 u190 u191 u192 u193 u194 u195 u196 u197 u198 u199 u200 u201 u202 u203 u204 u205 u206 u207 u208 u209 u210 u211 u212 u213 u214 u215 u216 u217 u218 u219 u220 u221 u222 u223 u224 u225 u226 u227 u228 u229 u230 u231 u232 u233 u234 u235 u236 u237 u238 u239 u240 u241 u242 u243 u244 u245 u246 u247 u248 u249 u250 u251 u252 u253 u254 u255 u256 u257 u258 u259 u260 u261 u262 u263 u264 u265 u266 u267 u268 u269 D hi hlt Ar cr nT hcm qb EQB HNT Q9 K9 a9 w6 QM tk e62 w7 tb w8 W8 ETB QT K8 a8 K7 a7 K6 a6 kb w9 TM9 XT9 XK QK HDL Wq HQ
      exact hG.out

end Go.Proofs.Ytgdjfifnnhfonaa
