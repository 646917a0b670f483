/- A round of the walk of TokenReads: behind the call. Conditions as before. -/
import Derived.Test.YtgdjfifnnhfonaaMd
namespace Go.Proofs.Ytgdjfifnnhfonaa
open Go.RowKit Go.Shelf
attribute [local go_sem] Oper.semAt_some
set_option maxRecDepth 100000 in
set_option maxHeartbeats 16000000 in
theorem reads_behind (l : List UInt8) (ao : Option Addr) (cL : Nat) (L : List TAct) (w : World) (q : Nat × Nat) : (readsSwitch l ao cL L w q).1.2.2.2.2.2 := by
  conv => whnf
  intro hl hL hcL1 hcL2 w0 sb ESB HEND HW0 HB0 hi1 hi2 QQ hh w1 rp A c pb w2 EPB w3 ws A2 c2 wb w4 W4 EWB HE1 KK aK wr u12 v13 u14 t15 t16 t17 t18 t19 t20 t21 t22 t23 u24 v73 v74 v75 v76 v77 v78 v79 v80 v81 v82 v83 v84 v85 v86 v87 v88 v89 v90 v91 v92 v93 v94 v95 v96 v97 v98 v99 v100 v101 v102 v103 v104 v105 v106 v107 v108 v109 v110 v111 v112 v113 v114 v115 v116 v117 v118 v119 v120 v121 v122 v123 v124 v125 v126 v127 v128 v129 v130 v131 v132 v133 v134 v135 v136 v137 v138 v139 v140 v141 v142 v143 v144 v145 v146 v147 v148 v149 v150 v151 v152 v153 v154 v155 v156 v157 v158 v159 v160 v161 v162 v163 v164 v165 v166 v167 v168 v169 v170 v171 v172 v173 v174 v175 v176 v177 v178 v179 v180 v181 v182 v183 v184 v185 v186 v187 v188 v189 v190 v191 v192 v193 v194 v195 v196 v197 v198 v199 v200 v201 v202 v203 v204 v205 v206 v207 v208 v209 v210 v211 v212 v213 v214 v215 v216 v217 v218 v219 v220 v221 v222 v223 v224 v225 v226 v227 v228 v229 v230 v231 v232 v233 v234 v235 v236 v237 v238 v239 v240 v241 v242 v243 v244 v245 v246 v247 v248 v249 v250 v251 v252 v253 v254 v255 v256 v257 v258 v259 v260 v261 v262 v263 v264 v265 v266 v267 v268 v269 i D hi hlt d hkd g o HA hc1 hst HD e50 kk hk5 H50 nb ENB MNB NS Q1 K1 a1 hDl t73 t74 t75 t76 t77 t78 t79 t80 t81 t82 t83 t84 t85 t86 t87 t88 t89 t90 t91 t92 t93 t94 t95 t96 t97 t98 t99 t100 t101 t102 t103 t104 t105 t106 t107 t108 t109 t110 t111 t112 t113 t114 t115 t116 t117 t118 t119 t120 t121 t122 t123 t124 t125 t126 t127 t128 t129 t130 t131 t132 t133 t134 t135 t136 t137 t138 t139 t140 t141 t142 t143 t144 t145 t146 t147 t148 t149 t150 t151 t152 t153 t154 t155 t156 t157 t158 t159 t160 t161 t162 t163 t164 t165 t166 t167 t168 t169 t170 t171 t172 t173 t174 t175 t176 t177 t178 t179 t180 t181 t182 t183 t184 t185 t186 t187 t188 t189 t190 t191 t192 t193 t194 t195 t196 t197 t198 t199 t200 t201 t202 t203 t204 t205 t206 t207 t208 t209 t210 t211 t212 t213 t214 t215 t216 t217 t218 t219 t220 t221 t222 t223 t224 t225 t226 t227 t228 t229 t230 t231 t232 t233 t234 t235 t236 t237 t238 t239 t240 t241 t242 t243 t244 t245 t246 t247 t248 t249 t250 t251 t252 t253 t254 t255 t256 t257 t258 t259 t260 t261 t262 t263 t264 t265 t266 t267 t268 t269 w7 code CODE K6 a6 u16 u17 u18 u19 u20 u21 u22 u23 u73 u74 u75 u76 u77 u78 u79 u80 u81 u82 u83 u84 u85 u86 u87 u88 u89 u90 u91 u92 u93 u94 u95 u96 u97 u98 u99 u100 u101 u102 u103 u104 u105 u106 u107 u108 u109 u110 u111 u112 u113 u114 u115 u116 u117 u118 u119 u120 u121 u122 u123 u124 u125 u126 u127 u128 u129 u130 u131 u132 u133 u134 u135 u136 u137 u138 u139 u140 u141 u142 u143 u144 u145 u146 u147 u148 u149 u150 u151 u152 u153 u154 u155 u156 u157 u158 u159 u160 u161 u162 u163 u164 u165 u166 u167 u168 u169 u170 u171 u172 u173 u174 u175 u176 u177 u178 u179 u180 u181 u182 u183 u184 u185 u186 u187 u188 u189 u190 u191 u192 u193 u194 u195 u196 u197 u198 u199 u200 u201 u202 u203 u204 u205 u206 u207 u208 u209 u210 u211 u212 u213 u214 u215 u216 u217 u218 u219 u220 u221 u222 u223 u224 u225 u226 u227 u228 u229 u230 u231 u232 u233 u234 u235 u236 u237 u238 u239 u240 u241 u242 u243 u244 u245 u246 u247 u248 u249 u250 u251 u252 u253 u254 u255 u256 u257 u258 u259 u260 u261 u262 u263 u264 u265 u266 u267 u268 u269 w12 RW12
  have hkd : ((((kk : Nat) : Int) != 4) = true ∧ ¬ kk = 4) ∨ ((((kk : Nat) : Int) != 4) = false ∧ kk = 4) := by
    by_cases h : kk = 4
    · exact .inr ⟨by simp; omega, h⟩
    · exact .inl ⟨by simp; omega, h⟩
  have hcd : (((code : Nat) : Int) == 0) = decide (code = 0) := by
    by_cases h : code = 0
    · subst h; rfl
    · rw [decide_eq_false h]; simp; omega
  go_upto_region 44 with fail
  go_cut [252] from 73 to 269 (fun x252 wx => x252 = .bool (decide (code = 0) && decide (¬ kk = 4)) ∧ wx = w12)
  case first =>
    clear RW12 CODE
    by_cases hc0 : code = 0
    · subst hc0
      rcases hkd with ⟨h4, h4'⟩ | ⟨h4, h4'⟩
      · go_wp2_with fail
        go_meet
        case rel => exact ⟨by simp [h4'], rfl⟩
      · subst h4'
        as_aux_lemma =>
          go_wp2_with fail
          go_meet
          case rel => exact ⟨by simp, rfl⟩
    · have hc1 : (((code : Nat) : Int) == 0) = false := by rw [hcd]; exact decide_eq_false hc0
      clear hcd hkd
      as_aux_lemma =>
        go_wp2_with fail
        go_meet
        case rel => exact ⟨by simp [hc0], rfl⟩
  case rest =>
  obtain ⟨rfl, hwc⟩ := hcut
  rw [hwc]
  clear hwc hkd hcd
  go_upto_if 252 with fail
  go_cut [15] from 73 to 269 (fun x15 wx => x15 = .bool true ∧ ∃ D1 : List RTk, RW w wx sb (sb + 1) rp wb (wb + 1) l q D1 D1)
  case first =>
    cases D with
    | nil =>
      obtain rfl : code = 9 := CODE.out.symm
      have RW13 : Hid (RW w w12 sb (sb + 1) rp wb (wb + 1) l q [] []) := Lib.hid (by have := RW12.out; split at this <;> exact this)
      clear RW12
      as_aux_lemma =>
        go_wp2_with fail
        go_meet
        case rel => exact ⟨rfl, [], RW13.out⟩
    | cons d0 D' =>
      by_cases hk4 : kk = 4
      · subst hk4
        obtain rfl : code = 0 := CODE.out.symm
        have RW13 : Hid (RW w w12 sb (sb + 1) rp wb (wb + 1) l q (d0 :: D') (d0 :: D')) := Lib.hid (by have := RW12.out; rwa [if_pos rfl] at this)
        clear RW12
        as_aux_lemma =>
          go_wp2_with fail
          go_meet
          case rel => exact ⟨rfl, _, RW13.out⟩
      · have hkn : (((kk : Nat) : Int) != 4) = true := by simp; omega
        have hrw := RW12.out
        rw [if_neg hk4] at hrw
        clear RW12
        cases hwd : wantD kk d.t ((d0 :: D').map (RTk.toD l)) with
        | false =>
          obtain rfl : code = 6 := by
            rw [← CODE.out, hwd]; rfl
          rw [hwd] at hrw
          have RW13 : Hid (RW w w12 sb (sb + 1) rp wb (wb + 1) l q (d0 :: D') (d0 :: D')) := Lib.hid hrw
          clear hrw hwd CODE
          as_aux_lemma =>
            go_wp2_with fail
            go_meet
            case rel => exact ⟨rfl, _, RW13.out⟩
        | true =>
          obtain rfl : code = 0 := by
            rw [← CODE.out, hwd]; rfl
          rw [hwd] at hrw
          have RW13 : Hid (RW w w12 sb (sb + 1) rp wb (wb + 1) l q D' (d0 :: D')) := Lib.hid hrw
          clear hrw hwd CODE
          obtain ⟨A6, c6, hwb6, hsl6⟩ := RW13.out.ref
          have hlen6 := hsl6.1
          have hcap6 := hsl6.2.1
          have SL6 := Lib.hid hsl6
          obtain ⟨g6, o6, rfl, _, _⟩ := hsl6.head
          have p0 : w12.cell? ⟨wb, 0, none⟩ = some (.slice (some ⟨g6, o6, none⟩) (D'.length + 1) c6) := hwb6.cell
          have pf := hwb6.frozen
          simp only [List.length_cons] at hlen6
          clear hwb6 hsl6
          by_cases hc1 : c6 = 1
          · subst hc1
            have hDn := (SL6.out.last (some ⟨g6, o6, none⟩)).1
            subst hDn
            have RW14 := Lib.hid (RW13.out.moved (SL6.out.last (some ⟨g6, o6, none⟩)).2)
            go_wp2_with fail
            all_goals first | (rename_i hx; rcases hx with hx | hx <;> first | exact absurd trivial hx | exact absurd hk4 hx) | skip
            go_meet
            case rel => exact ⟨rfl, _, RW14.out⟩
          · have RW14 := Lib.hid (RW13.out.moved SL6.out.tail)
            go_wp2_with fail
            all_goals first | (rename_i hx; rcases hx with hx | hx <;> first | exact absurd trivial hx | exact absurd hk4 hx) | skip
            go_meet
            case rel => exact ⟨rfl, _, RW14.out⟩
  case rest =>
    obtain ⟨rfl, D1, hrw⟩ := hcut
    obtain ⟨w14, hw14⟩ : ∃ w14, wc = w14 := ⟨_, rfl⟩
    rw [hw14] at hrw ⊢
    clear hw14
    have RW14 := Lib.hid hrw
    clear hrw RW12
    have sc14 := RW14.out.str.cell
    obtain ⟨A6, c6, hwb6, hsl6⟩ := RW14.out.ref
    have hlen6 := hsl6.1
    have hcap6 := hsl6.2.1
    have cw6 := hwb6.cell
    have SL6 := Lib.hid hsl6
    clear hwb6 hsl6
    go_upto_if 259 with fail
    go_cut [24] from 73 to 269 (fun x24 wx => ∃ a : Nat, x24 = .int .i64 ((a : Nat) : Int) ∧ a ≤ l.length ∧ adv (l.take a) (1, 1) = placeP q (D1.map (RTk.toD l)) ∧ RW w wx sb (sb + 1) rp wb (wb + 1) l q D1 D1)
    case first =>
      cases D1 with
      | nil =>
        as_aux_lemma =>
          go_wp2_with fail
          go_meet
          case rel => exact ⟨l.length, rfl, Nat.le_refl _, by rw [List.take_length]; exact HEND.out.symm, RW14.out⟩
      | cons d1 D2 =>
        obtain ⟨g6, o6, rfl, _, hx6⟩ := SL6.out.head
        have z3 : w14.cell? ⟨g6, o6 + 3, none⟩ = some (.int .i64 d1.a) := hx6 3 _ rfl
        simp only [List.length_cons] at hlen6
        have hgt : 0 < (d1 :: D2).length := Nat.succ_pos _
        have hgu : decide ((0 : Int) < (((d1 :: D2).length : Nat) : Int)) = true := decide_eq_true (by simp; try omega)
        have hmx : D2.length + 1 ≤ 9223372036854775807 := by omega
        clear hx6
        as_aux_lemma =>
          go_wp2_with fail
          go_meet
          case rel => exact ⟨d1.a, rfl, RW14.out.ats d1 List.mem_cons_self, rfl, RW14.out⟩
    case rest =>
      obtain ⟨a, rfl, ha, hadv, hrw⟩ := hcut
      obtain ⟨w15, hw15⟩ : ∃ w15, wc = w15 := ⟨_, rfl⟩
      rw [hw15] at hrw ⊢
      clear hw15
      have RW15 := Lib.hid hrw
      clear hrw RW14 sc14 cw6 SL6
      obtain ⟨Q, hQ⟩ : ∃ Q, placeP q (D1.map (RTk.toD l)) = Q := ⟨_, rfl⟩
      have HAT : ∀ wx, Hid (Calls Try.prog 11 #[.string (strL l), .int .i64 ((a : Nat) : Int)] wx fun e w' => e = .returned (.agg #[.int .i64 ((Q.1 : Nat) : Int), .int .i64 ((Q.2 : Nat) : Int)]) ∧ Below wx.heap.size wx w') := fun wx => Lib.hid (by
        have := lawAt_any l a wx ha (by omega)
        rw [hadv, hQ] at this
        exact this)
      have HPL : ∀ wx, Below w15.heap.size w15 wx → Hid (Calls Try.prog 24 #[.pointer (some ⟨rp, 0, none⟩)] wx fun e w' => e = .returned (.agg #[.int .i64 ((Q.1 : Nat) : Int), .int .i64 ((Q.2 : Nat) : Int)]) ∧ Below wx.heap.size wx w') := fun wx hb => Lib.hid (by
        have := rd_place (OwnS sb (sb + 1) rp wb (wb + 1)) rp q (D1.map (RTk.toD l)) wx (RW15.out.rd.below hb) HE1.out.1
        rw [hQ] at this
        exact this)
      have BX := Lib.hid (Below.refl w15.heap.size w15)
      have KEEP : Hid (∀ wx, Below w15.heap.size w15 wx → wx.cell? ⟨sb, 0, none⟩ = some (.string (strL l))) := Lib.hid (fun wx hb => (boxed_below RW15.out.str hb RW15.out.str.lt).cell)
      have sc15 := RW15.out.str.cell
      clear hadv hQ ha
      go_upto_region 49 with fail
      refine wp_region_noPanic ?_
      go_region_held (fun w' => w'.cell? ⟨sb, 0, none⟩ = some (.string (strL l))) (first | exact KEEP.out _ BX.out.drew | exact KEEP.out _ HB5.out | exact KEEP.out _ HB6.out) (first | (go_at_call 24; refine ((HPL _ (by first | exact HB6.out | exact BX.out.drew)).out).mono ?_; rintro e w5 ⟨rfl, hb5⟩; have HB5 := Lib.hid (by first | exact HB6.out.trans (hb5.mono HB6.out.size) | exact BX.out.drew.trans (hb5.mono BX.out.size) : Below w15.heap.size w15 w5); clear hb5) | (go_at_call 11; refine ((HAT _).out).mono ?_; rintro e w6 ⟨rfl, hb6⟩; have HB6 := Lib.hid (by first | exact HB5.out.trans (hb6.mono HB5.out.size) | exact BX.out.drew.trans (hb6.mono BX.out.size) : Below w15.heap.size w15 w6); clear hb6))
      all_goals
        clear sc15
        refine NoPanic.normal ?_
        go_wp2_with fail
        go_roundw
        case rel => first | exact ⟨i + 1, D1, hlt, by go_num, RW15.out.later HB6.out⟩ | exact ⟨i + 1, D1, hlt, by go_num, RW15.out.later HB5.out⟩
        case measure => simp [intOf]; omega
end Go.Proofs.Ytgdjfifnnhfonaa
