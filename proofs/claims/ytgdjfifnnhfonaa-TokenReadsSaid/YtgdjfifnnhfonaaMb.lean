/- A round of the walk of TokenReads: up to what the call wants. Conditions as before. -/
import Derived.Test.YtgdjfifnnhfonaaMa
namespace Go.Proofs.Ytgdjfifnnhfonaa
open Go.RowKit Go.Shelf
attribute [local go_sem] Oper.semAt_some
set_option maxRecDepth 100000 in
set_option maxHeartbeats 16000000 in
def readsRound (l : List UInt8) (ao : Option Addr) (cL : Nat) (L : List TAct) (w : World) (q : Nat × Nat) : { G : Prop × Prop × Prop // Later G.1 → Later G.2.1 → Later G.2.2 → (readsHead l ao cL L w q).1 } := by
  refine ⟨⟨?G1, ?G2, ?G3⟩, fun hG1 hG2 hG3 => ?P⟩
  case P =>
    conv => whnf
    intro hl hL bo hcL1 hcL2 w0 sb ESB HEND HW0 HB0 HA hi1 hi2 QQ hh w1 rp A c pb w2 EPB w3 ws A2 c2 wb w4 W4 EWB HE1 KK aK wr u12 u13 u14 u15 u16 u17 u18 u19 u20 u21 u22 u23 u24 u73 u74 u75 u76 u77 u78 u79 u80 u81 u82 u83 u84 u85 u86 u87 u88 u89 u90 u91 u92 u93 u94 u95 u96 u97 u98 u99 u100 u101 u102 u103 u104 u105 u106 u107 u108 u109 u110 u111 u112 u113 u114 u115 u116 u117 u118 u119 u120 u121 u122 u123 u124 u125 u126 u127 u128 u129 u130 u131 u132 u133 u134 u135 u136 u137 u138 u139 u140 u141 u142 u143 u144 u145 u146 u147 u148 u149 u150 u151 u152 u153 u154 u155 u156 u157 u158 u159 u160 u161 u162 u163 u164 u165 u166 u167 u168 u169 u170 u171 u172 u173 u174 u175 u176 u177 u178 u179 u180 u181 u182 u183 u184 u185 u186 u187 u188 u189 u190 u191 u192 u193 u194 u195 u196 u197 u198 u199 u200 u201 u202 u203 u204 u205 u206 u207 u208 u209 u210 u211 u212 u213 u214 u215 u216 u217 u218 u219 u220 u221 u222 u223 u224 u225 u226 u227 u228 u229 u230 u231 u232 u233 u234 u235 u236 u237 u238 u239 u240 u241 u242 u243 u244 u245 u246 u247 u248 u249 u250 u251 u252 u253 u254 u255 u256 u257 u258 u259 u260 u261 u262 u263 u264 u265 u266 u267 u268 u269 i D hi RWr
    by_cases hlt : i < L.length
    · obtain ⟨d, hd⟩ : ∃ d, L[i]? = some d := ⟨_, List.getElem?_eq_getElem hlt⟩
      obtain ⟨hkd, g, o, rfl, hc0, hc1⟩ := HA.out wr RWr.out.below i d hd
      have hst : (strL d.t).size = d.t.length := strL_size d.t
      have HD := Lib.hid hd
      clear hd
      by_cases h50 : 50 < d.t.length
      · have e50 : decide ((50 : Int) < ((d.t.length : Nat) : Int)) = true := decide_eq_true (by omega)
        go_wp2_with fail
        refine (known_any _).mono ?_
        rintro e w6 ⟨rfl, hb6⟩
        have RW6 := Lib.hid (RWr.out.later hb6)
        have cr := RW6.out.res.cell
        have fr := RW6.out.res.frozen
        obtain ⟨ha1, ha2⟩ := RW6.out.answer true
        have AN := Lib.hid ha2
        have ca := ha1.cell
        clear hb6 ha1 ha2
        go_wp2_with fail
        exact ⟨.bool true, by simp [results, Try.results5, go_sem, ca], rfl, AN.out⟩
      · have e50 : decide ((50 : Int) < ((d.t.length : Nat) : Int)) = false := decide_eq_false (by omega)
        obtain ⟨kk, hkk⟩ : ∃ kk, d.kd % 5 = kk := ⟨_, rfl⟩
        have hm1 : ((d.kd : Nat) : Int) % 5 = ((kk : Nat) : Int) := by rw [← hkk]; rfl
        have hm2 : Int.tmod ((d.kd : Nat) : Int) 5 = ((kk : Nat) : Int) := by rw [← hkk]; rfl
        have hk5 : kk < 5 := by omega
        have H50 := Lib.hid h50
        have hal := below_alloc wr (.cells #[.int .i64 0, .string ⟨#[]⟩, .int .i64 0, .int .i64 0] 38)
        have hnb := qbox_new wr (.int .i64 0) (.string ⟨#[]⟩) (.int .i64 0) (.int .i64 0)
        obtain ⟨nb, enb⟩ : ∃ nb, wr.heap.size = nb := ⟨_, rfl⟩
        have hmnb : wb + 1 ≤ nb := by have := RWr.out.size; omega
        obtain ⟨w5, hw5⟩ : ∃ w5, wr.alloc (.cells #[.int .i64 0, .string ⟨#[]⟩, .int .i64 0, .int .i64 0] 38) = w5 := ⟨_, rfl⟩
        rw [hw5] at hal hnb
        rw [enb] at hnb
        have RW5 := Lib.hid (RWr.out.later hal)
        have NB5 := Lib.hid hnb
        have W5 := Lib.hid hw5
        have ENB := Lib.hid enb
        have MNB := Lib.hid hmnb
        have hNS : ∀ x, x = nb → wb + 1 ≤ x := fun x hx => by omega
        have NS := Lib.hid hNS
        clear hkk hal hnb hw5 enb hmnb RWr h50 hNS
        go_upto_region 19 with fail
        rw [W5.out, ENB.out]
        clear hm1 hm2 hc0
        obtain ⟨A5, c5, hwb5, hsl5⟩ := RW5.out.ref
        have cw5 := hwb5.cell
        have hcl5 := hsl5.1
        have hcm5 := hsl5.2.1
        have SL5 := Lib.hid hsl5
        clear hwb5 hsl5
        have hDl : D.length ≤ 9223372036854775807 := by omega
        go_upto_if 96 with fail
        go_cut [13] from 73 to 269 (fun x13 wx => x13 = .int .i64 (codeP (wantD kk d.t (D.map (RTk.toD l))) (D.map (RTk.toD l))) ∧ RW w wx sb (sb + 1) rp wb (wb + 1) l q D D ∧ NB wx nb (nextV D))
        case first =>
          rename_i Q1 K1 a1 K2 a2 J3 K3 a3 a4
          revert hl hL hcL1 hcL2 w0 sb ESB HEND HW0 HB0 hi1 hi2 QQ hh w1 rp A c pb w2 EPB w3 ws A2 c2 wb w4 W4 EWB HE1 KK aK wr u12 u13 u14 u15 u16 u17 u18 u19 u20 u21 u22 u23 u24 u73 u74 u75 u76 u77 u78 u79 u80 u81 u82 u83 u84 u85 u86 u87 u88 u89 u90 u91 u92 u93 u94 u95 u96 u97 u98 u99 u100 u101 u102 u103 u104 u105 u106 u107 u108 u109 u110 u111 u112 u113 u114 u115 u116 u117 u118 u119 u120 u121 u122 u123 u124 u125 u126 u127 u128 u129 u130 u131 u132 u133 u134 u135 u136 u137 u138 u139 u140 u141 u142 u143 u144 u145 u146 u147 u148 u149 u150 u151 u152 u153 u154 u155 u156 u157 u158 u159 u160 u161 u162 u163 u164 u165 u166 u167 u168 u169 u170 u171 u172 u173 u174 u175 u176 u177 u178 u179 u180 u181 u182 u183 u184 u185 u186 u187 u188 u189 u190 u191 u192 u193 u194 u195 u196 u197 u198 u199 u200 u201 u202 u203 u204 u205 u206 u207 u208 u209 u210 u211 u212 u213 u214 u215 u216 u217 u218 u219 u220 u221 u222 u223 u224 u225 u226 u227 u228 u229 u230 u231 u232 u233 u234 u235 u236 u237 u238 u239 u240 u241 u242 u243 u244 u245 u246 u247 u248 u249 u250 u251 u252 u253 u254 u255 u256 u257 u258 u259 u260 u261 u262 u263 u264 u265 u266 u267 u268 u269 i D hi hlt d hkd g o HA hc1 hst HD e50 kk hk5 H50 nb w5 RW5 NB5 W5 ENB MNB NS Q1 K1 a1 K2 a2 A5 c5 cw5 hcl5 hcm5 SL5 hDl J3 K3 a3 a4
          exact hG1.out
        case rest =>
          rename_i v13 v73 v74 v75 v76 v77 v78 v79 v80 v81 v82 v83 v84 v85 v86 v87 v88 v89 v90 v91 v92 v93 v94 v95 v96 v97 v98 v99 v100 v101 v102 v103 v104 v105 v106 v107 v108 v109 v110 v111 v112 v113 v114 v115 v116 v117 v118 v119 v120 v121 v122 v123 v124 v125 v126 v127 v128 v129 v130 v131 v132 v133 v134 v135 v136 v137 v138 v139 v140 v141 v142 v143 v144 v145 v146 v147 v148 v149 v150 v151 v152 v153 v154 v155 v156 v157 v158 v159 v160 v161 v162 v163 v164 v165 v166 v167 v168 v169 v170 v171 v172 v173 v174 v175 v176 v177 v178 v179 v180 v181 v182 v183 v184 v185 v186 v187 v188 v189 v190 v191 v192 v193 v194 v195 v196 v197 v198 v199 v200 v201 v202 v203 v204 v205 v206 v207 v208 v209 v210 v211 v212 v213 v214 v215 v216 v217 v218 v219 v220 v221 v222 v223 v224 v225 v226 v227 v228 v229 v230 v231 v232 v233 v234 v235 v236 v237 v238 v239 v240 v241 v242 v243 v244 v245 v246 v247 v248 v249 v250 v251 v252 v253 v254 v255 v256 v257 v258 v259 v260 v261 v262 v263 v264 v265 v266 v267 v268 v269 Q1 K1 a1 K2 a2
          obtain ⟨rfl, hrw, hnb⟩ := hcut
          obtain ⟨w7, hw7⟩ : ∃ w7, wc = w7 := ⟨_, rfl⟩
          rw [hw7] at hrw hnb ⊢
          clear hw7
          have RW7 := Lib.hid hrw
          have NB7 := Lib.hid hnb
          clear hrw hnb RW5 NB5 SL5 W5 hcl5 hcm5 cw5
          obtain ⟨code, hcode⟩ : ∃ code, codeP (wantD kk d.t (D.map (RTk.toD l))) (D.map (RTk.toD l)) = code := ⟨_, rfl⟩
          rw [hcode]
          have CODE := Lib.hid hcode
          clear hcode
          revert hl hL hcL1 hcL2 w0 sb ESB HEND HW0 HB0 hi1 hi2 QQ hh w1 rp A c pb w2 EPB w3 ws A2 c2 wb w4 W4 EWB HE1 KK aK wr u12 v13 u14 u15 u16 u17 u18 u19 u20 u21 u22 u23 u24 v73 v74 v75 v76 v77 v78 v79 v80 v81 v82 v83 v84 v85 v86 v87 v88 v89 v90 v91 v92 v93 v94 v95 v96 v97 v98 v99 v100 v101 v102 v103 v104 v105 v106 v107 v108 v109 v110 v111 v112 v113 v114 v115 v116 v117 v118 v119 v120 v121 v122 v123 v124 v125 v126 v127 v128 v129 v130 v131 v132 v133 v134 v135 v136 v137 v138 v139 v140 v141 v142 v143 v144 v145 v146 v147 v148 v149 v150 v151 v152 v153 v154 v155 v156 v157 v158 v159 v160 v161 v162 v163 v164 v165 v166 v167 v168 v169 v170 v171 v172 v173 v174 v175 v176 v177 v178 v179 v180 v181 v182 v183 v184 v185 v186 v187 v188 v189 v190 v191 v192 v193 v194 v195 v196 v197 v198 v199 v200 v201 v202 v203 v204 v205 v206 v207 v208 v209 v210 v211 v212 v213 v214 v215 v216 v217 v218 v219 v220 v221 v222 v223 v224 v225 v226 v227 v228 v229 v230 v231 v232 v233 v234 v235 v236 v237 v238 v239 v240 v241 v242 v243 v244 v245 v246 v247 v248 v249 v250 v251 v252 v253 v254 v255 v256 v257 v258 v259 v260 v261 v262 v263 v264 v265 v266 v267 v268 v269 i D hi hlt d hkd g o HA hc1 hst HD e50 kk hk5 H50 nb ENB MNB NS Q1 K1 a1 K2 a2 hDl u73 u74 u75 u76 u77 u78 u79 u80 u81 u82 u83 u84 u85 u86 u87 u88 u89 u90 u91 u92 u93 u94 u95 u96 u97 u98 u99 u100 u101 u102 u103 u104 u105 u106 u107 u108 u109 u110 u111 u112 u113 u114 u115 u116 u117 u118 u119 u120 u121 u122 u123 u124 u125 u126 u127 u128 u129 u130 u131 u132 u133 u134 u135 u136 u137 u138 u139 u140 u141 u142 u143 u144 u145 u146 u147 u148 u149 u150 u151 u152 u153 u154 u155 u156 u157 u158 u159 u160 u161 u162 u163 u164 u165 u166 u167 u168 u169 u170 u171 u172 u173 u174 u175 u176 u177 u178 u179 u180 u181 u182 u183 u184 u185 u186 u187 u188 u189 u190 u191 u192 u193 u194 u195 u196 u197 u198 u199 u200 u201 u202 u203 u204 u205 u206 u207 u208 u209 u210 u211 u212 u213 u214 u215 u216 u217 u218 u219 u220 u221 u222 u223 u224 u225 u226 u227 u228 u229 u230 u231 u232 u233 u234 u235 u236 u237 u238 u239 u240 u241 u242 u243 u244 u245 u246 u247 u248 u249 u250 u251 u252 u253 u254 u255 u256 u257 u258 u259 u260 u261 u262 u263 u264 u265 u266 u267 u268 u269 w7 RW7 NB7 code CODE
          exact hG2.out
    · revert hl hL bo hcL1 hcL2 w0 sb ESB HEND HW0 HB0 HA hi1 hi2 QQ hh w1 rp A c pb w2 EPB w3 ws A2 c2 wb w4 W4 EWB HE1 KK aK wr u12 u13 u14 u15 u16 u17 u18 u19 u20 u21 u22 u23 u24 u73 u74 u75 u76 u77 u78 u79 u80 u81 u82 u83 u84 u85 u86 u87 u88 u89 u90 u91 u92 u93 u94 u95 u96 u97 u98 u99 u100 u101 u102 u103 u104 u105 u106 u107 u108 u109 u110 u111 u112 u113 u114 u115 u116 u117 u118 u119 u120 u121 u122 u123 u124 u125 u126 u127 u128 u129 u130 u131 u132 u133 u134 u135 u136 u137 u138 u139 u140 u141 u142 u143 u144 u145 u146 u147 u148 u149 u150 u151 u152 u153 u154 u155 u156 u157 u158 u159 u160 u161 u162 u163 u164 u165 u166 u167 u168 u169 u170 u171 u172 u173 u174 u175 u176 u177 u178 u179 u180 u181 u182 u183 u184 u185 u186 u187 u188 u189 u190 u191 u192 u193 u194 u195 u196 u197 u198 u199 u200 u201 u202 u203 u204 u205 u206 u207 u208 u209 u210 u211 u212 u213 u214 u215 u216 u217 u218 u219 u220 u221 u222 u223 u224 u225 u226 u227 u228 u229 u230 u231 u232 u233 u234 u235 u236 u237 u238 u239 u240 u241 u242 u243 u244 u245 u246 u247 u248 u249 u250 u251 u252 u253 u254 u255 u256 u257 u258 u259 u260 u261 u262 u263 u264 u265 u266 u267 u268 u269 i D hi RWr hlt
      exact hG3.out
end Go.Proofs.Ytgdjfifnnhfonaa
