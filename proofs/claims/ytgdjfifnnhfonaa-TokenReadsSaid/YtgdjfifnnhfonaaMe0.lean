/- A round of the walk of TokenReads: calls of the kinds 0 to 3. Conditions as before. -/
import Derived.Test.YtgdjfifnnhfonaaMd
namespace Go.Proofs.Ytgdjfifnnhfonaa
open Go.RowKit Go.Shelf
attribute [local go_sem] Oper.semAt_some
set_option maxRecDepth 100000 in
set_option maxHeartbeats 16000000 in
theorem reads_kind0 (l : List UInt8) (ao : Option Addr) (cL : Nat) (L : List TAct) (w : World) (q : Nat × Nat) : (readsSwitch l ao cL L w q).1.1 := by
  conv => whnf
  intro hl hL hcL1 hcL2 w0 sb ESB HEND HW0 HB0 hi1 hi2 QQ hh w1 rp A c pb w2 EPB w3 ws A2 c2 wb w4 W4 EWB HE1 KK aK wr u12 v13 u14 u15 u16 u17 u18 u19 u20 u21 u22 u23 u24 v73 v74 v75 v76 v77 v78 v79 v80 v81 v82 v83 v84 v85 v86 v87 v88 v89 v90 v91 v92 v93 v94 v95 v96 v97 v98 v99 v100 v101 v102 v103 v104 v105 v106 v107 v108 v109 v110 v111 v112 v113 v114 v115 v116 v117 v118 v119 v120 v121 v122 v123 v124 v125 v126 v127 v128 v129 v130 v131 v132 v133 v134 v135 v136 v137 v138 v139 v140 v141 v142 v143 v144 v145 v146 v147 v148 v149 v150 v151 v152 v153 v154 v155 v156 v157 v158 v159 v160 v161 v162 v163 v164 v165 v166 v167 v168 v169 v170 v171 v172 v173 v174 v175 v176 v177 v178 v179 v180 v181 v182 v183 v184 v185 v186 v187 v188 v189 v190 v191 v192 v193 v194 v195 v196 v197 v198 v199 v200 v201 v202 v203 v204 v205 v206 v207 v208 v209 v210 v211 v212 v213 v214 v215 v216 v217 v218 v219 v220 v221 v222 v223 v224 v225 v226 v227 v228 v229 v230 v231 v232 v233 v234 v235 v236 v237 v238 v239 v240 v241 v242 v243 v244 v245 v246 v247 v248 v249 v250 v251 v252 v253 v254 v255 v256 v257 v258 v259 v260 v261 v262 v263 v264 v265 v266 v267 v268 v269 i D hi hlt d hkd g o HA hc1 hst HD e50 H50 nb ENB MNB NS Q1 K1 a1 hDl u73 u74 u75 u76 u77 u78 u79 u80 u81 u82 u83 u84 u85 u86 u87 u88 u89 u90 u91 u92 u93 u94 u95 u96 u97 u98 u99 u100 u101 u102 u103 u104 u105 u106 u107 u108 u109 u110 u111 u112 u113 u114 u115 u116 u117 u118 u119 u120 u121 u122 u123 u124 u125 u126 u127 u128 u129 u130 u131 u132 u133 u134 u135 u136 u137 u138 u139 u140 u141 u142 u143 u144 u145 u146 u147 u148 u149 u150 u151 u152 u153 u154 u155 u156 u157 u158 u159 u160 u161 u162 u163 u164 u165 u166 u167 u168 u169 u170 u171 u172 u173 u174 u175 u176 u177 u178 u179 u180 u181 u182 u183 u184 u185 u186 u187 u188 u189 u190 u191 u192 u193 u194 u195 u196 u197 u198 u199 u200 u201 u202 u203 u204 u205 u206 u207 u208 u209 u210 u211 u212 u213 u214 u215 u216 u217 u218 u219 u220 u221 u222 u223 u224 u225 u226 u227 u228 u229 u230 u231 u232 u233 u234 u235 u236 u237 u238 u239 u240 u241 u242 u243 u244 u245 u246 u247 u248 u249 u250 u251 u252 u253 u254 u255 u256 u257 u258 u259 u260 u261 u262 u263 u264 u265 u266 u267 u268 u269 w7 RW7 NB7 code K6 a7 J5 K5 a5 CODE a6
  have eg19 := Try.ent19
  have eg20 := Try.ent20
  have hmf : ∀ (fn : Fn) (first cap : Array Value) (w : World), (Instr.makeFunc fn first cap).run Try.prog w = .ok (.func fn first cap) w := fun _ _ _ _ => rfl
  cases D with
  | nil =>
    obtain rfl : code = 9 := CODE.out.symm
    have hcall : Calls Try.prog 19 #[.pointer (some ⟨rp, 0, none⟩)] w7 fun e w' => e = .returned (.tuple #[.agg #[.int .i64 0, .string ⟨#[]⟩, .int .i64 0, .int .i64 0, .int .i64 0], .int .i64 9]) ∧ Reads (OwnS sb (sb + 1) rp wb (wb + 1)) rp q ([].map (RTk.toD l)) w' ∧ Rest (fun i => i = rp) w7 w' := rd_next (OwnS sb (sb + 1) rp wb (wb + 1)) rp q ([].map (RTk.toD l)) w7 RW7.out.rd HE1.out.1 (.inr (.inr (.inl rfl))) (fun i hi => .inr (.inr (.inr (.inr (Nat.le_trans RW7.out.size hi)))))
    have HN := Lib.hid hcall
    clear hcall
    go_wp2_with fail
    refine HN.out.mono ?_
    rintro e w9 ⟨rfl, hrd, hr⟩
    have RW9 := Lib.hid (RW7.out.passed hr hrd)
    have NB9 := Lib.hid (NB7.out.rest hr (by have := MNB.out; have := RW7.out.ord; omega))
    clear hr hrd
    have hal9 := below_alloc w9 (.cells #[.int .i64 0, .string ⟨#[]⟩, .int .i64 0, .int .i64 0, .int .i64 0] 36)
    have hxb := tbox_new w9 (.int .i64 0) (.string ⟨#[]⟩) (.int .i64 0) (.int .i64 0) (.int .i64 0)
    obtain ⟨xb, exb⟩ : ∃ xb, w9.heap.size = xb := ⟨_, rfl⟩
    obtain ⟨w10, hw10⟩ : ∃ w10, w9.alloc (.cells #[.int .i64 0, .string ⟨#[]⟩, .int .i64 0, .int .i64 0, .int .i64 0] 36) = w10 := ⟨_, rfl⟩
    rw [hw10] at hal9 hxb
    rw [exb] at hxb
    have RW10 := Lib.hid (RW9.out.later hal9)
    have NB10 := Lib.hid (NB9.out.below hal9)
    have W10 := Lib.hid hw10
    have EXB := Lib.hid exb
    have x0 := hxb.c0
    have x1 := hxb.c1
    have x2 := hxb.c2
    have x3 := hxb.c3
    have x4 := hxb.c4
    have tt : True := trivial
    clear hal9 hxb hw10 exb HN
    go_upto_region 32 with fail
    rw [W10.out, EXB.out]
    go_wp2_with fail
    go_meet
    case rel => exact ⟨rfl, RW10.out, NB10.out⟩
  | cons d0 D' =>
    obtain rfl : code = 0 := CODE.out.symm
    have hcall : Calls Try.prog 19 #[.pointer (some ⟨rp, 0, none⟩)] w7 fun e w' => e = .returned (.tuple #[.agg #[.int .i64 ((d0.k : Nat) : Int), .string (strL d0.t), .int .i64 ((d0.v : Nat) : Int), .int .i64 (((adv (l.take d0.a) (1, 1)).1 : Nat) : Int), .int .i64 (((adv (l.take d0.a) (1, 1)).2 : Nat) : Int)], .int .i64 0]) ∧ Reads (OwnS sb (sb + 1) rp wb (wb + 1)) rp q (D'.map (RTk.toD l)) w' ∧ Rest (fun i => i = rp) w7 w' := rd_next (OwnS sb (sb + 1) rp wb (wb + 1)) rp q ((d0 :: D').map (RTk.toD l)) w7 RW7.out.rd HE1.out.1 (.inr (.inr (.inl rfl))) (fun i hi => .inr (.inr (.inr (.inr (Nat.le_trans RW7.out.size hi)))))
    obtain ⟨Q, hQ⟩ : ∃ Q, adv (l.take d0.a) (1, 1) = Q := ⟨_, rfl⟩
    rw [hQ] at hcall
    have HIS := fun wx => Lib.hid (lawIs_same l d0.a d0.k d0.v d0.t wx (RW7.out.ats d0 List.mem_cons_self) (by omega) Q hQ)
    have HN := Lib.hid hcall
    clear hcall hQ
    go_wp2_with fail
    refine HN.out.mono ?_
    rintro e w9 ⟨rfl, hrd, hr⟩
    have RW9 := Lib.hid (RW7.out.passed hr hrd)
    have NB9 := Lib.hid (NB7.out.rest hr (by have := MNB.out; have := RW7.out.ord; omega))
    clear hr hrd
    have hal9 := below_alloc w9 (.cells #[.int .i64 ((d0.k : Nat) : Int), .string (strL d0.t), .int .i64 ((d0.v : Nat) : Int), .int .i64 ((Q.1 : Nat) : Int), .int .i64 ((Q.2 : Nat) : Int)] 36)
    have hxb := tbox_new w9 (.int .i64 ((d0.k : Nat) : Int)) (.string (strL d0.t)) (.int .i64 ((d0.v : Nat) : Int)) (.int .i64 ((Q.1 : Nat) : Int)) (.int .i64 ((Q.2 : Nat) : Int))
    obtain ⟨xb, exb⟩ : ∃ xb, w9.heap.size = xb := ⟨_, rfl⟩
    obtain ⟨w10, hw10⟩ : ∃ w10, w9.alloc (.cells #[.int .i64 ((d0.k : Nat) : Int), .string (strL d0.t), .int .i64 ((d0.v : Nat) : Int), .int .i64 ((Q.1 : Nat) : Int), .int .i64 ((Q.2 : Nat) : Int)] 36) = w10 := ⟨_, rfl⟩
    rw [hw10] at hal9 hxb
    rw [exb] at hxb
    have RW10 := Lib.hid (RW9.out.later hal9)
    have NB10 := Lib.hid (NB9.out.below hal9)
    have W10 := Lib.hid hw10
    have EXB := Lib.hid exb
    have x0 := hxb.c0
    have x1 := hxb.c1
    have x2 := hxb.c2
    have x3 := hxb.c3
    have x4 := hxb.c4
    have n0 := NB10.out.c0
    have n1 := NB10.out.c1
    have n2 := NB10.out.c2
    have n3 := NB10.out.c3
    have sc := RW10.out.str.cell
    clear hal9 hxb hw10 exb HN
    go_upto_region 32 with fail
    rw [W10.out, EXB.out]
    go_wp2_with fail
    refine ((HIS _).out).mono ?_
    rintro e w11 ⟨rfl, hb11⟩
    have RW11 := Lib.hid (RW10.out.later hb11)
    have NB11 := Lib.hid (NB10.out.below hb11)
    clear hb11 x0 x1 x2 x3 x4 n0 n1 n2 n3 sc
    go_wp2_with fail
    go_meet
    case rel => exact ⟨rfl, RW11.out, NB11.out⟩
end Go.Proofs.Ytgdjfifnnhfonaa
namespace Go.Proofs.Ytgdjfifnnhfonaa
open Go.RowKit Go.Shelf
attribute [local go_sem] Oper.semAt_some
set_option maxRecDepth 100000 in
set_option maxHeartbeats 16000000 in
theorem reads_kind1 (l : List UInt8) (ao : Option Addr) (cL : Nat) (L : List TAct) (w : World) (q : Nat × Nat) : (readsSwitch l ao cL L w q).1.2.1 := by
  conv => whnf
  intro hl hL hcL1 hcL2 w0 sb ESB HEND HW0 HB0 hi1 hi2 QQ hh w1 rp A c pb w2 EPB w3 ws A2 c2 wb w4 W4 EWB HE1 KK aK wr u12 v13 u14 u15 u16 u17 u18 u19 u20 u21 u22 u23 u24 v73 v74 v75 v76 v77 v78 v79 v80 v81 v82 v83 v84 v85 v86 v87 v88 v89 v90 v91 v92 v93 v94 v95 v96 v97 v98 v99 v100 v101 v102 v103 v104 v105 v106 v107 v108 v109 v110 v111 v112 v113 v114 v115 v116 v117 v118 v119 v120 v121 v122 v123 v124 v125 v126 v127 v128 v129 v130 v131 v132 v133 v134 v135 v136 v137 v138 v139 v140 v141 v142 v143 v144 v145 v146 v147 v148 v149 v150 v151 v152 v153 v154 v155 v156 v157 v158 v159 v160 v161 v162 v163 v164 v165 v166 v167 v168 v169 v170 v171 v172 v173 v174 v175 v176 v177 v178 v179 v180 v181 v182 v183 v184 v185 v186 v187 v188 v189 v190 v191 v192 v193 v194 v195 v196 v197 v198 v199 v200 v201 v202 v203 v204 v205 v206 v207 v208 v209 v210 v211 v212 v213 v214 v215 v216 v217 v218 v219 v220 v221 v222 v223 v224 v225 v226 v227 v228 v229 v230 v231 v232 v233 v234 v235 v236 v237 v238 v239 v240 v241 v242 v243 v244 v245 v246 v247 v248 v249 v250 v251 v252 v253 v254 v255 v256 v257 v258 v259 v260 v261 v262 v263 v264 v265 v266 v267 v268 v269 i D hi hlt d hkd g o HA hc1 hst HD e50 H50 nb ENB MNB NS Q1 K1 a1 hDl u73 u74 u75 u76 u77 u78 u79 u80 u81 u82 u83 u84 u85 u86 u87 u88 u89 u90 u91 u92 u93 u94 u95 u96 u97 u98 u99 u100 u101 u102 u103 u104 u105 u106 u107 u108 u109 u110 u111 u112 u113 u114 u115 u116 u117 u118 u119 u120 u121 u122 u123 u124 u125 u126 u127 u128 u129 u130 u131 u132 u133 u134 u135 u136 u137 u138 u139 u140 u141 u142 u143 u144 u145 u146 u147 u148 u149 u150 u151 u152 u153 u154 u155 u156 u157 u158 u159 u160 u161 u162 u163 u164 u165 u166 u167 u168 u169 u170 u171 u172 u173 u174 u175 u176 u177 u178 u179 u180 u181 u182 u183 u184 u185 u186 u187 u188 u189 u190 u191 u192 u193 u194 u195 u196 u197 u198 u199 u200 u201 u202 u203 u204 u205 u206 u207 u208 u209 u210 u211 u212 u213 u214 u215 u216 u217 u218 u219 u220 u221 u222 u223 u224 u225 u226 u227 u228 u229 u230 u231 u232 u233 u234 u235 u236 u237 u238 u239 u240 u241 u242 u243 u244 u245 u246 u247 u248 u249 u250 u251 u252 u253 u254 u255 u256 u257 u258 u259 u260 u261 u262 u263 u264 u265 u266 u267 u268 u269 w7 RW7 NB7 code K6 a7 J5 K5 a5 CODE a6
  have eg19 := Try.ent19
  have eg20 := Try.ent20
  have hmf : ∀ (fn : Fn) (first cap : Array Value) (w : World), (Instr.makeFunc fn first cap).run Try.prog w = .ok (.func fn first cap) w := fun _ _ _ _ => rfl
  cases D with
  | nil =>
    obtain rfl : code = 9 := CODE.out.symm
    have hcall : Calls Try.prog 21 #[.pointer (some ⟨rp, 0, none⟩), .string (strL d.t)] w7 fun e w' => e = .returned (.int .i64 9) ∧ Reads (OwnS sb (sb + 1) rp wb (wb + 1)) rp q ([].map (RTk.toD l)) w' ∧ Rest (fun i => i = rp) w7 w' := rd_take (OwnS sb (sb + 1) rp wb (wb + 1)) rp q d.t true ([].map (RTk.toD l)) (fun dd DD hdd => by cases hdd) w7 RW7.out.rd HE1.out.1 (.inr (.inr (.inl rfl)))
    obtain ⟨gA, oA, hA1, _, hct⟩ := (HA.out w7 RW7.out.below i d HD.out).2
    simp only [Option.some.injEq, Addr.mk.injEq, and_true] at hA1
    obtain ⟨rfl, rfl⟩ := hA1
    have HN := Lib.hid hcall
    clear hcall
    go_wp2_with fail
    refine HN.out.mono ?_
    rintro e w9 ⟨rfl, hrd, hr⟩
    have RW9 := Lib.hid (RW7.out.passed hr hrd)
    have NB9 := Lib.hid (NB7.out.rest hr (by have := MNB.out; have := RW7.out.ord; omega))
    clear hr hrd HN
    go_wp2_with fail
    go_meet
    case rel => exact ⟨rfl, RW9.out, NB9.out⟩
  | cons d0 D' =>
    cases hbw : takeB d.t (d0.toD l) with
    | false =>
      have hwd : wantD 1 d.t ((d0 :: D').map (RTk.toD l)) = false := hbw
      obtain rfl : code = 6 := by
        rw [← CODE.out, hwd]; rfl
      have HWD := Lib.hid hwd
      have HBW := Lib.hid hbw
      clear hbw hwd
      have hcall : Calls Try.prog 21 #[.pointer (some ⟨rp, 0, none⟩), .string (strL d.t)] w7 fun e w' => e = .returned (.int .i64 6) ∧ Reads (OwnS sb (sb + 1) rp wb (wb + 1)) rp q ((d0 :: D').map (RTk.toD l)) w' ∧ Rest (fun i => i = rp) w7 w' := rd_take (OwnS sb (sb + 1) rp wb (wb + 1)) rp q d.t false ((d0 :: D').map (RTk.toD l)) (fun dd DD hdd => by
        simp only [List.map_cons, List.cons.injEq] at hdd
        rw [← hdd.1]; exact HBW.out) w7 RW7.out.rd HE1.out.1 (.inr (.inr (.inl rfl)))
      obtain ⟨gA, oA, hA1, _, hct⟩ := (HA.out w7 RW7.out.below i d HD.out).2
      simp only [Option.some.injEq, Addr.mk.injEq, and_true] at hA1
      obtain ⟨rfl, rfl⟩ := hA1
      have HN := Lib.hid hcall
      clear hcall
      go_wp2_with fail
      refine HN.out.mono ?_
      rintro e w9 ⟨rfl, hrd, hr⟩
      have RW9 := Lib.hid (RW7.out.passed hr hrd)
      have NB9 := Lib.hid (NB7.out.rest hr (by have := MNB.out; have := RW7.out.ord; omega))
      clear hr hrd HN
      go_wp2_with fail
      go_meet
      case rel => exact ⟨rfl, (by rw [if_neg (by decide), HWD.out]; exact RW9.out), NB9.out⟩
    | true =>
      have hwd : wantD 1 d.t ((d0 :: D').map (RTk.toD l)) = true := hbw
      obtain rfl : code = 0 := by
        rw [← CODE.out, hwd]; rfl
      have HWD := Lib.hid hwd
      have HBW := Lib.hid hbw
      clear hbw hwd
      have hcall : Calls Try.prog 21 #[.pointer (some ⟨rp, 0, none⟩), .string (strL d.t)] w7 fun e w' => e = .returned (.int .i64 0) ∧ Reads (OwnS sb (sb + 1) rp wb (wb + 1)) rp q (D'.map (RTk.toD l)) w' ∧ Rest (fun i => i = rp) w7 w' := rd_take (OwnS sb (sb + 1) rp wb (wb + 1)) rp q d.t true ((d0 :: D').map (RTk.toD l)) (fun dd DD hdd => by
        simp only [List.map_cons, List.cons.injEq] at hdd
        rw [← hdd.1]; exact HBW.out) w7 RW7.out.rd HE1.out.1 (.inr (.inr (.inl rfl)))
      obtain ⟨gA, oA, hA1, _, hct⟩ := (HA.out w7 RW7.out.below i d HD.out).2
      simp only [Option.some.injEq, Addr.mk.injEq, and_true] at hA1
      obtain ⟨rfl, rfl⟩ := hA1
      have HN := Lib.hid hcall
      clear hcall
      go_wp2_with fail
      refine HN.out.mono ?_
      rintro e w9 ⟨rfl, hrd, hr⟩
      have RW9 := Lib.hid (RW7.out.passed hr hrd)
      have NB9 := Lib.hid (NB7.out.rest hr (by have := MNB.out; have := RW7.out.ord; omega))
      clear hr hrd HN
      go_wp2_with fail
      go_meet
      case rel => exact ⟨rfl, (by rw [if_neg (by decide), HWD.out]; exact RW9.out), NB9.out⟩
end Go.Proofs.Ytgdjfifnnhfonaa
namespace Go.Proofs.Ytgdjfifnnhfonaa
open Go.RowKit Go.Shelf
attribute [local go_sem] Oper.semAt_some
set_option maxRecDepth 100000 in
set_option maxHeartbeats 16000000 in
theorem reads_kind2 (l : List UInt8) (ao : Option Addr) (cL : Nat) (L : List TAct) (w : World) (q : Nat × Nat) : (readsSwitch l ao cL L w q).1.2.2.1 := by
  conv => whnf
  intro hl hL hcL1 hcL2 w0 sb ESB HEND HW0 HB0 hi1 hi2 QQ hh w1 rp A c pb w2 EPB w3 ws A2 c2 wb w4 W4 EWB HE1 KK aK wr u12 v13 u14 u15 u16 u17 u18 u19 u20 u21 u22 u23 u24 v73 v74 v75 v76 v77 v78 v79 v80 v81 v82 v83 v84 v85 v86 v87 v88 v89 v90 v91 v92 v93 v94 v95 v96 v97 v98 v99 v100 v101 v102 v103 v104 v105 v106 v107 v108 v109 v110 v111 v112 v113 v114 v115 v116 v117 v118 v119 v120 v121 v122 v123 v124 v125 v126 v127 v128 v129 v130 v131 v132 v133 v134 v135 v136 v137 v138 v139 v140 v141 v142 v143 v144 v145 v146 v147 v148 v149 v150 v151 v152 v153 v154 v155 v156 v157 v158 v159 v160 v161 v162 v163 v164 v165 v166 v167 v168 v169 v170 v171 v172 v173 v174 v175 v176 v177 v178 v179 v180 v181 v182 v183 v184 v185 v186 v187 v188 v189 v190 v191 v192 v193 v194 v195 v196 v197 v198 v199 v200 v201 v202 v203 v204 v205 v206 v207 v208 v209 v210 v211 v212 v213 v214 v215 v216 v217 v218 v219 v220 v221 v222 v223 v224 v225 v226 v227 v228 v229 v230 v231 v232 v233 v234 v235 v236 v237 v238 v239 v240 v241 v242 v243 v244 v245 v246 v247 v248 v249 v250 v251 v252 v253 v254 v255 v256 v257 v258 v259 v260 v261 v262 v263 v264 v265 v266 v267 v268 v269 i D hi hlt d hkd g o HA hc1 hst HD e50 H50 nb ENB MNB NS Q1 K1 a1 hDl u73 u74 u75 u76 u77 u78 u79 u80 u81 u82 u83 u84 u85 u86 u87 u88 u89 u90 u91 u92 u93 u94 u95 u96 u97 u98 u99 u100 u101 u102 u103 u104 u105 u106 u107 u108 u109 u110 u111 u112 u113 u114 u115 u116 u117 u118 u119 u120 u121 u122 u123 u124 u125 u126 u127 u128 u129 u130 u131 u132 u133 u134 u135 u136 u137 u138 u139 u140 u141 u142 u143 u144 u145 u146 u147 u148 u149 u150 u151 u152 u153 u154 u155 u156 u157 u158 u159 u160 u161 u162 u163 u164 u165 u166 u167 u168 u169 u170 u171 u172 u173 u174 u175 u176 u177 u178 u179 u180 u181 u182 u183 u184 u185 u186 u187 u188 u189 u190 u191 u192 u193 u194 u195 u196 u197 u198 u199 u200 u201 u202 u203 u204 u205 u206 u207 u208 u209 u210 u211 u212 u213 u214 u215 u216 u217 u218 u219 u220 u221 u222 u223 u224 u225 u226 u227 u228 u229 u230 u231 u232 u233 u234 u235 u236 u237 u238 u239 u240 u241 u242 u243 u244 u245 u246 u247 u248 u249 u250 u251 u252 u253 u254 u255 u256 u257 u258 u259 u260 u261 u262 u263 u264 u265 u266 u267 u268 u269 w7 RW7 NB7 code K6 a7 J5 K5 a5 CODE a6
  have eg19 := Try.ent19
  have eg20 := Try.ent20
  have hmf : ∀ (fn : Fn) (first cap : Array Value) (w : World), (Instr.makeFunc fn first cap).run Try.prog w = .ok (.func fn first cap) w := fun _ _ _ _ => rfl
  cases D with
  | nil =>
    obtain rfl : code = 9 := CODE.out.symm
    have hcall : Calls Try.prog 22 #[.pointer (some ⟨rp, 0, none⟩)] w7 fun e w' => e = .returned (.tuple #[.string ⟨#[]⟩, .int .i64 9]) ∧ Reads (OwnS sb (sb + 1) rp wb (wb + 1)) rp q ([].map (RTk.toD l)) w' ∧ Rest (fun i => i = rp) w7 w' := rd_word (OwnS sb (sb + 1) rp wb (wb + 1)) rp q true ([].map (RTk.toD l)) (fun dd DD hdd => by cases hdd) w7 RW7.out.rd HE1.out.1 (.inr (.inr (.inl rfl)))
    have HN := Lib.hid hcall
    clear hcall
    go_wp2_with fail
    refine HN.out.mono ?_
    rintro e w9 ⟨rfl, hrd, hr⟩
    have RW9 := Lib.hid (RW7.out.passed hr hrd)
    have NB9 := Lib.hid (NB7.out.rest hr (by have := MNB.out; have := RW7.out.ord; omega))
    clear hr hrd HN
    go_wp2_with fail
    go_meet
    case rel => exact ⟨rfl, RW9.out, NB9.out⟩
  | cons d0 D' =>
    cases hbw : decide ((d0.toD l).k = 1) with
    | false =>
      have hwd : wantD 2 d.t ((d0 :: D').map (RTk.toD l)) = false := hbw
      obtain rfl : code = 6 := by
        rw [← CODE.out, hwd]; rfl
      have HWD := Lib.hid hwd
      have HBW := Lib.hid hbw
      clear hbw hwd
      have hcall : Calls Try.prog 22 #[.pointer (some ⟨rp, 0, none⟩)] w7 fun e w' => e = .returned (.tuple #[.string ⟨#[]⟩, .int .i64 6]) ∧ Reads (OwnS sb (sb + 1) rp wb (wb + 1)) rp q ((d0 :: D').map (RTk.toD l)) w' ∧ Rest (fun i => i = rp) w7 w' := rd_word (OwnS sb (sb + 1) rp wb (wb + 1)) rp q false ((d0 :: D').map (RTk.toD l)) (fun dd DD hdd => by
        simp only [List.map_cons, List.cons.injEq] at hdd
        rw [← hdd.1]; exact HBW.out) w7 RW7.out.rd HE1.out.1 (.inr (.inr (.inl rfl)))
      have HN := Lib.hid hcall
      clear hcall
      go_wp2_with fail
      refine HN.out.mono ?_
      rintro e w9 ⟨rfl, hrd, hr⟩
      have RW9 := Lib.hid (RW7.out.passed hr hrd)
      have NB9 := Lib.hid (NB7.out.rest hr (by have := MNB.out; have := RW7.out.ord; omega))
      clear hr hrd HN
      go_wp2_with fail
      go_meet
      case rel => exact ⟨rfl, (by rw [if_neg (by decide), HWD.out]; exact RW9.out), NB9.out⟩
    | true =>
      have hwd : wantD 2 d.t ((d0 :: D').map (RTk.toD l)) = true := hbw
      obtain rfl : code = 0 := by
        rw [← CODE.out, hwd]; rfl
      have HWD := Lib.hid hwd
      have HBW := Lib.hid hbw
      clear hbw hwd
      have hcall : Calls Try.prog 22 #[.pointer (some ⟨rp, 0, none⟩)] w7 fun e w' => e = .returned (.tuple #[.string (strL d0.t), .int .i64 0]) ∧ Reads (OwnS sb (sb + 1) rp wb (wb + 1)) rp q (D'.map (RTk.toD l)) w' ∧ Rest (fun i => i = rp) w7 w' := rd_word (OwnS sb (sb + 1) rp wb (wb + 1)) rp q true ((d0 :: D').map (RTk.toD l)) (fun dd DD hdd => by
        simp only [List.map_cons, List.cons.injEq] at hdd
        rw [← hdd.1]; exact HBW.out) w7 RW7.out.rd HE1.out.1 (.inr (.inr (.inl rfl)))
      have HN := Lib.hid hcall
      clear hcall
      go_wp2_with fail
      refine HN.out.mono ?_
      rintro e w9 ⟨rfl, hrd, hr⟩
      have RW9 := Lib.hid (RW7.out.passed hr hrd)
      have NB9 := Lib.hid (NB7.out.rest hr (by have := MNB.out; have := RW7.out.ord; omega))
      clear hr hrd HN
      have n1 := NB9.out.c1
      go_wp2_with fail
      go_meet
      case rel => exact ⟨rfl, (by rw [if_neg (by decide), HWD.out]; exact RW9.out), NB9.out⟩
end Go.Proofs.Ytgdjfifnnhfonaa
namespace Go.Proofs.Ytgdjfifnnhfonaa
open Go.RowKit Go.Shelf
attribute [local go_sem] Oper.semAt_some
set_option maxRecDepth 100000 in
set_option maxHeartbeats 16000000 in
theorem reads_kind3 (l : List UInt8) (ao : Option Addr) (cL : Nat) (L : List TAct) (w : World) (q : Nat × Nat) : (readsSwitch l ao cL L w q).1.2.2.2.1 := by
  conv => whnf
  intro hl hL hcL1 hcL2 w0 sb ESB HEND HW0 HB0 hi1 hi2 QQ hh w1 rp A c pb w2 EPB w3 ws A2 c2 wb w4 W4 EWB HE1 KK aK wr u12 v13 u14 u15 u16 u17 u18 u19 u20 u21 u22 u23 u24 v73 v74 v75 v76 v77 v78 v79 v80 v81 v82 v83 v84 v85 v86 v87 v88 v89 v90 v91 v92 v93 v94 v95 v96 v97 v98 v99 v100 v101 v102 v103 v104 v105 v106 v107 v108 v109 v110 v111 v112 v113 v114 v115 v116 v117 v118 v119 v120 v121 v122 v123 v124 v125 v126 v127 v128 v129 v130 v131 v132 v133 v134 v135 v136 v137 v138 v139 v140 v141 v142 v143 v144 v145 v146 v147 v148 v149 v150 v151 v152 v153 v154 v155 v156 v157 v158 v159 v160 v161 v162 v163 v164 v165 v166 v167 v168 v169 v170 v171 v172 v173 v174 v175 v176 v177 v178 v179 v180 v181 v182 v183 v184 v185 v186 v187 v188 v189 v190 v191 v192 v193 v194 v195 v196 v197 v198 v199 v200 v201 v202 v203 v204 v205 v206 v207 v208 v209 v210 v211 v212 v213 v214 v215 v216 v217 v218 v219 v220 v221 v222 v223 v224 v225 v226 v227 v228 v229 v230 v231 v232 v233 v234 v235 v236 v237 v238 v239 v240 v241 v242 v243 v244 v245 v246 v247 v248 v249 v250 v251 v252 v253 v254 v255 v256 v257 v258 v259 v260 v261 v262 v263 v264 v265 v266 v267 v268 v269 i D hi hlt d hkd g o HA hc1 hst HD e50 H50 nb ENB MNB NS Q1 K1 a1 hDl u73 u74 u75 u76 u77 u78 u79 u80 u81 u82 u83 u84 u85 u86 u87 u88 u89 u90 u91 u92 u93 u94 u95 u96 u97 u98 u99 u100 u101 u102 u103 u104 u105 u106 u107 u108 u109 u110 u111 u112 u113 u114 u115 u116 u117 u118 u119 u120 u121 u122 u123 u124 u125 u126 u127 u128 u129 u130 u131 u132 u133 u134 u135 u136 u137 u138 u139 u140 u141 u142 u143 u144 u145 u146 u147 u148 u149 u150 u151 u152 u153 u154 u155 u156 u157 u158 u159 u160 u161 u162 u163 u164 u165 u166 u167 u168 u169 u170 u171 u172 u173 u174 u175 u176 u177 u178 u179 u180 u181 u182 u183 u184 u185 u186 u187 u188 u189 u190 u191 u192 u193 u194 u195 u196 u197 u198 u199 u200 u201 u202 u203 u204 u205 u206 u207 u208 u209 u210 u211 u212 u213 u214 u215 u216 u217 u218 u219 u220 u221 u222 u223 u224 u225 u226 u227 u228 u229 u230 u231 u232 u233 u234 u235 u236 u237 u238 u239 u240 u241 u242 u243 u244 u245 u246 u247 u248 u249 u250 u251 u252 u253 u254 u255 u256 u257 u258 u259 u260 u261 u262 u263 u264 u265 u266 u267 u268 u269 w7 RW7 NB7 code K6 a7 J5 K5 a5 CODE a6
  have eg19 := Try.ent19
  have eg20 := Try.ent20
  have hmf : ∀ (fn : Fn) (first cap : Array Value) (w : World), (Instr.makeFunc fn first cap).run Try.prog w = .ok (.func fn first cap) w := fun _ _ _ _ => rfl
  cases D with
  | nil =>
    obtain rfl : code = 9 := CODE.out.symm
    have hcall : Calls Try.prog 23 #[.pointer (some ⟨rp, 0, none⟩)] w7 fun e w' => e = .returned (.tuple #[.int .i64 0, .int .i64 9]) ∧ Reads (OwnS sb (sb + 1) rp wb (wb + 1)) rp q ([].map (RTk.toD l)) w' ∧ Rest (fun i => i = rp) w7 w' := rd_number (OwnS sb (sb + 1) rp wb (wb + 1)) rp q true ([].map (RTk.toD l)) (fun dd DD hdd => by cases hdd) w7 RW7.out.rd HE1.out.1 (.inr (.inr (.inl rfl)))
    have HN := Lib.hid hcall
    clear hcall
    go_wp2_with fail
    refine HN.out.mono ?_
    rintro e w9 ⟨rfl, hrd, hr⟩
    have RW9 := Lib.hid (RW7.out.passed hr hrd)
    have NB9 := Lib.hid (NB7.out.rest hr (by have := MNB.out; have := RW7.out.ord; omega))
    clear hr hrd HN
    go_wp2_with fail
    go_meet
    case rel => exact ⟨rfl, RW9.out, NB9.out⟩
  | cons d0 D' =>
    cases hbw : decide ((d0.toD l).k = 2) with
    | false =>
      have hwd : wantD 3 d.t ((d0 :: D').map (RTk.toD l)) = false := hbw
      obtain rfl : code = 6 := by
        rw [← CODE.out, hwd]; rfl
      have HWD := Lib.hid hwd
      have HBW := Lib.hid hbw
      clear hbw hwd
      have hcall : Calls Try.prog 23 #[.pointer (some ⟨rp, 0, none⟩)] w7 fun e w' => e = .returned (.tuple #[.int .i64 0, .int .i64 6]) ∧ Reads (OwnS sb (sb + 1) rp wb (wb + 1)) rp q ((d0 :: D').map (RTk.toD l)) w' ∧ Rest (fun i => i = rp) w7 w' := rd_number (OwnS sb (sb + 1) rp wb (wb + 1)) rp q false ((d0 :: D').map (RTk.toD l)) (fun dd DD hdd => by
        simp only [List.map_cons, List.cons.injEq] at hdd
        rw [← hdd.1]; exact HBW.out) w7 RW7.out.rd HE1.out.1 (.inr (.inr (.inl rfl)))
      have HN := Lib.hid hcall
      clear hcall
      go_wp2_with fail
      refine HN.out.mono ?_
      rintro e w9 ⟨rfl, hrd, hr⟩
      have RW9 := Lib.hid (RW7.out.passed hr hrd)
      have NB9 := Lib.hid (NB7.out.rest hr (by have := MNB.out; have := RW7.out.ord; omega))
      clear hr hrd HN
      go_wp2_with fail
      go_meet
      case rel => exact ⟨rfl, (by rw [if_neg (by decide), HWD.out]; exact RW9.out), NB9.out⟩
    | true =>
      have hwd : wantD 3 d.t ((d0 :: D').map (RTk.toD l)) = true := hbw
      obtain rfl : code = 0 := by
        rw [← CODE.out, hwd]; rfl
      have HWD := Lib.hid hwd
      have HBW := Lib.hid hbw
      clear hbw hwd
      have hcall : Calls Try.prog 23 #[.pointer (some ⟨rp, 0, none⟩)] w7 fun e w' => e = .returned (.tuple #[.int .i64 ((d0.v : Nat) : Int), .int .i64 0]) ∧ Reads (OwnS sb (sb + 1) rp wb (wb + 1)) rp q (D'.map (RTk.toD l)) w' ∧ Rest (fun i => i = rp) w7 w' := rd_number (OwnS sb (sb + 1) rp wb (wb + 1)) rp q true ((d0 :: D').map (RTk.toD l)) (fun dd DD hdd => by
        simp only [List.map_cons, List.cons.injEq] at hdd
        rw [← hdd.1]; exact HBW.out) w7 RW7.out.rd HE1.out.1 (.inr (.inr (.inl rfl)))
      have HN := Lib.hid hcall
      clear hcall
      go_wp2_with fail
      refine HN.out.mono ?_
      rintro e w9 ⟨rfl, hrd, hr⟩
      have RW9 := Lib.hid (RW7.out.passed hr hrd)
      have NB9 := Lib.hid (NB7.out.rest hr (by have := MNB.out; have := RW7.out.ord; omega))
      clear hr hrd HN
      have n2 := NB9.out.c2
      go_wp2_with fail
      go_meet
      case rel => exact ⟨rfl, (by rw [if_neg (by decide), HWD.out]; exact RW9.out), NB9.out⟩
end Go.Proofs.Ytgdjfifnnhfonaa
