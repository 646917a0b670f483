/- A round of the walk of TokenReads: what the call wants. Conditions as before. -/
import Derived.Test.YtgdjfifnnhfonaaMb
namespace Go.Proofs.Ytgdjfifnnhfonaa
open Go.RowKit Go.Shelf
attribute [local go_sem] Oper.semAt_some
set_option maxRecDepth 100000 in
set_option maxHeartbeats 16000000 in
theorem reads_want (l : List UInt8) (ao : Option Addr) (cL : Nat) (L : List TAct) (w : World) (q : Nat × Nat) : (readsRound l ao cL L w q).1.1 := by
  conv => whnf
  intro hl hL hcL1 hcL2 w0 sb ESB HEND HW0 HB0 hi1 hi2 QQ hh w1 rp A c pb w2 EPB w3 ws A2 c2 wb w4 W4 EWB HE1 KK aK wr u12 u13 u14 u15 u16 u17 u18 u19 u20 u21 u22 u23 u24 u73 u74 u75 u76 u77 u78 u79 u80 u81 u82 u83 u84 u85 u86 u87 u88 u89 u90 u91 u92 u93 u94 u95 u96 u97 u98 u99 u100 u101 u102 u103 u104 u105 u106 u107 u108 u109 u110 u111 u112 u113 u114 u115 u116 u117 u118 u119 u120 u121 u122 u123 u124 u125 u126 u127 u128 u129 u130 u131 u132 u133 u134 u135 u136 u137 u138 u139 u140 u141 u142 u143 u144 u145 u146 u147 u148 u149 u150 u151 u152 u153 u154 u155 u156 u157 u158 u159 u160 u161 u162 u163 u164 u165 u166 u167 u168 u169 u170 u171 u172 u173 u174 u175 u176 u177 u178 u179 u180 u181 u182 u183 u184 u185 u186 u187 u188 u189 u190 u191 u192 u193 u194 u195 u196 u197 u198 u199 u200 u201 u202 u203 u204 u205 u206 u207 u208 u209 u210 u211 u212 u213 u214 u215 u216 u217 u218 u219 u220 u221 u222 u223 u224 u225 u226 u227 u228 u229 u230 u231 u232 u233 u234 u235 u236 u237 u238 u239 u240 u241 u242 u243 u244 u245 u246 u247 u248 u249 u250 u251 u252 u253 u254 u255 u256 u257 u258 u259 u260 u261 u262 u263 u264 u265 u266 u267 u268 u269 i D hi hlt d hkd g o HA hc1 hst HD e50 kk hk5 H50 nb w5 RW5 NB5 W5 ENB MNB NS Q1 K1 a1 K2 a2 A5 c5 cw5 hcl5 hcm5 SL5 hDl J3 K3 a3 a4
  cases D with
  | nil =>
    go_wp2_with fail
    go_meet
    case rel => exact ⟨rfl, RW5.out, NB5.out⟩
  | cons d0 D' =>
    obtain ⟨g2, o2, rfl, hg2, hx2⟩ := SL5.out.head
    have hne : (((D'.length : Nat) : Int) + 1 == 0) = false := by simp; omega
    have z0 : w5.cell? ⟨g2, o2, none⟩ = some (.int .i64 d0.k) := hx2 0 _ rfl
    have z1 : w5.cell? ⟨g2, o2 + 1, none⟩ = some (.string (strL d0.t)) := hx2 1 _ rfl
    have z2 : w5.cell? ⟨g2, o2 + 2, none⟩ = some (.int .i64 d0.v) := hx2 2 _ rfl
    have z3 : w5.cell? ⟨g2, o2 + 3, none⟩ = some (.int .i64 d0.a) := hx2 3 _ rfl
    have n0 := NB5.out.c0
    have n1 := NB5.out.c1
    have n2 := NB5.out.c2
    have n3 := NB5.out.c3
    have nf0 := NB5.out.fr 0
    have nf1 := NB5.out.fr 1
    have nf2 := NB5.out.fr 2
    have nf3 := NB5.out.fr 3
    simp only [List.length_cons] at hcl5 hDl
    have hwl : decide (0 < D'.length + 1) = true := by simp
    clear hx2
    go_upto_region 22 with fail
    have hct := (HA.out _ (RW5.out.fresh (qset4 NB5.out (.int .i64 ((d0.k : Nat) : Int)) (.string (strL d0.t)) (.int .i64 ((d0.v : Nat) : Int)) (.int .i64 ((d0.a : Nat) : Int))).2 NS.out).below i d HD.out).2
    obtain ⟨g', o', he', _, hct⟩ := hct
    simp only [Option.some.injEq, Addr.mk.injEq, and_true] at he'
    obtain ⟨rfl, rfl⟩ := he'
    obtain ⟨hs1, hs2⟩ := qset4 NB5.out (.int .i64 ((d0.k : Nat) : Int)) (.string (strL d0.t)) (.int .i64 ((d0.v : Nat) : Int)) (.int .i64 ((d0.a : Nat) : Int))
    have hrw6 := RW5.out.fresh hs2 NS.out
    generalize (((w5.setCell ⟨nb, 0, none⟩ (.int .i64 ((d0.k : Nat) : Int))).setCell ⟨nb, 1, none⟩ (.string (strL d0.t))).setCell ⟨nb, 2, none⟩ (.int .i64 ((d0.v : Nat) : Int))).setCell ⟨nb, 3, none⟩ (.int .i64 ((d0.a : Nat) : Int)) = w6 at hs1 hrw6 hct ⊢
    have m0 := hs1.c0
    have m1 := hs1.c1
    have NB6 := Lib.hid hs1
    have RW6 := Lib.hid hrw6
    have FIN : Hid (∀ b, wantA kk d.t (d0.toD l) = b → Value.int .i64 (if b then 0 else 6) = .int .i64 ((codeP (wantD kk d.t ((d0 :: D').map (RTk.toD l))) ((d0 :: D').map (RTk.toD l)) : Nat) : Int)) := Lib.hid (fun b hb => by
      show _ = Value.int .i64 ((codeP (wantA kk d.t (d0.toD l)) ((d0 :: D').map (RTk.toD l)) : Nat) : Int)
      rw [hb]
      cases b <;> rfl)
    clear z0 z1 z2 z3 n0 n1 n2 n3 nf0 nf1 nf2 nf3 hs1 hs2 hrw6 cw5 hne hwl hg2
    have hk' : kk = 0 ∨ kk = 1 ∨ kk = 2 ∨ kk = 3 ∨ kk = 4 := by omega
    clear hk5
    rcases hk' with rfl | rfl | rfl | rfl | rfl
    · have HBB : Hid (wantA 0 d.t (d0.toD l) = true) := Lib.hid (rfl)
      as_aux_lemma =>
        go_quiet (fail)
        go_wp2_with fail
        go_meet
        case rel => exact ⟨FIN.out true HBB.out, RW6.out.later (below_drewN _ _), NB6.out.below (below_drewN _ _)⟩
    · by_cases ht : d0.t = d.t
      · have m1' : w6.cell? ⟨nb, 1, none⟩ = some (.string (strL d.t)) := by rw [← ht]; exact m1
        clear m1
        have HT := Lib.hid ht
        clear ht
        by_cases h1 : d0.k = 1
        · have e1 : (((d0.k : Nat) : Int) != 1) = false := by simp; omega
          have H1 := Lib.hid h1
          clear h1
          have HBB : Hid (wantA 1 d.t (d0.toD l) = true) := Lib.hid (by show takeB d.t (d0.toD l) = true; unfold takeB; simp [RTk.toD, H1.out, HT.out])
          as_aux_lemma =>
            go_quiet (fail)
            go_wp2_with fail
            go_meet
            case rel => exact ⟨FIN.out true HBB.out, RW6.out.later (below_drewN _ _), NB6.out.below (below_drewN _ _)⟩
        · by_cases h4 : d0.k = 4
          · have e1 : (((d0.k : Nat) : Int) != 1) = true := by simp; omega
            have e4 : (((d0.k : Nat) : Int) != 4) = false := by simp; omega
            have H4 := Lib.hid h4
            clear h1 h4
            have HBB : Hid (wantA 1 d.t (d0.toD l) = true) := Lib.hid (by show takeB d.t (d0.toD l) = true; unfold takeB; simp [RTk.toD, H4.out, HT.out])
            as_aux_lemma =>
              go_quiet (fail)
              go_wp2_with fail
              go_meet
              case rel => exact ⟨FIN.out true HBB.out, RW6.out.later (below_drewN _ _), NB6.out.below (below_drewN _ _)⟩
          · have e1 : (((d0.k : Nat) : Int) != 1) = true := by simp; omega
            have e4 : (((d0.k : Nat) : Int) != 4) = true := by simp; omega
            have H14 := Lib.hid (And.intro h1 h4)
            clear h1 h4
            have HBB : Hid (wantA 1 d.t (d0.toD l) = false) := Lib.hid (by show takeB d.t (d0.toD l) = false; unfold takeB; simp [RTk.toD, H14.out.1, H14.out.2])
            as_aux_lemma =>
              go_quiet (fail)
              go_wp2_with fail
              go_meet
              case rel => exact ⟨FIN.out false HBB.out, RW6.out.later (below_drewN _ _), NB6.out.below (below_drewN _ _)⟩
      · have he1 : ((strL d0.t).toList == (strL d.t).toList) = false := by rw [strL_toList, strL_toList]; simpa using ht
        have HT := Lib.hid ht
        clear ht
        have HBB : Hid (wantA 1 d.t (d0.toD l) = false) := Lib.hid (by show takeB d.t (d0.toD l) = false; unfold takeB; simp [RTk.toD, HT.out])
        as_aux_lemma =>
          go_quiet (fail)
          go_wp2_with fail
          go_meet
          case rel => exact ⟨FIN.out false HBB.out, RW6.out.later (below_drewN _ _), NB6.out.below (below_drewN _ _)⟩
    · by_cases h1 : d0.k = 1
      · have e1 : (((d0.k : Nat) : Int) != 1) = false := by simp; omega
        have H1 := Lib.hid h1
        clear h1
        have HBB : Hid (wantA 2 d.t (d0.toD l) = true) := Lib.hid (decide_eq_true H1.out)
        as_aux_lemma =>
          go_quiet (fail)
          go_wp2_with fail
          go_meet
          case rel => exact ⟨FIN.out true HBB.out, RW6.out.later (below_drewN _ _), NB6.out.below (below_drewN _ _)⟩
      · have e1 : (((d0.k : Nat) : Int) != 1) = true := by simp; omega
        have H1 := Lib.hid h1
        clear h1
        have HBB : Hid (wantA 2 d.t (d0.toD l) = false) := Lib.hid (decide_eq_false H1.out)
        as_aux_lemma =>
          go_quiet (fail)
          go_wp2_with fail
          go_meet
          case rel => exact ⟨FIN.out false HBB.out, RW6.out.later (below_drewN _ _), NB6.out.below (below_drewN _ _)⟩
    · by_cases h1 : d0.k = 2
      · have e1 : (((d0.k : Nat) : Int) != 2) = false := by simp; omega
        have H1 := Lib.hid h1
        clear h1
        have HBB : Hid (wantA 3 d.t (d0.toD l) = true) := Lib.hid (decide_eq_true H1.out)
        as_aux_lemma =>
          go_quiet (fail)
          go_wp2_with fail
          go_meet
          case rel => exact ⟨FIN.out true HBB.out, RW6.out.later (below_drewN _ _), NB6.out.below (below_drewN _ _)⟩
      · have e1 : (((d0.k : Nat) : Int) != 2) = true := by simp; omega
        have H1 := Lib.hid h1
        clear h1
        have HBB : Hid (wantA 3 d.t (d0.toD l) = false) := Lib.hid (decide_eq_false H1.out)
        as_aux_lemma =>
          go_quiet (fail)
          go_wp2_with fail
          go_meet
          case rel => exact ⟨FIN.out false HBB.out, RW6.out.later (below_drewN _ _), NB6.out.below (below_drewN _ _)⟩
    · have HBB : Hid (wantA 4 d.t (d0.toD l) = true) := Lib.hid (rfl)
      as_aux_lemma =>
        go_quiet (fail)
        go_wp2_with fail
        go_meet
        case rel => exact ⟨FIN.out true HBB.out, RW6.out.later (below_drewN _ _), NB6.out.below (below_drewN _ _)⟩
end Go.Proofs.Ytgdjfifnnhfonaa
