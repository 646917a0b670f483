/- The walk of TokenReads where the text has tokens, up to its loop over the calls: what is left is a round. Conditions: the calls lie in memory; the text has at most 500 bytes, and there are at most 60 calls. -/
import Derived.Test.YtgdjfifnnhfonaaLa
import Derived.BigQuiet
import Derived.Deep.CutBlock
import Derived.StillTailTactics
namespace Go.Proofs.Ytgdjfifnnhfonaa
open Go.RowKit Go.Shelf
attribute [local go_sem] Oper.semAt_some

/-- What is left to be shown. -/
structure Later (G : Prop) : Prop where
  out : G

set_option maxRecDepth 100000 in
set_option maxHeartbeats 16000000 in
def readsHead (l : List UInt8) (ao : Option Addr) (cL : Nat) (L : List TAct) (w : World) (q : Nat × Nat) : { G : Prop // Later G → (∀ ts : List TokD, l.length ≤ 500 → L.length ≤ 60 → TActsAt w (.slice ao L.length cL) L → scanS l = .ok ts q → Calls Try.prog 5 #[.string (strL l), .slice ao L.length cL] w fun e w' => e = .returned (.bool true) ∧ Below w.heap.size w w') } := by
  refine ⟨?G, fun hG => ?P⟩
  case P =>
    intro ts hl hL hv hR
    obtain ⟨bo, hbo⟩ : ∃ bo, bo = ao := ⟨_, rfl⟩
    rw [← hbo] at hv ⊢
    clear hbo
    obtain ⟨ao', cL', hve, hcL1, hcL2, hacts⟩ := hv
    simp only [Value.slice.injEq, true_and] at hve
    obtain ⟨rfl, rfl⟩ := hve
    have hs : (strL l).size = l.length := strL_size l
    obtain ⟨w0, hw0⟩ : ∃ w0, (w.alloc (.cells #[.string (strL l)] 9)).alloc (.cells #[.bool false] 4) = w0 := ⟨_, rfl⟩
    have hb0 : Below w.heap.size w w0 := by rw [← hw0]; exact ((Below.refl _ w).alloc (Nat.le_refl _) _).alloc (by simp) _
    have hsb0 : Boxed w0 w.heap.size 9 (.string (strL l)) := by rw [← hw0]; exact (Boxed.new w 9 _).alloc _
    have hrb0 : Boxed w0 (w.heap.size + 1) 4 (.bool false) := by
      rw [← hw0]
      have := Boxed.new (w.alloc (.cells #[.string (strL l)] 9)) 4 (.bool false)
      simpa using this
    have hz0 : w0.heap.size = w.heap.size + 2 := by rw [← hw0]; simp
    have HNEW := Lib.hid (new_any l w0 (by omega))
    have HRS := fun wx => Lib.hid (refScan_any l wx (by omega))
    have hend : q = adv l (1, 1) := scanS_end hR
    rw [hR] at HNEW HRS
    obtain ⟨sb, esb⟩ : ∃ sb, w.heap.size = sb := ⟨_, rfl⟩
    rw [esb] at hsb0 hrb0 hz0
    have ESB := Lib.hid esb
    have HEND := Lib.hid hend
    have HW0 := Lib.hid hw0
    have HB0 := Lib.hid hb0
    have SB0 := Lib.hid hsb0
    have RB0 := Lib.hid hrb0
    have HZ0 := Lib.hid hz0
    have HA : Hid (∀ wx, Below w.heap.size w wx → ∀ (i : Nat) (d : TAct), L[i]? = some d → d.kd ≤ 255 ∧ ∃ g o, bo = some ⟨g, o, none⟩ ∧ wx.cell? ⟨g, o + i * 2, none⟩ = some (.int .u8 d.kd) ∧ wx.cell? ⟨g, o + i * 2 + 1, none⟩ = some (.string (strL d.t))) := Lib.hid (fun wx hb i d hd => by
      obtain ⟨h1, g, o, h2, h3, h4⟩ := hacts i d hd
      exact ⟨h1, g, o, h2, (hb.cell (p := ⟨g, o + i * 2, none⟩) (World.block_lt_of_cell? _ _ h3)).trans h3, (hb.cell (p := ⟨g, o + i * 2 + 1, none⟩) (World.block_lt_of_cell? _ _ h4)).trans h4⟩)
    have s0 := hsb0.cell
    have hi1 : ((l.length : Nat) : Int) ≤ 500 := by omega
    have hi2 : ((L.length : Nat) : Int) ≤ 60 := by omega
    clear hR hend hw0 hb0 hsb0 hrb0 hz0 hacts esb
    refine (callsIn_wide (n := 6)).1 ?_
    refine callsIn_of_wp_marks Try.func5 rfl trivial ?_ rfl
    simp only [Try.ntmps5, List.size_toArray, List.length_cons, List.length_nil, Nat.reduceAdd, Nat.reduceSub, Array.replicate_succ, Array.replicate_zero, List.push_toArray, List.append_toArray, List.nil_append, List.cons_append]
    refine wpIn_wide.2 ?_
    go_upto_region 1 with fail
    rw [HW0.out, ESB.out]
    go_wp2_with fail
    refine HNEW.out.mono ?_
    rintro e w1 ⟨hb1, rp, A, c, rfl, hrp, hrd, hsl⟩
    have hrpl := hrd.lt
    have hal := below_alloc w1 (.cells #[.int .i64 0, .int .i64 0] 25)
    have hbx : (w1.alloc (.cells #[.int .i64 0, .int .i64 0] 25)).heap[w1.heap.size]? = some (.cells #[.int .i64 0, .int .i64 0] 25 (0, 0)) := heap_alloc_new w1 _
    obtain ⟨pb, epb⟩ : ∃ pb, w1.heap.size = pb := ⟨_, rfl⟩
    obtain ⟨w2, hw2⟩ : ∃ w2, w1.alloc (.cells #[.int .i64 0, .int .i64 0] 25) = w2 := ⟨_, rfl⟩
    rw [hw2] at hal hbx
    rw [epb] at hbx
    have hb02 := hb1.trans (hal.mono hb1.size)
    have B2 := Lib.hid hb02
    have BX := Lib.hid hbx
    have W2 := Lib.hid hw2
    have EPB := Lib.hid epb
    have RD2 := Lib.hid (hrd.below hal hrpl)
    have SL2 := Lib.hid (hsl.below hal)
    have RPL := Lib.hid (And.intro hrp (Nat.lt_of_lt_of_le hrpl hal.size))
    have sc2 := (boxed_below SB0.out hb02 SB0.out.lt).cell
    clear hal hbx hw2 epb hb1 hb02 HNEW hrd hsl hrpl hrp
    go_upto_region 4 with fail
    rw [W2.out, EPB.out]
    go_wp2_with fail
    refine ((HRS _).out).mono ?_
    rintro e w3 ⟨hb3, ws, v2, rfl, hats, rfl, hrow⟩
    obtain ⟨A2, c2, rfl⟩ := row_shape hrow
    have hal := below_alloc w3 (.cells #[.slice A2 ws.length c2] 29)
    have hb34 := hb3.trans (hal.mono hb3.size)
    have hbx4 := (hb34.block pb (Array.getElem?_eq_some_iff.1 BX.out).1).trans BX.out
    have hwb4 := Boxed.new w3 29 (.slice A2 ws.length c2)
    have hM4 : (w3.alloc (.cells #[.slice A2 ws.length c2] 29)).heap.size = w3.heap.size + 1 := by simp
    have hsl3 : SlAt RTk.cells 4 (fun i => i < w2.heap.size ∨ w3.heap.size ≤ i) w3 A2 c2 ws := slAt_row hrow rfl (fun i d hi j hj => rCells_get ws i d hi j hj) (fun d => rfl) (fun k hk hS => by
      rcases hrow.2 with ⟨hn, _⟩ | ⟨g, cap, cur, hv, hg1, hg2, _⟩
      · simp only [Value.slice.injEq] at hn; rw [hn.1] at hk; cases hk
      · simp only [Value.slice.injEq] at hv
        rw [hv.1] at hk
        simp only [Option.map_some, Option.some.injEq] at hk
        have := (Array.getElem?_eq_some_iff.1 hg2).1
        omega)
    have hsl4 := hsl3.below hal
    obtain ⟨wb, ewb⟩ : ∃ wb, w3.heap.size = wb := ⟨_, rfl⟩
    obtain ⟨w4, hw4⟩ : ∃ w4, w3.alloc (.cells #[.slice A2 ws.length c2] 29) = w4 := ⟨_, rfl⟩
    rw [hw4] at hbx4 hb34 hwb4 hM4 hsl4
    rw [ewb] at hwb4 hM4 hsl4
    have hb04 := B2.out.trans (hb34.mono B2.out.size)
    have hs23 := hb3.size
    have hRW : RW w w4 sb (sb + 1) rp wb (wb + 1) l q ws ws := by
      have hz := HZ0.out
      have he := ESB.out
      have hr := RPL.out
      refine ⟨boxed_below RB0.out hb04 RB0.out.lt, boxed_below SB0.out hb04 SB0.out.lt, ⟨A, c, RD2.out.below hb34 RD2.out.lt, ?_⟩, ⟨A2, c2, hwb4, ?_⟩, HB0.out.trans (hb04.mono HB0.out.size), by omega, hats, by omega⟩
      · have h1 := SL2.out.below hb34
        refine ⟨h1.1, h1.2.1, fun i d hi => ?_⟩
        obtain ⟨g, o, h2, h3, h4⟩ := h1.2.2 i d hi
        refine ⟨g, o, h2, ?_, h4⟩
        unfold OwnS
        omega
      · refine ⟨hsl4.1, hsl4.2.1, fun i d hi => ?_⟩
        obtain ⟨g, o, h2, h3, h4⟩ := hsl4.2.2 i d hi
        refine ⟨g, o, h2, ?_, h4⟩
        unfold OwnS
        omega
    have RW4 := Lib.hid hRW
    have W4 := Lib.hid hw4
    have EWB := Lib.hid ewb
    have p0 : w4.cell? ⟨pb, 0, none⟩ = some (.int .i64 0) := by simp [World.cell?, hbx4]
    have p1 : w4.cell? ⟨pb, 1, none⟩ = some (.int .i64 0) := by simp [World.cell?, hbx4]
    have HE1 : Hid (1 ≤ q.1 ∧ q.1 ≤ 600 ∧ q.2 ≤ 600) := Lib.hid (by
      have h1 := adv_fst l (1, 1)
      have h2 := adv_bound l (1, 1)
      rw [HEND.out]
      simp only at h1 h2
      omega)
    clear hb3 hal hb34 hbx4 hwb4 hM4 hsl3 hsl4 hw4 ewb hb04 hs23 hRW hats hrow HRS sc2 s0 RD2 SL2 B2 W2 BX SB0 RB0 HZ0 RPL
    go_upto_region 5 with fail
    rw [W4.out, EWB.out]
    go_wp2_with fail
    go_loopw [11] (fun x11 wr => ∃ (i : Nat) (D : List RTk), i ≤ L.length ∧ x11 = .int .i64 ((i : Nat) : Int) ∧ RW w wr sb (sb + 1) rp wb (wb + 1) l q D D) (fun x11 _ => L.length - (intOf x11).toNat)
    case atStart => exact ⟨0, ws, Nat.zero_le _, rfl, RW4.out⟩
    case round =>
      rename_i QQ hh KK aK
      obtain ⟨i, D, hi, rfl, hrw⟩ := hrel
      have RWr := Lib.hid hrw
      clear hrw p0 p1 RW4 hs
      revert hl hL bo hcL1 hcL2 w0 sb ESB HEND HW0 HB0 HA hi1 hi2 QQ hh w1 rp A c pb w2 EPB w3 ws A2 c2 wb w4 W4 EWB HE1 KK aK wr u12 u13 u14 u15 u16 u17 u18 u19 u20 u21 u22 u23 u24 u73 u74 u75 u76 u77 u78 u79 u80 u81 u82 u83 u84 u85 u86 u87 u88 u89 u90 u91 u92 u93 u94 u95 u96 u97 u98 u99 u100 u101 u102 u103 u104 u105 u106 u107 u108 u109 u110 u111 u112 u113 u114 u115 u116 u117 u118 u119 u120 u121 u122 u123 u124 u125 u126 u127 u128 u129 u130 u131 u132 u133 u134 u135 u136 u137 u138 u139 u140 u141 u142 u143 u144 u145 u146 u147 u148 u149 u150 u151 u152 u153 u154 u155 u156 u157 u158 u159 u160 u161 u162 u163 u164 u165 u166 u167 u168 u169 u170 u171 u172 u173 u174 u175 u176 u177 u178 u179 u180 u181 u182 u183 u184 u185 u186 u187 u188 u189 u190 u191 u192 u193 u194 u195 u196 u197 u198 u199 u200 u201 u202 u203 u204 u205 u206 u207 u208 u209 u210 u211 u212 u213 u214 u215 u216 u217 u218 u219 u220 u221 u222 u223 u224 u225 u226 u227 u228 u229 u230 u231 u232 u233 u234 u235 u236 u237 u238 u239 u240 u241 u242 u243 u244 u245 u246 u247 u248 u249 u250 u251 u252 u253 u254 u255 u256 u257 u258 u259 u260 u261 u262 u263 u264 u265 u266 u267 u268 u269 i D hi RWr
      exact hG.out
end Go.Proofs.Ytgdjfifnnhfonaa
