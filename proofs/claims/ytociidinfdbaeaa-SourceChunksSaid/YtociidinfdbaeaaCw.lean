/- The walk of SourceChunks where the arguments are small. Conditions: the calls lie in memory; the bounds. -/
import Derived.Test.YtociidinfdbaeaaCc
namespace Go.Proofs.Ytociidinfdbaeaa
open Go.RowKit Go.Shelf

attribute [local go_sem] Oper.semAt_some

theorem pn_case (size : Int) (len m pn : Nat) (B B2 : List Nat) (hl : B.length = len) (h6 : len ≤ 6000) (hm : (if size < 1 then 1 else size.toNat) = m) (hB : (if size < 1 then [] else B) = B2) (hp : numP m B2.length = pn) :
    (pn = 0 ∧ ¬ (0 < size ∧ 0 < len)) ∨ (0 < pn ∧ 0 < size ∧ 0 < len ∧ ∃ q : Nat, Int.tdiv ((len : Int) - 1) size = (q : Nat) ∧ 1 + q = pn ∧ q ≤ 6000) := by
  subst hp
  by_cases h1 : size < 1
  · rw [if_pos h1] at hm hB
    subst hm; subst hB
    exact .inl ⟨by simp [numP_zero], fun h => by omega⟩
  · rw [if_neg h1] at hm hB
    subst hB
    rw [hl]
    by_cases h2 : len = 0
    · subst h2
      exact .inl ⟨numP_zero m (by omega), fun h => by omega⟩
    · refine .inr ⟨?_, by omega, by omega, (len - 1) / m, ?_, ?_, ?_⟩
      · rw [numP_pos m len (by omega) (by omega)]; exact Nat.lt_of_lt_of_le Nat.zero_lt_one (Nat.le_add_right 1 _)
      · have e1 : ((len : Int) - 1) = ((len - 1 : Nat) : Int) := by omega
        have e2 : size = ((m : Nat) : Int) := by omega
        rw [e1, e2, Int.ofNat_tdiv]
      · rw [numP_pos m len (by omega) (by omega)]
      · exact Nat.le_trans (Nat.div_le_self _ _) (by omega)

set_option maxRecDepth 100000 in
set_option maxHeartbeats 6400000 in
theorem chunks_good (L : Nat) (x : Value) (X : List ActD) (size many : Int) (w : World) (hx : ActsAt w x X) (lx : X.length ≤ 9223372036854775807) (sx : smallB X = true) (h1 : 1 ≤ L) (h2 : L ≤ 1000) (hs1 : -9223372036854775808 ≤ size) (hs2 : size ≤ 9223372036854775807) (hm1 : -9223372036854775808 ≤ many) (hm2 : many ≤ 9223372036854775807) :
    Calls Try.prog 5 #[.int .i64 L, x, .int .i64 size, .int .i64 many] w fun e w' => e = .returned (.bool true) ∧ Below w.heap.size w w' := by
  obtain ⟨w0, hw0⟩ : ∃ w0, ((w.alloc (.cells #[.int .i64 size] 3)).alloc (.cells #[.int .i64 many] 3)).alloc (.cells #[.bool false] 4) = w0 := ⟨_, rfl⟩
  have hb0 : Below w.heap.size w w0 := by
    rw [← hw0]
    exact (((Below.refl _ w).alloc (Nat.le_refl _) _).alloc (by simp) _).alloc (by simp; omega) _
  have hz0 : Boxed w0 w.heap.size 3 (.int .i64 size) := by rw [← hw0]; exact ((Boxed.new w 3 _).alloc _).alloc _
  have hy0 : Boxed w0 (w.heap.size + 1) 3 (.int .i64 many) := by
    rw [← hw0]
    have := (Boxed.new (w.alloc (.cells #[.int .i64 size] 3)) 3 (.int .i64 many)).alloc (.cells #[.bool false] 4)
    simpa using this
  have hr0 : Boxed w0 (w.heap.size + 2) 4 (.bool false) := by
    rw [← hw0]
    have := Boxed.new ((w.alloc (.cells #[.int .i64 size] 3)).alloc (.cells #[.int .i64 many] 3)) 4 (.bool false)
    simpa using this
  have hx0 : ActsAt w0 x X := hx.below hb0
  have hf1 := acts_fit x X w0 hx0 lx
  rw [sx] at hf1
  have F1 := Lib.hid hf1
  have HNEW := Lib.hid (new_ok (L : Int) w0 (by omega) (by omega))
  have HREF := fun wx => Lib.hid (refNew_any (L : Int) wx)
  simp only [if_pos (show (1 : Int) ≤ (L : Int) ∧ (L : Int) ≤ 1048576 by omega)] at HREF
  have hok1 := new_run_ok hx0 sx L
  obtain ⟨s1, es1⟩ : ∃ s1, St.new.run L X = s1 := ⟨_, rfl⟩
  rw [es1] at hok1
  have R1 : ∀ wx p, Pair w0 wx p L (.slice none 0 0) St.new none 0 → Calls Try.prog 12 #[.pointer (some ⟨p, 0, none⟩), .agg #[.int .i64 L, .slice none 0 0, .int .i64 0, .bool false], x] wx (Ran p L (.slice none 0 0) s1 none 0 0 wx) := fun wx p h => by
    have := pair_run h ⟨Nat.le_refl _, Nat.zero_le _, fun y hy => by simp [St.new] at hy⟩ hx0 sx
    rw [es1] at this
    exact this
  have R1 := Lib.hid R1
  have OK1 := Lib.hid hok1
  have HW0 := Lib.hid hw0
  have HB0 := Lib.hid hb0
  have HZ0 := Lib.hid hz0
  have HY0 := Lib.hid hy0
  have HR0 := Lib.hid hr0
  clear hf1 hx hx0 lx sx hok1 es1 hw0 hb0 hz0 hy0 hr0
  refine (callsIn_wide (n := 6)).1 ?_
  refine callsIn_of_wp_marks Try.func5 rfl trivial ?_ rfl
  simp only [Try.ntmps5, List.size_toArray, List.length_cons, List.length_nil, Nat.reduceAdd, Nat.reduceSub, Array.replicate_succ, Array.replicate_zero, List.push_toArray, List.append_toArray, List.nil_append, List.cons_append]
  gi_wp2_with fail
  rw [HW0.out]
  refine ⟨trivial, ?_⟩
  refine (callsIn_wide.2 F1.out).mono ?_
  rintro e w' ⟨rfl, rfl⟩
  gi_wp2_with fail
  refine ⟨trivial, ?_⟩
  refine (callsIn_wide.2 HNEW.out).mono ?_
  rintro e w1 ⟨rfl, hS, hb⟩
  obtain ⟨p, hp⟩ : ∃ p, w0.heap.size = p := ⟨_, rfl⟩
  have hM : Mid w0 w1 p (.slice none 0 0) [] L 0 false := ⟨by rw [← hp]; exact hS, hb, by omega, fun k hk => by simp [Value.ownBlock] at hk⟩
  rw [hp]
  have M1 := Lib.hid hM
  have EP := Lib.hid hp
  clear hS hb hM hp HNEW F1
  gi_wp2_with fail
  refine ⟨trivial, ?_⟩
  refine (callsIn_wide.2 (HREF _).out).mono ?_
  rintro e w2 ⟨rfl, hb2⟩
  have M2 := Lib.hid (M1.out.later hb2)
  clear hb2 HREF M1
  gi_wp2_with fail
  have hb3 : Below w2.heap.size w2 (w2.alloc (.cells #[.int .i64 L, .slice none 0 0, .int .i64 0, .bool false] 31)) := (Below.refl _ _).alloc (Nat.le_refl _) _
  have hP : Pair w0 (w2.alloc (.cells #[.int .i64 L, .slice none 0 0, .int .i64 0, .bool false] 31)) p L (.slice none 0 0) St.new none 0 :=
    ⟨M2.out.later hb3, .inl ⟨rfl, rfl⟩, Nat.le_refl _, fun k hk => by simp [Value.ownBlock] at hk, fun k hk => by simp [Value.ownBlock] at hk⟩
  have hq0 := qbox_new w2 (.int .i64 L) (.slice none 0 0) (.int .i64 0) (.bool false)
  have hpl := M2.out.at_.lt
  refine ⟨trivial, ?_⟩
  refine (callsIn_wide.2 (R1.out _ p hP)).mono ?_
  rintro e w3 hr
  obtain ⟨A1, c1, v1, rfl, hp3, hst3, hown3⟩ := hP.ran hr
  have hq3 : QBox w3 w2.heap.size (.int .i64 L) (.slice none 0 0) (.int .i64 0) (.bool false) := ⟨(hst3.rest.block w2.heap.size (by simp) (fun hm => by
    rcases hm with e | e
    · omega
    · simp [Value.ownBlock] at e)).trans hq0.blk⟩
  obtain ⟨b1, eb⟩ : ∃ b1, w2.heap.size = b1 := ⟨_, rfl⟩
  have hn3 : ∀ k, Mine p v1 k → k ≠ b1 := fun k hk => by
    rcases hk with rfl | e
    · omega
    · rcases hst3.own k e with e' | e'
      · simp [Value.ownBlock] at e'
      · simp at e'; omega
  have ha3 : ∀ k, (Value.slice A1 s1.F.length c1).ownBlock = some k → k ≠ b1 := fun k hk => by
    rcases hown3 k hk with e' | e'
    · simp [Value.ownBlock] at e'
    · simp at e'; omega
  have hwb : w0.heap.size ≤ b1 := by rw [← eb]; exact M2.out.below.size
  rw [eb] at hq3 ⊢
  have P3 := Lib.hid hp3
  have Q3 := Lib.hid hq3
  have N3 := Lib.hid hn3
  have AN3 := Lib.hid ha3
  have WB := Lib.hid hwb
  have l0 := hq3.c0
  have l1 := hq3.c1
  have l2 := hq3.c2
  have l3 := hq3.c3
  have g0 := hq3.fr 0
  have g1 := hq3.fr 1
  have g2 := hq3.fr 2
  have g3 := hq3.fr 3
  have z3 := (boxed_below HZ0.out hp3.mid.below HZ0.out.lt).cell
  have nz : w.heap.size ≠ b1 := by have := HZ0.out.lt; omega
  have nz' : b1 ≠ w.heap.size := fun e => nz e.symm
  clear hb3 hP hq0 hpl hr hp3 hst3 hown3 hq3 hn3 ha3 hwb eb R1 M2
  gi_wp2_with fail
  have hr4 : Rest (fun j => j = b1) w3 ((((w3.setCell ⟨b1, 0, none⟩ (.int .i64 L)).setCell ⟨b1, 1, none⟩ (.slice A1 s1.F.length c1)).setCell ⟨b1, 2, none⟩ (.int .i64 s1.T)).setCell ⟨b1, 3, none⟩ (.bool s1.C)) :=
    (((((Rest.refl (fun j => j = b1) w3).setCell (p := ⟨b1, 0, none⟩) (fun _ => rfl) _).setCell (p := ⟨b1, 1, none⟩) (fun _ => rfl) _).setCell (p := ⟨b1, 2, none⟩) (fun _ => rfl) _).setCell (p := ⟨b1, 3, none⟩) (fun _ => rfl) _)
  have hq4 := Q3.out.set4 (.int .i64 L) (.slice A1 s1.F.length c1) (.int .i64 s1.T) (.bool s1.C)
  generalize ((((w3.setCell ⟨b1, 0, none⟩ (.int .i64 L)).setCell ⟨b1, 1, none⟩ (.slice A1 s1.F.length c1)).setCell ⟨b1, 2, none⟩ (.int .i64 s1.T)).setCell ⟨b1, 3, none⟩ (.bool s1.C)) = w4 at hr4 hq4 ⊢
  have hp4 : Pair w0 w4 p L v1 s1 A1 c1 := P3.out.rest hr4 (fun k e _ => by have := WB.out; omega) (fun k hk e => N3.out k hk e) (fun k hk e => AN3.out k hk e)
  clear hr4 l0 l1 l2 l3 g0 g1 g2 g3 P3 Q3 z3 nz nz'
  refine ⟨trivial, ?_⟩
  refine (callsIn_wide.2 (chunks_any p L s1.T v1 s1.B s1.C size w4 hp4.mid.at_ hs2)).mono ?_
  rintro e w5 ⟨gf, lb, rfl, hen, hpc, hb5⟩
  obtain ⟨m, em⟩ : ∃ m, (if size < 1 then 1 else size.toNat) = m := ⟨_, rfl⟩
  obtain ⟨B2, eb2⟩ : ∃ B2, (if size < 1 then [] else s1.B) = B2 := ⟨_, rfl⟩
  rw [em, eb2] at hpc
  have P5 := Lib.hid (hp4.below hb5)
  have hq5 := hq4.below hb5 hq4.lt
  have Q5 := Lib.hid hq5
  have EN := Lib.hid hen
  have PC5 := Lib.hid hpc
  have EM := Lib.hid em
  have EB2 := Lib.hid eb2
  have MN := Lib.hid (show ∀ k, Mine p v1 k → k < w4.heap.size from fun k hk => (hp4.mine hk).2)
  have SZ5 := Lib.hid hb5.size
  have eq5 := eql41 w5 (.func gf) #[] lb
  have l0 := hq5.c0
  have l1 := hq5.c1
  have l2 := hq5.c2
  have l3 := hq5.c3
  clear hp4 hq4 hen hpc hb5 em eb2 hq5 N3 AN3 WB
  gi_wp2_with fail
  refine ⟨trivial, ?_⟩
  refine (callsIn_wide.2 (refLeft_any L c1 s1.T A1 s1.F s1.C w5 P5.out.src P5.out.le OK1.out.le)).mono ?_
  rintro e w6 ⟨a, d, he, hpart, hd, hb6⟩
  change PartOf w6 A1 s1.F.length c1 a d s1.B at hpart
  change e = .returned (.slice a s1.B.length d) at he
  obtain ⟨len, hlen⟩ : ∃ len, s1.B.length = len := ⟨_, rfl⟩
  have hlen2 : len ≤ 6000 := by
    rw [← hlen]
    have : s1.B.length = s1.F.length - s1.T := List.length_drop
    have := OK1.out.few
    omega
  rw [hlen] at he
  subst he
  have hp6 := P5.out.below hb6
  have hb7 : Below w6.heap.size w6 (w6.alloc (.cells #[.slice a len d] 29)) := (Below.refl _ _).alloc (Nat.le_refl _) _
  have hbx7 := Boxed.new w6 29 (.slice a len d)
  obtain ⟨w7, hw7⟩ : ∃ w7, w6.alloc (.cells #[.slice a len d] 29) = w7 := ⟨_, rfl⟩
  rw [hw7] at hb7 hbx7
  obtain ⟨ba, hba⟩ : ∃ ba, w6.heap.size = ba := ⟨_, rfl⟩
  have hp7 := hp6.below hb7
  have hpart7 : PartOf w7 A1 s1.F.length c1 a d s1.B := hpart.later hb7
  have hpc7 : Pieces gf lb m B2 w4.heap.size w7 := PC5.out.later ((Rest.below hb6).trans (Rest.below (S := fun _ => False) hb7) (fun _ _ e => e.elim))
  have hlba : w4.heap.size ≤ ba := by have := SZ5.out; have := hb6.size; omega
  rw [hba] at hbx7
  have EW7 := Lib.hid hw7
  have P7 := Lib.hid hp7
  have PART7 := Lib.hid hpart7
  have PC7 := Lib.hid hpc7
  have LBA := Lib.hid hlba
  have EBA := Lib.hid hba
  have BX7 := Lib.hid hbx7
  have hsk := skip_any p v1 s1.B L s1.T s1.B.length s1.C w7 hp7.mid.at_ (by have := OK1.out.le; have := OK1.out.few; omega)
  rw [peek_all hp7.mid.at_.fit, hlen] at hsk
  have SKIP := Lib.hid hsk
  have HLEN := Lib.hid hlen
  have c15 := hbx7.cell
  clear hpart hd hb6 hp6 hb7 hbx7 hw7 hba hp7 hpart7 hpc7 hlba hsk hlen l0 l1 l2 l3 eq5 P5 Q5 PC5 SZ5
  gi_wp2_with fail
  rw [EW7.out, EBA.out]
  refine ⟨trivial, ?_⟩
  refine (callsIn_wide.2 SKIP.out).mono ?_
  rintro e w8 ⟨rfl, v2, hs8, hk8⟩
  have hb8 : Below w0.heap.size w0 w8 := P7.out.mid.below.trans (hk8.rest.toBelow w0.heap.size P7.out.mid.below.size (fun i hi hm => by have := (P7.out.mine hm).1; omega))
  have hpc8 := PC7.out.later (hk8.rest.mono (fun i _ hm => MN.out i hm))
  have hbx8 := boxed_rest BX7.out hk8.rest (fun hm => by have := MN.out _ hm; have := LBA.out; omega)
  have hsrc8 : SrcAt w8 (.slice a len d) s1.B := by
    have h := PART7.out.1
    rw [HLEN.out] at h
    exact h.rest hk8.rest (fun k hk => P7.out.ap k (PART7.out.2.2 k (by rw [HLEN.out]; exact hk)))
  have hcap : len ≤ d := by have := PART7.out.2.1; rw [HLEN.out] at this; exact this
  have hz8 := boxed_below HZ0.out hb8 HZ0.out.lt
  have hy8 := boxed_below HY0.out hb8 HY0.out.lt
  have hr8 := boxed_below HR0.out hb8 HR0.out.lt
  have hB8 := HB0.out.trans (hb8.mono HB0.out.size)
  have PC8 := Lib.hid hpc8
  have BX8 := Lib.hid hbx8
  have SRC8 := Lib.hid hsrc8
  have CAP := Lib.hid hcap
  have Z8 := Lib.hid hz8
  have Y8 := Lib.hid hy8
  have RB8 := Lib.hid hr8
  have B8 := Lib.hid hB8
  clear hs8 hk8 hb8 hpc8 hbx8 hsrc8 hcap hz8 hy8 hr8 hB8 c15 SKIP BX7 PC7 PART7 P7 EW7 EBA LBA HZ0 HY0 HR0 HB0 HW0 MN EP
  gi_upto_region 15 with fail
  obtain ⟨pn, hpn⟩ : ∃ pn, numP m B2.length = pn := ⟨_, rfl⟩
  have HCASE := Lib.hid (pn_case size len m pn s1.B B2 HLEN.out hlen2 EM.out EB2.out hpn)
  have EPN := Lib.hid hpn
  have hbn : Below w8.heap.size w8 (w8.alloc (.cells #[.int .i64 0] 3)) := (Below.refl _ _).alloc (Nat.le_refl _) _
  have hbp := Boxed.new w8 3 (.int .i64 0)
  obtain ⟨wn, hwn⟩ : ∃ wn, w8.alloc (.cells #[.int .i64 0] 3) = wn := ⟨_, rfl⟩
  obtain ⟨bp, ebp⟩ : ∃ bp, w8.heap.size = bp := ⟨_, rfl⟩
  rw [hwn] at hbn hbp ⊢
  have BN := Lib.hid hbn
  rw [ebp] at hbp ⊢
  have c16 := hbp.cell
  have f16 := hbp.frozen
  have c6 := (boxed_below Z8.out hbn Z8.out.lt).cell
  have c15 := (boxed_below BX8.out hbn BX8.out.lt).cell
  have BP := Lib.hid hbp
  have EBP := Lib.hid ebp
  clear hbn hbp hwn ebp hpn
  gi_cut [75] from 69 (fun s75 wx => s75 = .bool (decide (0 < pn)) ∧ wx = wn)
  case first =>
    rcases HCASE.out with ⟨rfl, hn⟩ | ⟨hp0, hz0, hl0, q, _, _, _⟩
    · by_cases hz : 0 < size
      · obtain rfl : len = 0 := by omega
        clear hn
        gi_wp2_with fail
        gi_meet
        case rel => exact ⟨rfl, rfl⟩
      · clear hn
        gi_wp2_with fail
        gi_meet
        case rel => exact ⟨rfl, rfl⟩
    · gi_wp2_with fail
      gi_meet
      case rel => exact ⟨by simp [hp0], rfl⟩
  case rest =>
    obtain ⟨rfl, rfl⟩ := hcut
    gi_upto_if 75 with fail
    gi_cut [] from 76 (fun wx => Boxed wx bp 3 (.int .i64 pn) ∧ Below bp wc wx)
    case first =>
      rcases HCASE.out with ⟨rfl, hn⟩ | ⟨hp0, hz0, hl0, q, hq1, hq2, hq3⟩
      · clear hn
        gi_wp2_with fail
        gi_meet
        case rel => exact ⟨BP.out, Below.refl _ _⟩
      · gi_wp2_with fail
        gi_meet
        case rel =>
          rw [show (1 : Int) + (q : Nat) = (pn : Nat) by omega]
          exact ⟨BP.out.set _, (Below.refl _ _).setCell (p := ⟨bp, 0, none⟩) (Nat.le_refl _) _⟩
    case rest =>
      obtain ⟨hbp2, hbel2⟩ := hcut
      have h8 := BN.out
      rw [EBP.out] at h8
      have h8 := h8.trans hbel2
      have ltb : ∀ k, k < w8.heap.size → k < bp := fun k hk => by rw [← EBP.out]; exact hk
      have hcm : CM wc w.heap.size (w.heap.size + 1) (w.heap.size + 2) ba bp size many a len d pn s1.B :=
        ⟨boxed_below Z8.out h8 (ltb _ Z8.out.lt), boxed_below Y8.out h8 (ltb _ Y8.out.lt), boxed_below RB8.out h8 (ltb _ RB8.out.lt), boxed_below BX8.out h8 (ltb _ BX8.out.lt), hbp2, SRC8.out.below h8 (fun k hk => ltb k (SRC8.out.lt k hk))⟩
      have hpcn := PC8.out.later (Rest.below (S := fun k => k < w4.heap.size) (by rw [EBP.out]; exact h8))
      have hbw := B8.out.trans (h8.mono (by rw [← EBP.out]; exact B8.out.size))
      have hnp : 1 ≤ m := by rw [← EM.out]; split <;> omega
      have H256 := Lib.hid (show ∀ y ∈ s1.B, y < 256 from fun y hy => OK1.out.bytes y (List.mem_of_mem_drop hy))
      have CMN := Lib.hid hcm
      have PCN := Lib.hid hpcn
      have BW := Lib.hid hbw
      have MP := Lib.hid hnp
      clear hbp2 hbel2 h8 ltb hcm hpcn hbw hnp BN EBP PC8 BX8 SRC8 Z8 Y8 RB8 B8 HCASE c16 f16 c6 c15 BP OK1 R1
      gi_wp2_with fail
      obtain ⟨wn, rfl⟩ : ∃ wn, wn = wc := ⟨wc, rfl⟩
      have hbt : Below wn.heap.size wn (wn.alloc (.cells #[.int .i64 0] 3)) := (Below.refl _ _).alloc (Nat.le_refl _) _
      have hxt := Boxed.new wn 3 (.int .i64 0)
      obtain ⟨wt, hwt⟩ : ∃ wt, wn.alloc (.cells #[.int .i64 0] 3) = wt := ⟨_, rfl⟩
      obtain ⟨tb, htb⟩ : ∃ tb, wn.heap.size = tb := ⟨_, rfl⟩
      rw [hwt] at hbt hxt ⊢
      rw [htb] at hxt ⊢
      have ct := hxt.cell
      have BT := Lib.hid hbt
      have XT := Lib.hid hxt
      have TB := Lib.hid htb
      clear hbt hxt hwt htb
      refine wpIn_loop_rounds 3 ?_
      rw [roundsIn_succ]
      gi_wp2_with fail
      have hbk : Below wt.heap.size wt ((wt.alloc (.cells #[.int .i64 0] 3)).alloc (.cells #[.int .i64 0] 3)) := ((Below.refl _ _).alloc (Nat.le_refl _) _).alloc (by simp) _
      have hxk : Boxed ((wt.alloc (.cells #[.int .i64 0] 3)).alloc (.cells #[.int .i64 0] 3)) wt.heap.size 3 (.int .i64 0) := (Boxed.new wt 3 _).alloc _
      have hxa : Boxed ((wt.alloc (.cells #[.int .i64 0] 3)).alloc (.cells #[.int .i64 0] 3)) (wt.heap.size + 1) 3 (.int .i64 0) := by
        have := Boxed.new (wt.alloc (.cells #[.int .i64 0] 3)) 3 (.int .i64 0)
        simpa using this
      have hsk : ((wt.alloc (.cells #[.int .i64 0] 3)).alloc (.cells #[.int .i64 0] 3)).heap.size = wt.heap.size + 2 := by simp
      obtain ⟨wk, hwk⟩ : ∃ wk, (wt.alloc (.cells #[.int .i64 0] 3)).alloc (.cells #[.int .i64 0] 3) = wk := ⟨_, rfl⟩
      obtain ⟨kb, hkb⟩ : ∃ kb, wt.heap.size = kb := ⟨_, rfl⟩
      rw [hwk] at hbk hxk hxa hsk ⊢
      rw [hkb] at hbk hxk hxa hsk ⊢
      have BK := Lib.hid hbk
      have XK := Lib.hid hxk
      have XA := Lib.hid hxa
      have SK := Lib.hid hsk
      have KB := Lib.hid hkb
      clear hbk hxk hxa hsk hwk hkb ct
      refine open_joined (gf := gf) (lb := lb) (by decide) rfl EN.out (fun W => ∃ k, RE wn W tb kb wk.heap.size 0 k ∧ endNum pn many = ((k : Nat) : Int)) (.exit 2) ?turn0 ?brk0 ?rest0
      case brk0 =>
        intro fr W h
        exact wpIn_exit (brk_of h)
      case turn0 =>
        intro W1 rr hrr hb1 hsz hR
        obtain ⟨fn, hrr⟩ := hrr
        obtain ⟨D, hD⟩ : ∃ D, wk.heap.size = D := ⟨_, rfl⟩
        rw [hD] at hrr hb1 hsz hR ⊢
        obtain ⟨lr, hlr⟩ : ∃ lr, D + 1 = lr := ⟨_, rfl⟩
        rw [hlr] at hR ⊢
        have hl0 : tb < kb := by have := XT.out.lt; have := KB.out; omega
        have hl1 : D = kb + 2 := by have := SK.out; omega
        have hb0 : Below wn.heap.size wn W1 := (BT.out.trans (BK.out.mono (by have := TB.out; omega))).trans (hb1.mono (by have := TB.out; omega))
        have hRB0 : RB wn W1 tb kb (kb + 1) D lr (rr .ready none) 0 0 0 :=
          ⟨hb0, boxed_below (boxed_below XT.out BK.out hl0) hb1 (by omega), boxed_below XK.out hb1 (by omega), boxed_below XA.out hb1 (by omega), hR, by have := TB.out; omega⟩

        have HRR := Lib.hid hrr
        have HRB0 := Lib.hid hRB0
        have HSZ := Lib.hid hsz
        have HL := Lib.hid hlr
        have HL0 := Lib.hid hl0
        have HD := Lib.hid hl1
        clear hsz hrr hb1 hR hRB0 hlr hl1 hD hl0
        refine (PCN.out 5 lr (JN many m B2.length wn tb kb D lr (rr .ready none) 0)
          (JX pn many wn tb kb D lr (rr .done (some (.exit 2))))
          W1 (by decide) (Rest.below hb0) ?hJ ?hK ?hY ?h0).mono ?post
        case hJ =>
          rintro t Wa Wb ⟨k, g1, g2, g3⟩ hb
          exact ⟨k, g1, g2, g3.later hb (by rw [HSZ.out]; have := HL.out; omega)⟩
        case hK =>
          rintro t Wa ⟨k, g1, g2, g3⟩
          exact Rest.below g3.bel
        case h0 => exact ⟨0, numAt_zero m _ MP.out, fun _ => .inl rfl, HRB0.out⟩
        case post =>
          rintro e W2 ⟨hv, (⟨k, g1, g2, g3⟩ | ⟨k, t, g3, g4⟩)⟩
          · exact ⟨hv, .inl ⟨g3.rec_, fun o => ⟨k, g3.done o, goes_end (g2 rfl) (g1.full.trans EPN.out)⟩⟩⟩
          · exact ⟨hv, .inr ⟨g3.rec_, fun o => ⟨k, g3.done o, g4⟩⟩⟩
        case hY =>
          rintro t k b g cap v Wa ⟨kk, hn, hgo, hrb⟩ htk hk hk1 hb hg hgb hbx hT
          obtain ⟨ag, hag⟩ : ∃ ag : Addr, (⟨g, t, none⟩ : Addr) = ag := ⟨_, rfl⟩
          have hQ : RQ wn Wa tb kb (kb + 1) D lr (rr .ready none) 0 kk t b g cap t v B2 := ⟨hrb, hbx, hT, by have := HSZ.out; have := HL.out; omega⟩
          have HQ := Lib.hid hQ
          have HN := Lib.hid hn
          have HGO := Lib.hid hgo
          have HK := Lib.hid hk
          have HAG := Lib.hid hag
          have HTK := Lib.hid htk
          have HK1 := Lib.hid hk1
          rw [hag]
          clear hQ hrb hgo hn hk1 hk hgb hg hb hT hbx htk hag
          refine named_round HRR.out HQ.out.rb.rec_ rfl ?a1 ?asg ?body
          case asg =>
            intro K hK
            have HK := Lib.hid hK
            clear hK
            gi_wp2
            exact HK.out
          case body =>
            intro W2 hW2
            have hsz1 : 1 ≤ size ∧ B2 = s1.B ∧ ((m : Nat) : Int) = size := by
              have e1 := EM.out
              have e2 := EB2.out
              by_cases hc : size < 1
              · rw [if_pos hc] at e2
                have g1 := HTK.out
                have g2 := HK1.out
                rw [← e2] at g1
                simp at g1
                omega
              · rw [if_neg hc] at e1 e2
                exact ⟨by omega, e2.symm, by omega⟩
            obtain ⟨hz1, hBB, hmz⟩ := hsz1
            have hlB : B2.length = len := by rw [hBB]; exact HLEN.out
            have hQ2 : RQ wn W2 tb kb (kb + 1) D lr (rr .busy none) 0 kk t b g cap t v B2 := by rw [hW2]; exact HQ.out.put _
            have hcm2 := CMN.out.later hQ2.rb.bel
            have Q2 := Lib.hid hQ2
            have c18 := hQ2.rb.kbx.cell
            have c19 := hQ2.rb.abx.cell
            have c16 := hcm2.p.cell
            have c6 := hcm2.z.cell
            have c15 := hcm2.a.cell
            have hkpn : kk < pn := by
              have := HN.out.lt (by have := HTK.out; have := HK1.out; omega : t < B2.length)
              rw [EPN.out] at this
              exact this
            have hmin : (if ((len : Nat) : Int) - ((t : Nat) : Int) < size then ((len : Nat) : Int) - ((t : Nat) : Int) else size) = ((k : Nat) : Int) := by
              have := HK.out
              rw [hlB] at this
              have := HTK.out
              split <;> omega
            obtain ⟨N, hN⟩ : ∃ N, (B2.drop t).take k = N := ⟨_, rfl⟩
            obtain ⟨AX, hAX⟩ : ∃ AX, (if d = t then a else a.map (·.add t)) = AX := ⟨_, rfl⟩
            have htl : t + k ≤ len := by rw [← hlB]; exact HTK.out
            have htd : t + k ≤ d := Nat.le_trans htl CAP.out
            have hN256 : ∀ y ∈ N, y < 256 := fun y hy => by
              rw [← hN, hBB] at hy
              exact H256.out y (List.mem_of_mem_drop (List.mem_of_mem_take hy))
            have hp1 := tail_src hQ2.tail HTK.out
            rw [HAG.out, hN] at hp1
            have hp2 := sub_src hcm2.src CAP.out t k htl
            rw [hAX, ← hBB, hN] at hp2
            have hca : ∀ n, (convert 29 9 (.slice (some ag) k k)).run Try.prog (W2.drewN n) = .ok (.string (strOf N)) (W2.drewN n) := fun n => conv_src (hp1.below (below_drewN _ _) hp1.lt) hN256
            have hcx : ∀ n, (convert 29 9 (.slice AX k (d - t))).run Try.prog (W2.drewN n) = .ok (.string (strOf N)) (W2.drewN n) := fun n => conv_src (hp2.below (below_drewN _ _) hp2.lt) hN256
            have hd1 : decide (((pn : Nat) : Int) ≤ ((kk : Nat) : Int)) = false := decide_eq_false (by omega)
            have hd2 : decide (pn ≤ kk) = false := decide_eq_false (by omega)
            have HLB := Lib.hid hlB
            have HKP := Lib.hid hkpn
            have HTL := Lib.hid htl
            clear hBB hmz hQ2 hcm2 hN hN256 hp1 hp2 hlB hkpn hW2 htl HQ hz1
            gi_upto_region 23 with fail
            gi_cut [114] from 88 (fun s wx => s = .bool false ∧ ∃ nn, wx = W2.drewN nn)
            case first =>
              refine region_quiet_round (F := Fence.wide) rfl (by kernel_rfl) (by kernel_rfl) (by kernel_rfl) ?_
              repeat (gi_big_quiet_step (fail))
              refine wpQuietIn_nil ?_
              rintro _ ⟨nq, rfl⟩
              rename_i h1 h0
              refine h0 _ _ (Met.intro (h1 _ _ ?_))
              (repeat apply Exists.intro)
              refine ⟨?rel, rfl⟩
              case rel => exact ⟨rfl, _, rfl⟩
            case rest =>
              clear c18 c19 c16 c6 c15 hca hcx hd1 hd2 hmin hAX
              obtain ⟨rfl, nn, hwc⟩ := hcut
              have hQ3 : RQ wn wc tb kb (kb + 1) D lr (rr .busy none) 0 kk t b g cap t v B2 := by
                rw [hwc]
                exact Q2.out.below (below_drewN _ _)
              have c19 := hQ3.rb.abx.cell
              have f19 := hQ3.rb.abx.frozen
              have Q3 := Lib.hid hQ3
              clear hQ3 hwc Q2
              have htl6 : t + k ≤ 6000 := Nat.le_trans HTL.out hlen2
              gi_wp2_with fail
              have hQ4 := Q3.out.setAb (t + k)
              rw [show ((t : Nat) : Int) + ((k : Nat) : Int) = ((t + k : Nat) : Int) by omega]
              obtain ⟨w5, hw5⟩ : ∃ w5, wc.setCell ⟨kb + 1, 0, none⟩ (.int .i64 ((t + k : Nat) : Int)) = w5 := ⟨_, rfl⟩
              rw [hw5] at hQ4 ⊢
              have Q4 := Lib.hid hQ4
              clear hQ4 hw5 c19 f19 Q3
              gi_loopw [21] (fun i wr => ∃ j : Nat, j ≤ k ∧ i = .int .i64 j ∧ RQ wn wr tb kb (kb + 1) D lr (rr .busy none) 0 kk (t + k) b g cap (t + j) v B2) (fun i _ => k - (intOf i).toNat)
              case atStart => exact ⟨0, Nat.zero_le _, rfl, Q4.out⟩
              case round =>
                obtain ⟨j, hj, rfl, hq⟩ := hrel
                by_cases hjk : j < k
                · have hadd : ag.add j = ⟨g, t + j, none⟩ := by rw [← HAG.out]; exact add_at g t j
                  obtain ⟨y, hy⟩ : ∃ y, B2[t + j]? = some y := ⟨_, List.getElem?_eq_getElem (by have := HTK.out; omega)⟩
                  have hc := hq.tail.cell (Nat.le_refl _) hy
                  rw [← hadd] at hc
                  obtain ⟨cj, fj⟩ := hc
                  have QR := Lib.hid hq
                  have HADD := Lib.hid hadd
                  clear hy hq hadd
                  gi_wp2_with fail
                  go_roundw
                  case rel =>
                    rw [HADD.out]
                    exact ⟨j + 1, hjk, by go_num, QR.out.write _⟩
                  case measure => simp [intOf]; omega
                · obtain rfl : j = k := by omega
                  have hq7 := hq.setKb (kk + 1)
                  have c18 := hq.rb.kbx.cell
                  have f18 := hq.rb.kbx.frozen
                  have hkk6 : kk ≤ 6000 := Nat.le_trans HN.out.small (by omega)
                  have Q7 := Lib.hid hq7
                  clear hq hq7 hj hjk Q4
                  gi_upto_region 31 with fail
                  rw [show ((kk : Nat) : Int) + 1 = ((kk + 1 : Nat) : Int) by omega]
                  obtain ⟨w7, hw7⟩ : ∃ w7, wr.setCell ⟨kb, 0, none⟩ (.int .i64 ((kk + 1 : Nat) : Int)) = w7 := ⟨_, rfl⟩
                  rw [hw7] at Q7 ⊢
                  have hcm7 := CMN.out.later Q7.out.rb.bel
                  have c17 := Q7.out.rb.tbx.cell
                  have c18 := Q7.out.rb.kbx.cell
                  have c7 := hcm7.m.cell
                  clear hw7 hcm7 f18
                  have hmn : min m (B2.length - t) = j := HK.out.symm
                  have hnx := HN.out.next (by have := HTK.out; have := HK1.out; omega) HK.out
                  have HNX := Lib.hid hnx
                  clear hnx hmn
                  by_cases hmk : many ≤ ((kk + 1 : Nat) : Int)
                  · have hd1 : decide (many ≤ ((kk + 1 : Nat) : Int)) = true := decide_eq_true hmk
                    have hd2 : decide (many ≤ ((kk : Nat) : Int) + 1) = true := decide_eq_true (by omega)
                    have HMK := Lib.hid hmk
                    clear hmk
                    gi_wp2_with fail
                    refine ⟨Q7.out.rb.rec_, ⟨kk + 1, t + j, Q7.out.rb.put _, goes_left (HGO.out rfl) HKP.out HMK.out⟩⟩
                  · have hd1 : decide (many ≤ ((kk + 1 : Nat) : Int)) = false := decide_eq_false hmk
                    have hd2 : decide (many ≤ ((kk : Nat) : Int) + 1) = false := decide_eq_false (by omega)
                    have HMK := Lib.hid hmk
                    clear hmk
                    gi_wp2_with fail
                    have hq8 := Q7.out.put (rr .ready none)
                    refine ⟨Q7.out.rb.rec_, ⟨kk + 1, HNX.out, fun _ => .inr (by have := HMK.out; omega), hq8.rb⟩, hq8.box, hq8.tail⟩
      case rest0 =>
        rintro wm ⟨k, hre, hend⟩
        obtain ⟨D, hD⟩ : ∃ D, wk.heap.size = D := ⟨_, rfl⟩
        rw [hD] at hre ⊢
        obtain ⟨M, hM1, hM2, hM3⟩ := end_two hend
        have hcm := CMN.out.later hre.bel
        have hpc := PCN.out.later (Rest.below (S := fun k => k < w4.heap.size) hre.bel)
        have hbw := BW.out.trans (hre.bel.mono BW.out.size)
        have c17 := hre.tbx.cell
        have c18 := hre.kbx.cell
        have c16 := hcm.p.cell
        have c7 := hcm.m.cell
        have DF := Lib.hid hre.dfr
        have CMM := Lib.hid hcm
        have PCM := Lib.hid hpc
        have BWM := Lib.hid hbw
        have WD := Lib.hid (show w.heap.size ≤ D by have := hre.ord; have := BW.out.size; omega)
        clear hD hre hend hcm hpc hbw CMN PCN BW BK XK XA SK KB BT XT TB
        gi_upto_region 34 with fail
        clear c16 c7 c18 hM1 hM2 hM3
        gi_wp2_with fail
        rw [roundsIn_succ]
        have hbt : Below wm.heap.size wm (wm.alloc (.cells #[.int .i64 1] 3)) := (Below.refl _ _).alloc (Nat.le_refl _) _
        have hxt := Boxed.new wm 3 (.int .i64 ((1 : Nat) : Int))
        obtain ⟨wt2, hwt⟩ : ∃ wt2, wm.alloc (.cells #[.int .i64 1] 3) = wt2 := ⟨_, rfl⟩
        obtain ⟨tb2, htb⟩ : ∃ tb2, wm.heap.size = tb2 := ⟨_, rfl⟩
        change Boxed (wm.alloc (.cells #[.int .i64 1] 3)) _ _ _ at hxt
        rw [hwt] at hbt hxt ⊢
        rw [htb] at hxt ⊢
        have ct := hxt.cell
        have BT := Lib.hid hbt
        have XT := Lib.hid hxt
        have TB := Lib.hid htb
        clear hbt hxt hwt htb c17
        gi_wp2_with fail
        have hbk : Below wt2.heap.size wt2 ((wt2.alloc (.cells #[.int .i64 0] 3)).alloc (.cells #[.int .i64 0] 3)) := ((Below.refl _ _).alloc (Nat.le_refl _) _).alloc (by simp) _
        have hxk : Boxed ((wt2.alloc (.cells #[.int .i64 0] 3)).alloc (.cells #[.int .i64 0] 3)) wt2.heap.size 3 (.int .i64 0) := (Boxed.new wt2 3 _).alloc _
        have hxa : Boxed ((wt2.alloc (.cells #[.int .i64 0] 3)).alloc (.cells #[.int .i64 0] 3)) (wt2.heap.size + 1) 3 (.int .i64 0) := by
          have := Boxed.new (wt2.alloc (.cells #[.int .i64 0] 3)) 3 (.int .i64 0)
          simpa using this
        have hsk : ((wt2.alloc (.cells #[.int .i64 0] 3)).alloc (.cells #[.int .i64 0] 3)).heap.size = wt2.heap.size + 2 := by simp
        obtain ⟨wk2, hwk⟩ : ∃ wk2, (wt2.alloc (.cells #[.int .i64 0] 3)).alloc (.cells #[.int .i64 0] 3) = wk2 := ⟨_, rfl⟩
        obtain ⟨kb2, hkb⟩ : ∃ kb2, wt2.heap.size = kb2 := ⟨_, rfl⟩
        rw [hwk] at hbk hxk hxa hsk ⊢
        rw [hkb] at hbk hxk hxa hsk ⊢
        have BK := Lib.hid hbk
        have XK := Lib.hid hxk
        have XA := Lib.hid hxa
        have SK := Lib.hid hsk
        have KB := Lib.hid hkb
        clear hbk hxk hxa hsk hwk hkb ct
        refine open_joined (gf := gf) (lb := lb) (by decide) rfl EN.out (fun W => ∃ k, RE wm W tb2 kb2 wk2.heap.size 1 k ∧ k = pn) .skip ?turn1 ?brk1 ?rest1
        case brk1 =>
          intro fr W h
          exact wpIn_skip h
        case turn1 =>
          intro W1 rr hrr hb1 hsz hR
          obtain ⟨fn, hrr⟩ := hrr
          obtain ⟨D2, hD⟩ : ∃ D2, wk2.heap.size = D2 := ⟨_, rfl⟩
          rw [hD] at hrr hb1 hsz hR ⊢
          obtain ⟨lr2, hlr⟩ : ∃ lr2, D2 + 1 = lr2 := ⟨_, rfl⟩
          rw [hlr] at hR ⊢
          have hl0 : tb2 < kb2 := by have := XT.out.lt; have := KB.out; omega
          have hl1 : D2 = kb2 + 2 := by have := SK.out; omega
          have hb0 : Below wm.heap.size wm W1 := (BT.out.trans (BK.out.mono (by have := TB.out; omega))).trans (hb1.mono (by have := TB.out; omega))
          have hRB0 : RB wm W1 tb2 kb2 (kb2 + 1) D2 lr2 (rr .ready none) 1 0 0 :=
            ⟨hb0, boxed_below (boxed_below XT.out BK.out hl0) hb1 (by omega), boxed_below XK.out hb1 (by omega), boxed_below XA.out hb1 (by omega), hR, by have := TB.out; omega⟩

          have HRR := Lib.hid hrr
          have HRB0 := Lib.hid hRB0
          have HSZ := Lib.hid hsz
          have HL := Lib.hid hlr
          have HL0 := Lib.hid hl0
          have HD := Lib.hid hl1
          clear hsz hrr hb1 hR hRB0 hlr hl1 hD hl0
          refine (PCM.out 5 lr2 (JN many m B2.length wm tb2 kb2 D2 lr2 (rr .ready none) 1)
            (fun _ => False)
            W1 (by decide) (Rest.below hb0) ?hJ1 ?hK1 ?hY1 ?h01).mono ?post1
          case hJ1 =>
            rintro t Wa Wb ⟨k, g1, g2, g3⟩ hb
            exact ⟨k, g1, g2, g3.later hb (by rw [HSZ.out]; have := HL.out; omega)⟩
          case hK1 =>
            rintro t Wa ⟨k, g1, g2, g3⟩
            exact Rest.below g3.bel
          case h01 => exact ⟨0, numAt_zero m _ MP.out, fun h => absurd h (by decide), HRB0.out⟩
          case post1 =>
            rintro e W2 ⟨hv, (⟨k, g1, g2, g3⟩ | hf)⟩
            · exact ⟨hv, .inl ⟨g3.rec_, fun o => ⟨k, g3.done o, g1.full.trans EPN.out⟩⟩⟩
            · exact hf.elim
          case hY1 =>
            rintro t k b g cap v Wa ⟨kk, hn, hgo, hrb⟩ htk hk hk1 hb hg hgb hbx hT
            obtain ⟨ag, hag⟩ : ∃ ag : Addr, (⟨g, t, none⟩ : Addr) = ag := ⟨_, rfl⟩
            have hQ : RQ wm Wa tb2 kb2 (kb2 + 1) D2 lr2 (rr .ready none) 1 kk t b g cap t v B2 := ⟨hrb, hbx, hT, by have := HSZ.out; have := HL.out; omega⟩
            have HQ := Lib.hid hQ
            have HN := Lib.hid hn
            have HGO := Lib.hid hgo
            have HK := Lib.hid hk
            have HAG := Lib.hid hag
            have HTK := Lib.hid htk
            have HK1 := Lib.hid hk1
            rw [hag]
            clear hQ hrb hgo hn hk1 hk hgb hg hb hT hbx htk hag
            refine named_round HRR.out HQ.out.rb.rec_ rfl ?a12 ?asg1 ?body1
            case asg1 =>
              intro K hK
              have HK := Lib.hid hK
              clear hK
              gi_wp2
              exact HK.out
            case body1 =>
              intro W2 hW2
              have hsz1 : 1 ≤ size ∧ B2 = s1.B ∧ ((m : Nat) : Int) = size := by
                have e1 := EM.out
                have e2 := EB2.out
                by_cases hc : size < 1
                · rw [if_pos hc] at e2
                  have g1 := HTK.out
                  have g2 := HK1.out
                  rw [← e2] at g1
                  simp at g1
                  omega
                · rw [if_neg hc] at e1 e2
                  exact ⟨by omega, e2.symm, by omega⟩
              obtain ⟨hz1, hBB, hmz⟩ := hsz1
              have hlB : B2.length = len := by rw [hBB]; exact HLEN.out
              have hQ2 : RQ wm W2 tb2 kb2 (kb2 + 1) D2 lr2 (rr .busy none) 1 kk t b g cap t v B2 := by rw [hW2]; exact HQ.out.put _
              have hcm2 := CMM.out.later hQ2.rb.bel
              have Q2 := Lib.hid hQ2
              have c18 := hQ2.rb.kbx.cell
              have c19 := hQ2.rb.abx.cell
              have c16 := hcm2.p.cell
              have c6 := hcm2.z.cell
              have c15 := hcm2.a.cell
              have hkpn : kk < pn := by
                have := HN.out.lt (by have := HTK.out; have := HK1.out; omega : t < B2.length)
                rw [EPN.out] at this
                exact this
              have hmin : (if ((len : Nat) : Int) - ((t : Nat) : Int) < size then ((len : Nat) : Int) - ((t : Nat) : Int) else size) = ((k : Nat) : Int) := by
                have := HK.out
                rw [hlB] at this
                have := HTK.out
                split <;> omega
              obtain ⟨N, hN⟩ : ∃ N, (B2.drop t).take k = N := ⟨_, rfl⟩
              obtain ⟨AX, hAX⟩ : ∃ AX, (if d = t then a else a.map (·.add t)) = AX := ⟨_, rfl⟩
              have htl : t + k ≤ len := by rw [← hlB]; exact HTK.out
              have htd : t + k ≤ d := Nat.le_trans htl CAP.out
              have hN256 : ∀ y ∈ N, y < 256 := fun y hy => by
                rw [← hN, hBB] at hy
                exact H256.out y (List.mem_of_mem_drop (List.mem_of_mem_take hy))
              have hp1 := tail_src hQ2.tail HTK.out
              rw [HAG.out, hN] at hp1
              have hp2 := sub_src hcm2.src CAP.out t k htl
              rw [hAX, ← hBB, hN] at hp2
              have hca : ∀ n, (convert 29 9 (.slice (some ag) k k)).run Try.prog (W2.drewN n) = .ok (.string (strOf N)) (W2.drewN n) := fun n => conv_src (hp1.below (below_drewN _ _) hp1.lt) hN256
              have hcx : ∀ n, (convert 29 9 (.slice AX k (d - t))).run Try.prog (W2.drewN n) = .ok (.string (strOf N)) (W2.drewN n) := fun n => conv_src (hp2.below (below_drewN _ _) hp2.lt) hN256
              have hd1 : decide (((pn : Nat) : Int) ≤ ((kk : Nat) : Int)) = false := decide_eq_false (by omega)
              have hd2 : decide (pn ≤ kk) = false := decide_eq_false (by omega)
              have HLB := Lib.hid hlB
              have HKP := Lib.hid hkpn
              have HTL := Lib.hid htl
              clear hBB hmz hQ2 hcm2 hN hN256 hp1 hp2 hlB hkpn hW2 htl HQ hz1
              gi_upto_region 23 with fail
              gi_cut [114] from 88 (fun s wx => s = .bool false ∧ ∃ nn, wx = W2.drewN nn)
              case first =>
                refine region_quiet_round (F := Fence.wide) rfl (by kernel_rfl) (by kernel_rfl) (by kernel_rfl) ?_
                repeat (gi_big_quiet_step (fail))
                refine wpQuietIn_nil ?_
                rintro _ ⟨nq, rfl⟩
                rename_i h1 h0
                refine h0 _ _ (Met.intro (h1 _ _ ?_))
                (repeat apply Exists.intro)
                refine ⟨?rel, rfl⟩
                case rel => exact ⟨rfl, _, rfl⟩
              case rest =>
                clear c18 c19 c16 c6 c15 hca hcx hd1 hd2 hmin hAX
                obtain ⟨rfl, nn, hwc⟩ := hcut
                have hQ3 : RQ wm wc tb2 kb2 (kb2 + 1) D2 lr2 (rr .busy none) 1 kk t b g cap t v B2 := by
                  rw [hwc]
                  exact Q2.out.below (below_drewN _ _)
                have c19 := hQ3.rb.abx.cell
                have f19 := hQ3.rb.abx.frozen
                have Q3 := Lib.hid hQ3
                clear hQ3 hwc Q2
                have htl6 : t + k ≤ 6000 := Nat.le_trans HTL.out hlen2
                gi_wp2_with fail
                have hQ4 := Q3.out.setAb (t + k)
                rw [show ((t : Nat) : Int) + ((k : Nat) : Int) = ((t + k : Nat) : Int) by omega]
                obtain ⟨w5, hw5⟩ : ∃ w5, wc.setCell ⟨kb2 + 1, 0, none⟩ (.int .i64 ((t + k : Nat) : Int)) = w5 := ⟨_, rfl⟩
                rw [hw5] at hQ4 ⊢
                have Q4 := Lib.hid hQ4
                clear hQ4 hw5 c19 f19 Q3
                gi_loopw [21] (fun i wr => ∃ j : Nat, j ≤ k ∧ i = .int .i64 j ∧ RQ wm wr tb2 kb2 (kb2 + 1) D2 lr2 (rr .busy none) 1 kk (t + k) b g cap (t + j) v B2) (fun i _ => k - (intOf i).toNat)
                case atStart => exact ⟨0, Nat.zero_le _, rfl, Q4.out⟩
                case round =>
                  obtain ⟨j, hj, rfl, hq⟩ := hrel
                  by_cases hjk : j < k
                  · have hadd : ag.add j = ⟨g, t + j, none⟩ := by rw [← HAG.out]; exact add_at g t j
                    obtain ⟨y, hy⟩ : ∃ y, B2[t + j]? = some y := ⟨_, List.getElem?_eq_getElem (by have := HTK.out; omega)⟩
                    have hc := hq.tail.cell (Nat.le_refl _) hy
                    rw [← hadd] at hc
                    obtain ⟨cj, fj⟩ := hc
                    have QR := Lib.hid hq
                    have HADD := Lib.hid hadd
                    clear hy hq hadd
                    gi_wp2_with fail
                    go_roundw
                    case rel =>
                      rw [HADD.out]
                      exact ⟨j + 1, hjk, by go_num, QR.out.write _⟩
                    case measure => simp [intOf]; omega
                  · obtain rfl : j = k := by omega
                    have hq7 := hq.setKb (kk + 1)
                    have c18 := hq.rb.kbx.cell
                    have f18 := hq.rb.kbx.frozen
                    have hkk6 : kk ≤ 6000 := Nat.le_trans HN.out.small (by omega)
                    have Q7 := Lib.hid hq7
                    clear hq hq7 hj hjk Q4
                    gi_upto_region 31 with fail
                    rw [show ((kk : Nat) : Int) + 1 = ((kk + 1 : Nat) : Int) by omega]
                    obtain ⟨w7, hw7⟩ : ∃ w7, wr.setCell ⟨kb2, 0, none⟩ (.int .i64 ((kk + 1 : Nat) : Int)) = w7 := ⟨_, rfl⟩
                    rw [hw7] at Q7 ⊢
                    have c17 := Q7.out.rb.tbx.cell
                    have c18 := Q7.out.rb.kbx.cell
                    clear hw7 f18
                    have hmn : min m (B2.length - t) = j := HK.out.symm
                    have hnx := HN.out.next (by have := HTK.out; have := HK1.out; omega) HK.out
                    have HNX := Lib.hid hnx
                    clear hnx hmn
                    gi_wp2_with fail
                    have hq8 := Q7.out.put (rr .ready none)
                    refine ⟨Q7.out.rb.rec_, ⟨kk + 1, HNX.out, fun h => absurd h (by decide), hq8.rb⟩, hq8.box, hq8.tail⟩
        case rest1 =>
          rintro wq ⟨k, hre, hk⟩
          subst hk
          obtain ⟨D2, hD⟩ : ∃ D2, wk2.heap.size = D2 := ⟨_, rfl⟩
          rw [hD] at hre ⊢
          have hcm := CMM.out.later hre.bel
          have c17 := hre.tbx.cell
          have c18 := hre.kbx.cell
          have c16 := hcm.p.cell
          have DF2 := Lib.hid hre.dfr
          have DF1 := Lib.hid ((hre.bel.block D (Array.getElem?_eq_some_iff.1 DF.out).1).trans DF.out)
          have hne : D ≠ D2 := by have := (Array.getElem?_eq_some_iff.1 DF.out).1; have := hre.ord; omega
          have HNE := Lib.hid hne
          have R1 := Lib.hid hcm.r
          have BWQ := Lib.hid (BWM.out.trans (hre.bel.mono BWM.out.size))
          have WD2 := Lib.hid (show w.heap.size ≤ D2 by have := hre.ord; have := BWM.out.size; omega)
          clear hD hre hcm CMM PCM BWM BK XK XA SK KB BT XT TB DF hne
          gi_wp2_with fail
          rw [roundsIn_succ]
          gi_wp2_with fail
          refine ⟨trivial, ?_⟩
          refine (callsIn_wide.2 (known_any _)).mono ?_
          rintro e w8 ⟨rfl, hb8⟩
          have hb9 : Below wq.heap.size wq w8 := ((Below.refl _ wq).alloc (Nat.le_refl _) (.cells #[.int .i64 2] 3)).trans (hb8.mono (by simp))
          have hr8 : Boxed w8 (w.heap.size + 1 + 1) 4 (.bool false) := boxed_below R1.out hb9 R1.out.lt
          have K1 := Lib.hid ((hb9.block D (Array.getElem?_eq_some_iff.1 DF1.out).1).trans DF1.out)
          have K2 := Lib.hid ((hb9.block D2 (Array.getElem?_eq_some_iff.1 DF2.out).1).trans DF2.out)
          have HB := Lib.hid (BWQ.out.trans (hb9.mono BWQ.out.size))
          have R8 := Lib.hid hr8
          have cr := hr8.cell
          have cf := hr8.frozen
          clear hb8 hb9 hr8 DF1 DF2 R1 BWQ c16 c17 c18
          gi_wp2
          have hb9 := Boxed.set (.bool true) R8.out
          have n1 : D ≠ w.heap.size + 1 + 1 := fun e => by
            have hx := K1.out
            rw [e, show w8.heap[w.heap.size + 1 + 1]? = _ from R8.out] at hx
            cases hx
          have n2 : D2 ≠ w.heap.size + 1 + 1 := fun e => by
            have hx := K2.out
            rw [e, show w8.heap[w.heap.size + 1 + 1]? = _ from R8.out] at hx
            cases hx
          have k1 := (Below.heap_setCell w8 ⟨w.heap.size + 1 + 1, 0, none⟩ (.bool true) D n1).trans K1.out
          have k2 := (Below.heap_setCell w8 ⟨w.heap.size + 1 + 1, 0, none⟩ (.bool true) D2 n2).trans K2.out
          have hbw := HB.out.setCell (p := ⟨w.heap.size + 1 + 1, 0, none⟩) (by show w.heap.size ≤ w.heap.size + 1 + 1; omega) (.bool true)
          obtain ⟨w9, hw9⟩ : ∃ w9, w8.setCell ⟨w.heap.size + 1 + 1, 0, none⟩ (.bool true) = w9 := ⟨_, rfl⟩
          rw [hw9] at hb9 k1 k2 hbw ⊢
          clear hw9 cr cf
          have k3 : (w9.putObj D2 (.deferred none)).heap[D]? = _ := (World.putObj_heap_other HNE.out).trans k1
          have hb10 : Boxed (w9.putObj D2 (.deferred none)) (w.heap.size + 1 + 1) 4 (.bool true) := (World.putObj_heap_other n2.symm).trans hb9
          have hb11 : Boxed ((w9.putObj D2 (.deferred none)).putObj D (.deferred none)) (w.heap.size + 1 + 1) 4 (.bool true) := (World.putObj_heap_other n1.symm).trans hb10
          have hbw2 := hbw.grown (grownBy_putObj' w9 D2 (.deferred none)) hbw.size (fun k e => by cases e; exact WD2.out)
          have hbw3 := hbw2.grown (grownBy_putObj' (w9.putObj D2 (.deferred none)) D (.deferred none)) hbw2.size (fun k e => by cases e; exact WD.out)
          refine ⟨by simp, .inl ⟨_, _, rfl, run_takeDeferred k2, ?_⟩⟩
          refine ⟨by simp, .inl ⟨_, _, rfl, run_takeDeferred k3, ?_⟩⟩
          exact ⟨.bool true, by simp [results, Try.results5, go_sem, hb11.cell], rfl, hbw3⟩
end Go.Proofs.Ytociidinfdbaeaa
