/- The walk of SourceCopies where the arguments are small. Conditions: the calls lie in memory; the bounds. -/
import Derived.Test.YtociidinfdbaeaaSc
namespace Go.Proofs.Ytociidinfdbaeaa
open Go.RowKit Go.Shelf

set_option maxRecDepth 100000 in
set_option maxHeartbeats 6400000 in
theorem copies_good (L : Nat) (x a b : Value) (X A B : List ActD) (w : World) (hx : ActsAt w x X) (ha : ActsAt w a A) (hb : ActsAt w b B) (lx : X.length ≤ 9223372036854775807) (la : A.length ≤ 9223372036854775807) (lb : B.length ≤ 9223372036854775807)
    (sx : smallB X = true) (sa : smallB A = true) (sb : smallB B = true) (h1 : 1 ≤ L) (h2 : L ≤ 1000) :
    Calls Try.prog 4 #[.int .i64 L, x, a, b] w fun e w' => e = .returned (.bool true) ∧ Below w.heap.size w w' := by
  have hf1 := acts_fit x X w hx lx
  have hf2 := acts_fit a A w ha la
  have hf3 := acts_fit b B w hb lb
  rw [sx] at hf1
  rw [sa] at hf2
  rw [sb] at hf3
  have F1 := Lib.hid hf1
  have F2 := Lib.hid hf2
  have F3 := Lib.hid hf3
  have HNEW := fun wx => Lib.hid (new_ok (L : Int) wx (by omega) (by omega))
  have HREF := fun wx => Lib.hid (refNew_any (L : Int) wx)
  simp only [if_pos (show (1 : Int) ≤ (L : Int) ∧ (L : Int) ≤ 1048576 by omega)] at HREF
  have hok1 := new_run_ok hx sx L
  obtain ⟨s1, es1⟩ : ∃ s1, St.new.run L X = s1 := ⟨_, rfl⟩
  rw [es1] at hok1
  have hok2 := run_ok6 hok1 ha sa L
  have hok3 := run_ok6 hok1 hb sb L
  obtain ⟨s2, es2⟩ : ∃ s2, s1.run L A = s2 := ⟨_, rfl⟩
  obtain ⟨s3, es3⟩ : ∃ s3, s1.run L B = s3 := ⟨_, rfl⟩
  rw [es2] at hok2
  rw [es3] at hok3
  have R1 : ∀ wx p, Pair w wx p L (.slice none 0 0) St.new none 0 → Calls Try.prog 12 #[.pointer (some ⟨p, 0, none⟩), .agg #[.int .i64 L, .slice none 0 0, .int .i64 0, .bool false], x] wx (Ran p L (.slice none 0 0) s1 none 0 0 wx) := fun wx p h => by
    have := pair_run h ⟨Nat.le_refl _, Nat.zero_le _, fun y hy => by simp [St.new] at hy⟩ hx sx
    rw [es1] at this
    exact this
  have R2 : ∀ wx p v A1 c1, Pair w wx p L v s1 A1 c1 → Calls Try.prog 12 #[.pointer (some ⟨p, 0, none⟩), refV L A1 s1.F.length c1 s1.T s1.C, a] wx (Ran p L v s2 A1 s1.F.length c1 wx) := fun wx p v A1 c1 h => by
    have := pair_run h hok1 ha sa
    rw [es2] at this
    exact this
  have R3 : ∀ wx p v A1 c1, Pair w wx p L v s1 A1 c1 → Calls Try.prog 12 #[.pointer (some ⟨p, 0, none⟩), refV L A1 s1.F.length c1 s1.T s1.C, b] wx (Ran p L v s3 A1 s1.F.length c1 wx) := fun wx p v A1 c1 h => by
    have := pair_run h hok1 hb sb
    rw [es3] at this
    exact this
  have R1 := Lib.hid R1
  have R2 := Lib.hid R2
  have R3 := Lib.hid R3
  have OK1 := Lib.hid hok1
  have OK2 := Lib.hid hok2
  have OK3 := Lib.hid hok3
  clear hf1 hf2 hf3 hx ha hb lx la lb sx sa sb hok1 hok2 hok3 es1 es2 es3
  go_enter Try.func4, Try.ntmps4
  go_wp2_with ((go_at_call 8; go_must (first | with_reducible refine F1.out.mono ?_ | with_reducible refine F2.out.mono ?_ | with_reducible refine F3.out.mono ?_); rintro e w' ⟨rfl, rfl⟩))
  refine ((HNEW _).out).mono ?_
  rintro e w1 ⟨rfl, hS, hb⟩
  obtain ⟨p, hp⟩ : ∃ p, w.heap.size = p := ⟨_, rfl⟩
  have hM : Mid w w1 p (.slice none 0 0) [] L 0 false := ⟨by rw [← hp]; exact hS, hb, by omega, fun k hk => by simp [Value.ownBlock] at hk⟩
  rw [hp]
  have M1 := Lib.hid hM
  have EP := Lib.hid hp
  clear hS hb hM hp HNEW F1 F2 F3
  go_wp2_with fail
  refine ((HREF _).out).mono ?_
  rintro e w2 ⟨rfl, hb2⟩
  have M2 := Lib.hid (M1.out.later hb2)
  clear hb2 HREF M1
  go_wp2_with fail
  have hb3 : Below w2.heap.size w2 (w2.alloc (.cells #[.int .i64 L, .slice none 0 0, .int .i64 0, .bool false] 31)) := (Below.refl _ _).alloc (Nat.le_refl _) _
  have hP : Pair w (w2.alloc (.cells #[.int .i64 L, .slice none 0 0, .int .i64 0, .bool false] 31)) p L (.slice none 0 0) St.new none 0 :=
    ⟨M2.out.later hb3, .inl ⟨rfl, rfl⟩, Nat.le_refl _, fun k hk => by simp [Value.ownBlock] at hk, fun k hk => by simp [Value.ownBlock] at hk⟩
  have hq0 := qbox_new w2 (.int .i64 L) (.slice none 0 0) (.int .i64 0) (.bool false)
  have hpl := M2.out.at_.lt
  refine (R1.out _ p hP).mono ?_
  rintro e w3 hr
  obtain ⟨A1, c1, v1, rfl, hp3, hst3, hown3⟩ := hP.ran hr
  have hq3 : QBox w3 w2.heap.size (.int .i64 L) (.slice none 0 0) (.int .i64 0) (.bool false) := ⟨(hst3.rest.block w2.heap.size (by simp) (fun hm => by
    rcases hm with e | e
    · omega
    · simp [Value.ownBlock] at e)).trans hq0.blk⟩
  obtain ⟨b1, eb⟩ : ∃ b1, w2.heap.size = b1 := ⟨_, rfl⟩
  have hn3 : ∀ k, Mine p v1 k → k ≠ b1 := fun k hk => by
    rcases hk with rfl | e
    · omega
    · rcases hst3.own k e with e' | e'
      · simp [Value.ownBlock] at e'
      · simp at e'; omega
  have ha3 : ∀ k, (Value.slice A1 s1.F.length c1).ownBlock = some k → k ≠ b1 := fun k hk => by
    rcases hown3 k hk with e' | e'
    · simp [Value.ownBlock] at e'
    · simp at e'; omega
  have hwb : w.heap.size ≤ b1 := by rw [← eb]; exact M2.out.below.size
  rw [eb] at hq3 ⊢
  have P3 := Lib.hid hp3
  have Q3 := Lib.hid hq3
  have N3 := Lib.hid hn3
  have AN3 := Lib.hid ha3
  have WB := Lib.hid hwb
  have l0 := hq3.c0
  have l1 := hq3.c1
  have l2 := hq3.c2
  have l3 := hq3.c3
  have g0 := hq3.fr 0
  have g1 := hq3.fr 1
  have g2 := hq3.fr 2
  have g3 := hq3.fr 3
  clear hb3 hP hq0 hpl hr hp3 hst3 hown3 hq3 hn3 ha3 hwb eb
  go_wp2_with fail
  have hr4 : Rest (fun j => j = b1) w3 ((((w3.setCell ⟨b1, 0, none⟩ (.int .i64 L)).setCell ⟨b1, 1, none⟩ (.slice A1 s1.F.length c1)).setCell ⟨b1, 2, none⟩ (.int .i64 s1.T)).setCell ⟨b1, 3, none⟩ (.bool s1.C)) :=
    (((((Rest.refl (fun j => j = b1) w3).setCell (p := ⟨b1, 0, none⟩) (fun _ => rfl) _).setCell (p := ⟨b1, 1, none⟩) (fun _ => rfl) _).setCell (p := ⟨b1, 2, none⟩) (fun _ => rfl) _).setCell (p := ⟨b1, 3, none⟩) (fun _ => rfl) _)
  have hq4 := Q3.out.set4 (.int .i64 L) (.slice A1 s1.F.length c1) (.int .i64 s1.T) (.bool s1.C)
  generalize ((((w3.setCell ⟨b1, 0, none⟩ (.int .i64 L)).setCell ⟨b1, 1, none⟩ (.slice A1 s1.F.length c1)).setCell ⟨b1, 2, none⟩ (.int .i64 s1.T)).setCell ⟨b1, 3, none⟩ (.bool s1.C)) = w4 at hr4 hq4 ⊢
  have hp4 : Pair w w4 p L v1 s1 A1 c1 := P3.out.rest hr4 (fun k e _ => by have := WB.out; omega) (fun k hk e => N3.out k hk e) (fun k hk e => AN3.out k hk e)
  clear hr4 l0 l1 l2 l3 g0 g1 g2 g3 P3 Q3
  refine (copy_any p L s1.T v1 s1.B s1.C _ hp4.mid.at_).mono ?_
  rintro e w5 ⟨p2, v2, rfl, hs2, hb5, hp2, hv2⟩
  have hp5 := hp4.below hb5
  have hq5 := hq4.below hb5 hq4.lt
  have hall : ∀ k, (Value.slice A1 s1.F.length c1).ownBlock = some k → k < w4.heap.size := fun k hk => hp4.src.lt k hk
  have hm1 : ∀ k, Mine p v1 k → k < w4.heap.size := fun k hk => (hp4.mine hk).2
  have hm2 : ∀ k, Mine p2 v2 k → w4.heap.size ≤ k := fun k hk => by
    rcases hk with rfl | e
    · exact hp2
    · exact hv2 k e
  have hw4 := hp4.mid.below.size
  have ho5 : Pair w w5 p2 L v2 s1 A1 c1 := ⟨⟨hs2, hp4.mid.below.trans (hb5.mono hw4), by omega, fun k hk => by have := hv2 k hk; omega⟩, hp5.src, hp5.le, fun k hk hm => by have := hall k hk; have := hm2 k hm; omega, hp5.new⟩
  have k0 := hq5.c0
  have k1 := hq5.c1
  have k2 := hq5.c2
  have k3 := hq5.c3
  have P5 := Lib.hid hp5
  have O5 := Lib.hid ho5
  have Q5 := Lib.hid hq5
  have HM1 := Lib.hid hm1
  have HM2 := Lib.hid hm2
  have B1L := Lib.hid hq4.lt
  clear hp4 hs2 hb5 hp2 hv2 hp5 hq5 hall hm1 hm2 hw4 ho5 hq4
  go_wp2_with fail
  refine (pair_is O5.out OK1.out (by omega)).mono ?_
  rintro e w6 ⟨rfl, hb6⟩
  have hp6 := P5.out.below hb6
  have ho6 := O5.out.below hb6
  have hq6 := Q5.out.below hb6 Q5.out.lt
  have P6 := Lib.hid hp6
  have O6 := Lib.hid ho6
  have Q6 := Lib.hid hq6
  have Z6 := Lib.hid (show ∀ k, Mine p2 v2 k → k < w6.heap.size from fun k hk => (ho6.mine hk).2)
  have k0 := hq6.c0
  have k1 := hq6.c1
  have k2 := hq6.c2
  have k3 := hq6.c3
  clear hb6 hp6 ho6 hq6 P5 O5 Q5
  go_wp2_with fail
  refine (R2.out _ p v1 A1 c1 P6.out).mono ?_
  rintro e w7 hr
  obtain ⟨A2, c2, v3, rfl, hp7, hst7, hown7⟩ := P6.out.ran hr
  have ho7 : Pair w w7 p2 L v2 s1 A1 c1 := O6.out.rest hst7.rest (fun k hk _ => (P6.out.mine hk).1) (fun k hk hm => by have := HM1.out k hm; have := HM2.out k hk; omega) (fun k hk hm => P6.out.ap k hk hm)
  have hq7 : QBox w7 b1 (.int .i64 L) (.slice A1 s1.F.length c1) (.int .i64 s1.T) (.bool s1.C) := ⟨(hst7.rest.block b1 Q6.out.lt (fun hm => N3.out b1 hm rfl)).trans Q6.out.blk⟩
  have hb8 : Below w7.heap.size w7 (w7.alloc (.cells #[.int .i64 L, .slice A2 s2.F.length c2, .int .i64 s2.T, .bool s2.C] 31)) := (Below.refl _ _).alloc (Nat.le_refl _) _
  have hq15 := qbox_new w7 (.int .i64 L) (.slice A2 s2.F.length c2) (.int .i64 s2.T) (.bool s2.C)
  have hq8 := hq7.below hb8 hq7.lt
  have P8 := Lib.hid (hp7.below hb8)
  have O8 := Lib.hid (ho7.below hb8)
  have Q8 := Lib.hid hq8
  have Q15 := Lib.hid hq15
  have Z7 := Lib.hid hst7.rest.size
  have V3 := Lib.hid hst7.own
  have W7 := Lib.hid hown7
  have k0' := hq8.c0
  have k1' := hq8.c1
  have k2' := hq8.c2
  have k3' := hq8.c3
  clear hr hp7 hst7 hown7 ho7 hq7 hb8 hq15 hq8 k0 k1 k2 k3
  go_wp2_with fail
  refine (R3.out _ p2 v2 A1 c1 O8.out).mono ?_
  rintro e w9 hr
  obtain ⟨A3, c3, v4, rfl, hp9, hst9, hown9⟩ := O8.out.ran hr
  have hpr9 : Pair w w9 p L v3 s2 A2 c2 := P8.out.rest hst9.rest (fun k hk _ => (O8.out.mine hk).1) (fun k hk hm => by
      have h2 := HM2.out k hm
      have h6 := Z6.out k hm
      rcases hk with rfl | e
      · have := HM1.out k (.inl rfl); omega
      · rcases V3.out k e with e' | e'
        · have := HM1.out k (.inr e'); omega
        · omega) (fun k hk hm => by
      have h6 := Z6.out k hm
      rcases W7.out k hk with e' | e'
      · exact O8.out.ap k e' hm
      · omega)
  have hq9 : QBox w9 w7.heap.size (.int .i64 L) (.slice A2 s2.F.length c2) (.int .i64 s2.T) (.bool s2.C) := ⟨(hst9.rest.block w7.heap.size (by simp) (fun hm => by have h6 := Z6.out _ hm; have := Z7.out; omega)).trans Q15.out.blk⟩
  have hb10 : Below w9.heap.size w9 (w9.alloc (.cells #[.int .i64 L, .slice A3 s3.F.length c3, .int .i64 s3.T, .bool s3.C] 31)) := (Below.refl _ _).alloc (Nat.le_refl _) _
  have hq17 := qbox_new w9 (.int .i64 L) (.slice A3 s3.F.length c3) (.int .i64 s3.T) (.bool s3.C)
  have hq10 := hq9.below hb10 hq9.lt
  have P10 := Lib.hid (hpr9.below hb10)
  have O10 := Lib.hid (hp9.below hb10)
  have Q17 := Lib.hid hq17
  have k0 := hq10.c0
  have k1 := hq10.c1
  have k2 := hq10.c2
  have k3 := hq10.c3
  clear hr hp9 hst9 hown9 hpr9 hq9 hb10 hq17 hq10 k0' k1' k2' k3'
  go_wp2_with fail
  refine (pair_is P10.out OK2.out (by omega)).mono ?_
  rintro e w11 ⟨rfl, hb11⟩
  have hq11 := Q17.out.below hb11 Q17.out.lt
  have O11 := Lib.hid (O10.out.below hb11)
  have l0 := hq11.c0
  have l1 := hq11.c1
  have l2 := hq11.c2
  have l3 := hq11.c3
  clear hb11 hq11 k0 k1 k2 k3
  go_wp2_with fail
  refine (pair_is O11.out OK3.out (by omega)).mono ?_
  rintro e w12 ⟨rfl, hb12⟩
  have O12 := Lib.hid (O11.out.below hb12)
  clear hb12 l0 l1 l2 l3
  go_wp2_with fail
  refine (known_any _).mono ?_
  rintro e w' ⟨rfl, hb⟩
  have HB := Lib.hid hb
  clear hb
  go_wp2
  go_ret
  exact ⟨rfl, O12.out.mid.below.trans (HB.out.mono O12.out.mid.below.size)⟩
end Go.Proofs.Ytociidinfdbaeaa
