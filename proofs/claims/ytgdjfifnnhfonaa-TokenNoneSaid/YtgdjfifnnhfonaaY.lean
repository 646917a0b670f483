/- The walk of TokenNone: it returns true and changes nothing that was there. No conditions. -/
import Derived.Test.YtgdjfifnnhfonaaX
namespace Go.Proofs.Ytgdjfifnnhfonaa
open Go.RowKit Go.Shelf
attribute [local go_sem] Oper.semAt_some

/-- The result, and the two readers that the loop visits: nil, and a zero value. -/
structure NoneEl (w W : World) (z s : Nat) : Prop where
  r : Boxed W w.heap.size 4 (.bool false)
  below : Below w.heap.size w W
  lt : w.heap.size + 1 ≤ W.heap.size
  zlt : z < W.heap.size
  slt : s < W.heap.size
  zc : W.cell? ⟨z, 1, none⟩ = some (.int .i64 0)
  s0 : W.cell? ⟨s, 0, none⟩ = some (.pointer none)
  s1 : W.cell? ⟨s, 1, none⟩ = some (.pointer (some ⟨z, 0, none⟩))
theorem NoneEl.later {w W W' : World} {z s : Nat} (h : NoneEl w W z s) (hb : Below W.heap.size W W') : NoneEl w W' z s :=
  ⟨boxed_below h.r hb h.r.lt, h.below.trans (hb.mono h.below.size), Nat.le_trans h.lt hb.size, Nat.lt_of_lt_of_le h.zlt hb.size, Nat.lt_of_lt_of_le h.slt hb.size, (hb.cell (p := ⟨z, 1, none⟩) h.zlt).trans h.zc, (hb.cell (p := ⟨s, 0, none⟩) h.slt).trans h.s0, (hb.cell (p := ⟨s, 1, none⟩) h.slt).trans h.s1⟩
theorem noneEl_new (w : World) (t2 : TypeId) :
    NoneEl w (((w.alloc (.cells #[.bool false] 4)).alloc (.cells #[.slice none 0 0, .int .i64 0, .int .i64 0] 69)).alloc (.cells #[.pointer none, .pointer (some ⟨w.heap.size + 1, 0, none⟩)] t2)) (w.heap.size + 1) (w.heap.size + 1 + 1) := by
  have e1 : (w.alloc (.cells #[.bool false] 4)).heap.size = w.heap.size + 1 := by simp
  have e2 : ((w.alloc (.cells #[.bool false] 4)).alloc (.cells #[.slice none 0 0, .int .i64 0, .int .i64 0] 69)).heap.size = w.heap.size + 1 + 1 := by simp
  refine ⟨((Boxed.new w 4 (.bool false)).alloc _).alloc _, (((Below.refl _ w).alloc (Nat.le_refl _) _).alloc (by simp) _).alloc (by simp; omega) _, (by simp; try omega), (by simp; try omega), by simp, ?_, ?_, ?_⟩
  · exact (World.cell?_alloc_lt _ _ _ (by simp)).trans (cell_new_at _ _ 69 _ 1 e1)
  · exact cell_new_at _ _ t2 _ 0 e2
  · exact cell_new_at _ _ t2 _ 1 e2

set_option maxRecDepth 100000 in
set_option maxHeartbeats 4000000 in
theorem none_walk (s : ByteArray) (w : World) :
    Calls Try.prog 7 #[.string s] w fun e w' => e = .returned (.bool true) ∧ Below w.heap.size w w' := by
  have HE0 := Lib.hid (noneEl_new w 49)
  have hq := eql62
  by_cases h5 : (50 : Int) < (s.size : Int)
  · have HB := Lib.hid ((Below.refl w.heap.size w).alloc (Nat.le_refl _) (.cells #[.bool false] 4))
    have HBX := Lib.hid (Boxed.new w 4 (.bool false))
    clear HE0 hq
    go_enter Try.func7, Try.ntmps7
    go_wp2_with fail
    refine (known_any _).mono ?_
    rintro e w2 ⟨rfl, hb2⟩
    have hbx := boxed_below HBX.out hb2 HBX.out.lt
    have hb := HB.out.trans (hb2.mono HB.out.size)
    have c := hbx.cell
    have f := hbx.frozen
    have HX := Lib.hid hbx
    have HB2 := Lib.hid hb
    clear hbx hb hb2 HB HBX
    go_wp2_with fail
    have c2 := (Boxed.set (.bool true) HX.out).cell
    have hb := HB2.out.setCell (p := ⟨w.heap.size, 0, none⟩) (Nat.le_refl _) (.bool true)
    generalize w2.setCell ⟨w.heap.size, 0, none⟩ (.bool true) = w3 at c2 hb ⊢
    refine bodyPost_ret (by simp [results, Try.results7, go_sem, c2]; try rfl) rfl ?_
    exact ⟨rfl, hb⟩
  · refine (callsIn_wide (n := 6)).1 ?_
    refine callsIn_of_wp_marks Try.func7 rfl trivial ?_ rfl
    simp only [Try.ntmps7, List.size_toArray, List.length_cons, List.length_nil, Nat.reduceAdd, Nat.reduceSub, Array.replicate_succ, Array.replicate_zero, List.push_toArray, List.append_toArray, List.nil_append, List.cons_append]
    gi_wp2_with fail
    refine wpIn_loop_rounds 3 ?_
    have he := HE0.out
    clear HE0
    generalize ((w.alloc (.cells #[.bool false] 4)).alloc (.cells #[.slice none 0 0, .int .i64 0, .int .i64 0] 69)).alloc (.cells #[.pointer none, .pointer (some ⟨w.heap.size + 1, 0, none⟩)] 49) = W1 at he ⊢
    have HE1 := Lib.hid he
    clear he
    rw [roundsIn_succ]
    have s0 := HE1.out.s0
    have HN := Lib.hid (show NoR (.pointer none) W1 from noR_nil _)
    gi_wp2_with fail
    refine ⟨trivial, ?_⟩
    refine (callsIn_wide.2 (nopeek _ _ HN.out)).mono ?_
    clear s0
    rintro e wa ⟨rfl, hb⟩
    obtain ⟨q1, eq1⟩ : ∃ q1, wa.heap.size = q1 := ⟨_, rfl⟩
    obtain ⟨w1, hw1⟩ : ∃ w1, wa.alloc (.cells #[.int .i64 0, .string ⟨#[]⟩, .int .i64 0, .int .i64 0, .int .i64 0] 36) = w1 := ⟨_, rfl⟩
    have hb1 : Below _ _ w1 := hb.trans (by rw [← hw1]; exact ((Below.refl wa.heap.size wa).alloc (Nat.le_refl _) _).mono hb.size)
    have hx := tbox_new wa (.int .i64 0) (.string ⟨#[]⟩) (.int .i64 0) (.int .i64 0) (.int .i64 0)
    rw [hw1, eq1] at hx
    have HN1 := Lib.hid (HN.out.later hb1)
    have HE1 := Lib.hid (HE1.out.later hb1)
    skip
    have HX := Lib.hid hx
    have HW1 := Lib.hid hw1
    have EQ1 := Lib.hid eq1
    clear hb hb1 hx hw1 eq1 HN
    gi_wp2_with fail
    rw [HW1.out, EQ1.out]
    refine ⟨trivial, ?_⟩
    refine (callsIn_wide.2 (nonext _ _ HN1.out)).mono ?_
    rintro e wb ⟨rfl, hb⟩
    obtain ⟨q2, eq2⟩ : ∃ q2, wb.heap.size = q2 := ⟨_, rfl⟩
    obtain ⟨w2, hw2⟩ : ∃ w2, wb.alloc (.cells #[.int .i64 0, .string ⟨#[]⟩, .int .i64 0, .int .i64 0, .int .i64 0] 36) = w2 := ⟨_, rfl⟩
    have hb1 : Below _ _ w2 := hb.trans (by rw [← hw2]; exact ((Below.refl wb.heap.size wb).alloc (Nat.le_refl _) _).mono hb.size)
    have hy := tbox_new wb (.int .i64 0) (.string ⟨#[]⟩) (.int .i64 0) (.int .i64 0) (.int .i64 0)
    rw [hw2, eq2] at hy
    have HN2 := Lib.hid (HN1.out.later hb1)
    have HE2 := Lib.hid (HE1.out.later hb1)
    skip
    have HX2 := Lib.hid (HX.out.below hb1 HX.out.lt)
    have HY2 := Lib.hid hy
    have HW2 := Lib.hid hw2
    have EQ2 := Lib.hid eq2
    clear hb hb1 hy hw2 eq2 HN1 HE1 HX HW1 EQ1
    gi_wp2_with fail
    rw [HW2.out, EQ2.out]
    refine ⟨trivial, ?_⟩
    refine (callsIn_wide.2 (noword _ _ HN2.out)).mono ?_
    rintro e w3 ⟨rfl, hb3⟩
    gi_wp2_with fail
    refine ⟨trivial, ?_⟩
    refine (callsIn_wide.2 (nonumber _ _ (HN2.out.later hb3))).mono ?_
    rintro e w4 ⟨rfl, hb4⟩
    gi_wp2_with fail
    refine ⟨trivial, ?_⟩
    refine (callsIn_wide.2 (norest _ _ (HN2.out.later (hb3.trans (hb4.mono hb3.size))))).mono ?_
    rintro e w5 ⟨rfl, hw5⟩
    obtain ⟨q5, eq5⟩ : ∃ q5, w4.heap.size = q5 := ⟨_, rfl⟩
    have hb5 := (hb3.trans (hb4.mono hb3.size)).trans (((Below.refl w4.heap.size w4).alloc (Nat.le_refl _) (.cells #[.slice none 0 0] 23)).mono (hb3.trans (hb4.mono hb3.size)).size)
    have hz := Boxed.new w4 23 (.slice none 0 0)
    rw [hw5] at hb5 hz
    rw [eq5] at hz ⊢
    have HN5 := Lib.hid (HN2.out.later hb5)
    have HE5 := Lib.hid (HE2.out.later hb5)
    skip
    have hx := HX2.out.below hb5 HX2.out.lt
    have hy := HY2.out.below hb5 HY2.out.lt
    have xc0 := hx.c0
    have xc1 := hx.c1
    have xc2 := hx.c2
    have xc3 := hx.c3
    have xc4 := hx.c4
    have yc0 := hy.c0
    have yc1 := hy.c1
    have yc2 := hy.c2
    have yc3 := hy.c3
    have yc4 := hy.c4
    have HZ := Lib.hid hz
    clear hb3 hb4 hb5 hw5 eq5 hz hx hy HN2 HE2 HX2 HY2 HW2 EQ2
    gi_wp2_with (first
      | (refine ⟨trivial, ?_⟩; gi_at_call 21; refine (callsIn_wide.2 (notake _ s _ HN5.out)).mono ?_; rintro e w6 ⟨rfl, hb6⟩)
      | (refine ⟨trivial, ?_⟩; gi_at_call 24; refine (callsIn_wide.2 (noplace _ _ (HN5.out.later hb6))).mono ?_; rintro e w7 ⟨rfl, hb7⟩))
    have hb67 := hb6.trans (hb7.mono hb6.size)
    have HE7 := Lib.hid (HE5.out.later hb67)
    skip
    have hz7 := boxed_below HZ.out hb67 HZ.out.lt
    have ST := Lib.hid (none_stops (6 - 1) q5 w7 hz7)
    clear hb6 hb7 hb67 hz7 HZ HE5 HN5 xc0 xc1 xc2 xc3 xc4 yc0 yc1 yc2 yc3 yc4
    refine wpIn_rangeFunc_ownF rfl (by decide) (gf := 54) (lb := #[.pointer (some ⟨q5, 0, none⟩)]) rfl trivial Try.ent54
      ST.out (fun _ _ => trivial) (fun _ _ _ _ _ _ _ _ => trivial) (Below.refl _ _) (fun _ => rfl)
      (fun (_ : List Bool) (W : World) => Below w7.heap.size w7 W) (fun _ _ _ => False) (fun _ _ _ _ h hg hr => h.grown hg h.size (fun k e => (hr k e).1)) (fun _ _ _ _ _ hs _ _ => hs) (Below.refl _ _) ?a11 ?assign11 ?body11 ?done11 ?stop11
    case assign11 =>
      intro l x W K hK
      have HK9 := Lib.hid hK
      clear hK
      gi_wp2
      exact HK9.out
    case body11 =>
      rintro lo pre x W hI hlt
      exact absurd hlt (Nat.not_lt_zero _)
    case stop11 =>
      rintro D0 c pre W _ _ h _
      exact h.elim
    case done11 =>
      rintro D xs W2 hD rfl hI hK
      have HE2 := Lib.hid (HE7.out.later hI)
      have HK := Lib.hid hK
      have hD' : w.heap.size ≤ D := by have := HE7.out.lt; omega
      clear hI hK HE7 ST
      gi_wp2_with fail
      rw [roundsIn_succ]
      have s0 := HE2.out.s1
      have HN := Lib.hid (show NoR (.pointer (some ⟨w.heap.size + 1, 0, none⟩)) W2 from noR_zero (w.heap.size + 1) _ HE2.out.zc HE2.out.zlt)
      gi_wp2_with fail
      refine ⟨trivial, ?_⟩
      refine (callsIn_wide.2 (nopeek _ _ HN.out)).mono ?_
      clear s0
      rintro e wa ⟨rfl, hb⟩
      obtain ⟨q1, eq1⟩ : ∃ q1, wa.heap.size = q1 := ⟨_, rfl⟩
      obtain ⟨w1, hw1⟩ : ∃ w1, wa.alloc (.cells #[.int .i64 0, .string ⟨#[]⟩, .int .i64 0, .int .i64 0, .int .i64 0] 36) = w1 := ⟨_, rfl⟩
      have hb1 : Below _ _ w1 := hb.trans (by rw [← hw1]; exact ((Below.refl wa.heap.size wa).alloc (Nat.le_refl _) _).mono hb.size)
      have hx := tbox_new wa (.int .i64 0) (.string ⟨#[]⟩) (.int .i64 0) (.int .i64 0) (.int .i64 0)
      rw [hw1, eq1] at hx
      have HN1 := Lib.hid (HN.out.later hb1)
      have HE1 := Lib.hid (HE2.out.later hb1)
      have HK1 := Lib.hid ((hb1.block D (Array.getElem?_eq_some_iff.1 HK.out).1).trans HK.out)
      have HX := Lib.hid hx
      have HW1 := Lib.hid hw1
      have EQ1 := Lib.hid eq1
      clear hb hb1 hx hw1 eq1 HN
      gi_wp2_with fail
      rw [HW1.out, EQ1.out]
      refine ⟨trivial, ?_⟩
      refine (callsIn_wide.2 (nonext _ _ HN1.out)).mono ?_
      rintro e wb ⟨rfl, hb⟩
      obtain ⟨q2, eq2⟩ : ∃ q2, wb.heap.size = q2 := ⟨_, rfl⟩
      obtain ⟨w2, hw2⟩ : ∃ w2, wb.alloc (.cells #[.int .i64 0, .string ⟨#[]⟩, .int .i64 0, .int .i64 0, .int .i64 0] 36) = w2 := ⟨_, rfl⟩
      have hb1 : Below _ _ w2 := hb.trans (by rw [← hw2]; exact ((Below.refl wb.heap.size wb).alloc (Nat.le_refl _) _).mono hb.size)
      have hy := tbox_new wb (.int .i64 0) (.string ⟨#[]⟩) (.int .i64 0) (.int .i64 0) (.int .i64 0)
      rw [hw2, eq2] at hy
      have HN2 := Lib.hid (HN1.out.later hb1)
      have HE2 := Lib.hid (HE1.out.later hb1)
      have HK2 := Lib.hid ((hb1.block D (Array.getElem?_eq_some_iff.1 HK1.out).1).trans HK1.out)
      have HX2 := Lib.hid (HX.out.below hb1 HX.out.lt)
      have HY2 := Lib.hid hy
      have HW2 := Lib.hid hw2
      have EQ2 := Lib.hid eq2
      clear hb hb1 hy hw2 eq2 HN1 HE1 HX HW1 EQ1
      gi_wp2_with fail
      rw [HW2.out, EQ2.out]
      refine ⟨trivial, ?_⟩
      refine (callsIn_wide.2 (noword _ _ HN2.out)).mono ?_
      rintro e w3 ⟨rfl, hb3⟩
      gi_wp2_with fail
      refine ⟨trivial, ?_⟩
      refine (callsIn_wide.2 (nonumber _ _ (HN2.out.later hb3))).mono ?_
      rintro e w4 ⟨rfl, hb4⟩
      gi_wp2_with fail
      refine ⟨trivial, ?_⟩
      refine (callsIn_wide.2 (norest _ _ (HN2.out.later (hb3.trans (hb4.mono hb3.size))))).mono ?_
      rintro e w5 ⟨rfl, hw5⟩
      obtain ⟨q5, eq5⟩ : ∃ q5, w4.heap.size = q5 := ⟨_, rfl⟩
      have hb5 := (hb3.trans (hb4.mono hb3.size)).trans (((Below.refl w4.heap.size w4).alloc (Nat.le_refl _) (.cells #[.slice none 0 0] 23)).mono (hb3.trans (hb4.mono hb3.size)).size)
      have hz := Boxed.new w4 23 (.slice none 0 0)
      rw [hw5] at hb5 hz
      rw [eq5] at hz ⊢
      have HN5 := Lib.hid (HN2.out.later hb5)
      have HE5 := Lib.hid (HE2.out.later hb5)
      have HK5 := Lib.hid ((hb5.block D (Array.getElem?_eq_some_iff.1 HK2.out).1).trans HK2.out)
      have hx := HX2.out.below hb5 HX2.out.lt
      have hy := HY2.out.below hb5 HY2.out.lt
      have xc0 := hx.c0
      have xc1 := hx.c1
      have xc2 := hx.c2
      have xc3 := hx.c3
      have xc4 := hx.c4
      have yc0 := hy.c0
      have yc1 := hy.c1
      have yc2 := hy.c2
      have yc3 := hy.c3
      have yc4 := hy.c4
      have HZ := Lib.hid hz
      clear hb3 hb4 hb5 hw5 eq5 hz hx hy HN2 HE2 HX2 HY2 HW2 EQ2
      gi_wp2_with (first
        | (refine ⟨trivial, ?_⟩; gi_at_call 21; refine (callsIn_wide.2 (notake _ s _ HN5.out)).mono ?_; rintro e w6 ⟨rfl, hb6⟩)
        | (refine ⟨trivial, ?_⟩; gi_at_call 24; refine (callsIn_wide.2 (noplace _ _ (HN5.out.later hb6))).mono ?_; rintro e w7 ⟨rfl, hb7⟩))
      have hb67 := hb6.trans (hb7.mono hb6.size)
      have HE7 := Lib.hid (HE5.out.later hb67)
      have HK7 := Lib.hid ((hb67.block D (Array.getElem?_eq_some_iff.1 HK5.out).1).trans HK5.out)
      have hz7 := boxed_below HZ.out hb67 HZ.out.lt
      have ST := Lib.hid (none_stops (6 - 1) q5 w7 hz7)
      clear hb6 hb7 hb67 hz7 HZ HE5 HN5 xc0 xc1 xc2 xc3 xc4 yc0 yc1 yc2 yc3 yc4
      refine wpIn_rangeFunc_ownF rfl (by decide) (gf := 54) (lb := #[.pointer (some ⟨q5, 0, none⟩)]) rfl trivial Try.ent54
        ST.out (fun _ _ => trivial) (fun _ _ _ _ _ _ _ _ => trivial) (Below.refl _ _) (fun _ => rfl)
        (fun (_ : List Bool) (W : World) => Below w7.heap.size w7 W) (fun _ _ _ => False) (fun _ _ _ _ h hg hr => h.grown hg h.size (fun k e => (hr k e).1)) (fun _ _ _ _ _ hs _ _ => hs) (Below.refl _ _) ?a12 ?assign12 ?body12 ?done12 ?stop12
      case assign12 =>
        intro l x W K hK
        have HK9 := Lib.hid hK
        clear hK
        gi_wp2
        exact HK9.out
      case body12 =>
        rintro lo pre x W hI hlt
        exact absurd hlt (Nat.not_lt_zero _)
      case stop12 =>
        rintro D0 c pre W _ _ h _
        exact h.elim
      case done12 =>
        rintro D2 xs W3 hD2 rfl hI hK3
        have hD2' : w.heap.size ≤ D2 := by have := HE7.out.lt; omega
        have HE7 := Lib.hid (HE7.out.later hI)
        have HK4 := Lib.hid ((hI.block D (Array.getElem?_eq_some_iff.1 HK7.out).1).trans HK7.out)
        have hne : D ≠ D2 := by
          have := (Array.getElem?_eq_some_iff.1 HK7.out).1
          omega
        have HK3 := Lib.hid hK3
        clear hI hK3 HK7 HK5 ST
        gi_wp2_with fail
        rw [roundsIn_succ]
        gi_wp2_with fail
        refine ⟨trivial, ?_⟩
        refine (callsIn_wide.2 (known_any _)).mono ?_
        rintro e w8 ⟨rfl, hb8⟩
        have he8 := HE7.out.later hb8
        have HK5 := Lib.hid ((hb8.block D (Array.getElem?_eq_some_iff.1 HK4.out).1).trans HK4.out)
        have HK6 := Lib.hid ((hb8.block D2 (Array.getElem?_eq_some_iff.1 HK3.out).1).trans HK3.out)
        have cr := he8.r.cell
        have cf := he8.r.frozen
        have HE8 := Lib.hid he8
        clear hb8 he8 HE7 HK4 HK3
        gi_wp2
        have hb9 := Boxed.set (.bool true) HE8.out.r
        have n1 : D ≠ w.heap.size := fun e => by
          have hx := HK5.out
          rw [e, show w8.heap[w.heap.size]? = _ from HE8.out.r] at hx
          cases hx
        have n2 : D2 ≠ w.heap.size := fun e => by
          have hx := HK6.out
          rw [e, show w8.heap[w.heap.size]? = _ from HE8.out.r] at hx
          cases hx
        have k1 := (Below.heap_setCell w8 ⟨w.heap.size, 0, none⟩ (.bool true) D n1).trans HK5.out
        have k2 := (Below.heap_setCell w8 ⟨w.heap.size, 0, none⟩ (.bool true) D2 n2).trans HK6.out
        have hbw := HE8.out.below.setCell (p := ⟨w.heap.size, 0, none⟩) (Nat.le_refl _) (.bool true)
        have hsz8 := HE8.out.lt
        obtain ⟨w9, hw9⟩ : ∃ w9, w8.setCell ⟨w.heap.size, 0, none⟩ (.bool true) = w9 := ⟨_, rfl⟩
        rw [hw9] at hb9 k1 k2 hbw ⊢
        clear hw9 cr cf HK5 HK6 HE8
        have k3 : (w9.putObj D2 (.deferred none)).heap[D]? = _ := (World.putObj_heap_other hne).trans k1
        have hb10 : Boxed (w9.putObj D2 (.deferred none)) w.heap.size 4 (.bool true) := (World.putObj_heap_other n2.symm).trans hb9
        have hb11 : Boxed ((w9.putObj D2 (.deferred none)).putObj D (.deferred none)) w.heap.size 4 (.bool true) := (World.putObj_heap_other n1.symm).trans hb10
        have hbw2 := hbw.grown (grownBy_putObj' w9 D2 (.deferred none)) hbw.size (fun k e => by cases e; exact hD2')
        have hbw3 := hbw2.grown (grownBy_putObj' (w9.putObj D2 (.deferred none)) D (.deferred none)) hbw2.size (fun k e => by cases e; exact hD')
        refine ⟨by simp, .inl ⟨_, _, rfl, run_takeDeferred k2, ?_⟩⟩
        refine ⟨by simp, .inl ⟨_, _, rfl, run_takeDeferred k3, ?_⟩⟩
        exact ⟨.bool true, by simp [results, Try.results7, go_sem, hb11.cell], rfl, hbw3⟩
end Go.Proofs.Ytgdjfifnnhfonaa
