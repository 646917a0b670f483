/- The walk of SourceNone: it returns true and changes nothing that was there. No conditions beyond the bounds of the kinds. -/
import Derived.Test.YtociidinfdbaeaaPl
import Derived.RangeFuncNested
import Derived.RangeFuncBound
import Derived.RangeFuncCalls
import Derived.RangeFuncLeaves
import Derived.TacticsInMore
import Derived.LoopNIn
import Derived.LoopIn
namespace Go.Proofs.Ytociidinfdbaeaa
open Go.RowKit Go.Shelf
attribute [local go_sem] Oper.semAt_some

theorem cell_new_at (w : World) (C : Array Value) (t : TypeId) (s j : Nat) (hs : w.heap.size = s) : (w.alloc (.cells C t)).cell? ⟨s, j, none⟩ = C[j]? := by
  subst hs
  exact World.cell?_alloc_new w _ _ j

theorem run_equalIn_func_nil {P : Program} (w : World) (d : Nat) (t : TypeId) (f : Fn) (fi ca : Array Value) (h : ∃ ps rs v, P.underlying t = some (.func ps rs v)) :
    (Op.equalIn (d + 1) t (.func f fi ca) .nilFunc).run P w = .ok false w := by
  obtain ⟨ps, rs, v, h⟩ := h
  simp [Op.equalIn, run_underlying h]
theorem run_eql_func_nil {P : Program} (w : World) (t : TypeId) (f : Fn) (fi ca : Array Value) (h : ∃ ps rs v, P.underlying t = some (.func ps rs v)) :
    (binOp .eql t (.func f fi ca) .nilFunc).run P w = .ok (.bool false) w := by
  simp only [binOp]
  simp [Op.equal, Op.maxDepth, run_equalIn_func_nil w 9999 t f fi ca h]

theorem Try.underlying41 : ∃ ps rs v, Try.prog.underlying 41 = some (.func ps rs v) := ⟨#[65], #[], false, by kernel_rfl⟩
theorem eql41 (w : World) (f : Fn) (fi ca : Array Value) : (binOp .eql 41 (.func f fi ca) .nilFunc).run Try.prog w = .ok (.bool false) w :=
  run_eql_func_nil w 41 f fi ca Try.underlying41

theorem Try.ent32 : ∀ args w, (callFunc 32 args).run Try.prog w = .ok (.enter 32 args) w := enters_of Try.func32 (by kernel_rfl) rfl

/-- The memory of SourceNone: the argument and the result. -/
structure NoneMem (w W : World) (kd N E : Int) (A : Option Addr) (m c : Nat) : Prop where
  a0 : W.cell? ⟨w.heap.size, 0, none⟩ = some (.int .u8 kd)
  a1 : W.cell? ⟨w.heap.size, 1, none⟩ = some (.slice A m c)
  a2 : W.cell? ⟨w.heap.size, 2, none⟩ = some (.int .i64 N)
  a3 : W.cell? ⟨w.heap.size, 3, none⟩ = some (.int .u8 E)
  r : Boxed W (w.heap.size + 1) 4 (.bool false)
  below : Below w.heap.size w W
  lt : w.heap.size + 1 + 1 ≤ W.heap.size
theorem NoneMem.later {w W W' : World} {kd N E : Int} {A : Option Addr} {m c : Nat} (h : NoneMem w W kd N E A m c) (hb : Below W.heap.size W W') : NoneMem w W' kd N E A m c :=
  ⟨(hb.cell (p := ⟨w.heap.size, 0, none⟩) (by have := h.lt; show w.heap.size < _; omega)).trans h.a0, (hb.cell (p := ⟨w.heap.size, 1, none⟩) (by have := h.lt; show w.heap.size < _; omega)).trans h.a1,
   (hb.cell (p := ⟨w.heap.size, 2, none⟩) (by have := h.lt; show w.heap.size < _; omega)).trans h.a2, (hb.cell (p := ⟨w.heap.size, 3, none⟩) (by have := h.lt; show w.heap.size < _; omega)).trans h.a3,
   boxed_below h.r hb h.r.lt, h.below.trans (hb.mono h.below.size), Nat.le_trans h.lt hb.size⟩

theorem noneMem_new (w : World) (kd N E : Int) (A : Option Addr) (m c : Nat) : NoneMem w ((w.alloc (.cells #[.int .u8 kd, .slice A m c, .int .i64 N, .int .u8 E] 53)).alloc (.cells #[.bool false] 4)) kd N E A m c := by
  have hx : ∀ j, ((w.alloc (.cells #[.int .u8 kd, .slice A m c, .int .i64 N, .int .u8 E] 53)).alloc (.cells #[.bool false] 4)).cell? ⟨w.heap.size, j, none⟩ = (#[.int .u8 kd, .slice A m c, .int .i64 N, .int .u8 E] : Array Value)[j]? := fun j =>
    (World.cell?_alloc_lt _ _ _ (by simp)).trans (cell_new_at w _ 53 _ j rfl)
  refine ⟨hx 0, hx 1, hx 2, hx 3, ?_, ((Below.refl _ w).alloc (Nat.le_refl _) _).alloc (by simp) _, by simp⟩
  have := Boxed.new (w.alloc (.cells #[.int .u8 kd, .slice A m c, .int .i64 N, .int .u8 E] 53)) 4 (.bool false)
  rw [World.size_alloc] at this
  exact this

/-- The two elements that the loop visits: nil, and a zero value. -/
structure NoneEl (w W : World) (kd N E : Int) (A : Option Addr) (m c : Nat) (z s : Nat) : Prop where
  mem : NoneMem w W kd N E A m c
  zlt : z < W.heap.size
  slt : s < W.heap.size
  zc : W.cell? ⟨z, 1, none⟩ = some (.int .i64 0)
  s0 : W.cell? ⟨s, 0, none⟩ = some (.pointer none)
  s1 : W.cell? ⟨s, 1, none⟩ = some (.pointer (some ⟨z, 0, none⟩))
theorem NoneEl.later {w W W' : World} {kd N E : Int} {A : Option Addr} {m c z s : Nat} (h : NoneEl w W kd N E A m c z s) (hb : Below W.heap.size W W') : NoneEl w W' kd N E A m c z s :=
  ⟨h.mem.later hb, Nat.lt_of_lt_of_le h.zlt hb.size, Nat.lt_of_lt_of_le h.slt hb.size, (hb.cell (p := ⟨z, 1, none⟩) h.zlt).trans h.zc, (hb.cell (p := ⟨s, 0, none⟩) h.slt).trans h.s0, (hb.cell (p := ⟨s, 1, none⟩) h.slt).trans h.s1⟩
theorem noneEl_new {w W : World} {kd N E : Int} {A : Option Addr} {m c : Nat} (h : NoneMem w W kd N E A m c) (t t2 : TypeId) (z s : Nat) (hz : W.heap.size = z) (hs : z + 1 = s) :
    NoneEl w ((W.alloc (.cells #[.slice none 0 0, .int .i64 0, .int .i64 0, .bool false] t)).alloc (.cells #[.pointer none, .pointer (some ⟨z, 0, none⟩)] t2)) kd N E A m c z s := by
  subst hz hs
  have hb : Below W.heap.size W ((W.alloc (.cells #[.slice none 0 0, .int .i64 0, .int .i64 0, .bool false] t)).alloc (.cells #[.pointer none, .pointer (some ⟨W.heap.size, 0, none⟩)] t2)) := ((Below.refl _ W).alloc (Nat.le_refl _) _).alloc (by simp) _
  refine ⟨h.later hb, by simp; omega, by simp, ?_, ?_, ?_⟩
  · exact (World.cell?_alloc_lt _ _ _ (by simp)).trans (cell_new_at W _ t _ 1 rfl)
  · exact cell_new_at _ _ t2 _ 0 (by simp)
  · exact cell_new_at _ _ t2 _ 1 (by simp)

theorem none_stops (n : Nat) (w : World) : SeqStopsK Fence.wide n Try.prog 32 #[] (fun _ : Bool => #[.slice none 0 0]) (fun _ _ => True) (fun xs => xs = []) (fun _ => False) 0 w := by
  intro l J Jx W hW hJ hJx hY h0
  have HJ := Lib.hid h0
  clear h0 hY hJ hJx hW
  refine callsIn_of_wp Try.func32 rfl trivial ?_ rfl
  simp only [Try.ntmps32, List.size_toArray, List.length_cons, List.length_nil, Nat.reduceAdd, Nat.reduceSub, Array.replicate_succ, Array.replicate_zero, List.push_toArray, List.append_toArray, List.nil_append, List.cons_append]
  gi_wp2
  go_end0
  exact ⟨⟨_, rfl⟩, .inl ⟨[], rfl, HJ.out⟩⟩

set_option maxRecDepth 100000 in
set_option maxHeartbeats 4000000 in
theorem none_walk (kd N E : Int) (A : Option Addr) (m c : Nat) (w : World) (hk : 0 ≤ kd) (hk2 : kd ≤ 255) :
    Calls Try.prog 7 #[.agg #[.int .u8 kd, .slice A m c, .int .i64 N, .int .u8 E]] w fun e w' => e = .returned (.bool true) ∧ Below w.heap.size w w' := by
  have hn0 := noneMem_new w kd N E A m c
  have he0 := noneEl_new hn0 57 25 (w.heap.size + 1 + 1) (w.heap.size + 1 + 1 + 1) (by simp) rfl
  have HE0 := Lib.hid he0
  clear hn0 he0
  have hq := eql41
  by_cases h5 : kd % 7 = 5
  · skip
    refine (callsIn_wide (n := 6)).1 ?_
    refine callsIn_of_wp_marks Try.func7 rfl trivial ?_ rfl
    simp only [Try.ntmps7, List.size_toArray, List.length_cons, List.length_nil, Nat.reduceAdd, Nat.reduceSub, Array.replicate_succ, Array.replicate_zero, List.push_toArray, List.append_toArray, List.nil_append, List.cons_append]
    gi_wp2_with fail
    refine wpIn_loop_rounds 3 ?_
    rw [roundsIn_succ]
    gi_wp2_with fail
    refine ⟨trivial, ?_⟩
    refine (callsIn_wide.2 (play_nil _ kd E N A m c hk hk2)).mono ?_
    skip
    rintro e wa1 ⟨rfl, hb1⟩
    have hea1 := HE0.out.later hb1
    have a0 := hea1.mem.a0
    have a1 := hea1.mem.a1
    have a2 := hea1.mem.a2
    have a3 := hea1.mem.a3
    have hzc := hea1.zc
    have HEa1 := Lib.hid hea1
    clear hb1 hea1
    gi_wp2_with fail
    refine ⟨trivial, ?_⟩
    refine (callsIn_wide.2 (kind_any kd E N (.slice A m c) _ hk hk2)).mono ?_
    clear a0 a1 a2 a3 hzc
    rintro e wb1 ⟨rfl, hb1⟩
    have heb1 := HEa1.out.later hb1
    have hzc := heb1.zc
    have a2 := heb1.mem.a2
    have HEb1 := Lib.hid heb1
    clear hb1 heb1
    gi_wp2_with (first | (refine ⟨trivial, ?_⟩; gi_at_call 22; refine (callsIn_wide.2 (left_nil _)).mono ?_; rintro e wq ⟨rfl, rfl⟩) | (refine ⟨trivial, ?_⟩; gi_at_call 25; refine (callsIn_wide.2 (room_nil _)).mono ?_; rintro e wq ⟨rfl, rfl⟩) | (refine ⟨trivial, ?_⟩; gi_at_call 21; refine (callsIn_wide.2 (offset_nil _)).mono ?_; rintro e wq ⟨rfl, rfl⟩) | (refine ⟨trivial, ?_⟩; gi_at_call 26; refine (callsIn_wide.2 (ended_nil _)).mono ?_; rintro e wq ⟨rfl, rfl⟩) | (refine ⟨trivial, ?_⟩; gi_at_call 13; refine (callsIn_wide.2 (copy_nil _)).mono ?_; rintro e wq ⟨rfl, rfl⟩))
    refine ⟨trivial, ?_⟩
    refine (callsIn_wide.2 (chunks_nil _ N)).mono ?_
    clear hzc a2
    rintro e wc1 ⟨rfl, hb1⟩
    have hec1 := HEb1.out.later hb1
    have HEc1 := Lib.hid hec1
    clear hb1 hec1
    gi_wp2_with fail
    refine wpIn_rangeFunc_ownF rfl (by decide) (gf := 32) (lb := #[]) rfl trivial Try.ent32
      (none_stops (6 - 1) wc1) (fun _ _ => trivial) (fun _ _ _ _ _ _ _ _ => trivial) (Below.refl _ _) (fun _ => rfl)
      (fun (_ : List Bool) (W : World) => Below wc1.heap.size wc1 W) (fun _ _ _ => False) (fun _ _ _ _ h hg hr => h.grown hg h.size (fun k e => (hr k e).1)) (fun _ _ _ _ _ hs _ _ => hs) (Below.refl _ _) ?a11 ?assign11 ?body11 ?done11 ?stop11
    case assign11 =>
      intro l x W K hK
      have HK := Lib.hid hK
      clear hK
      gi_wp2
      exact HK.out
    case body11 =>
      rintro lo pre x W hI hlt
      exact absurd hlt (Nat.not_lt_zero _)
    case stop11 =>
      rintro D c pre W _ _ h _
      exact h.elim
    case done11 =>
      rintro D xs W hD rfl hI hK
      have hed := HEc1.out.later hI
      have HK1 := Lib.hid hK
      have hD' : w.heap.size ≤ D := by have := HEc1.out.mem.lt; omega
      have HED := Lib.hid hed
      clear hI hed hK HEc1
      gi_wp2_with fail
      have s1 := HED.out.s1
      have hzc := HED.out.zc
      have a0 := HED.out.mem.a0
      have a1 := HED.out.mem.a1
      have a2 := HED.out.mem.a2
      have a3 := HED.out.mem.a3
      rw [roundsIn_succ]
      gi_wp2_with fail
      refine ⟨trivial, ?_⟩
      refine (callsIn_wide.2 (play_zero (w.heap.size + 1 + 1) _ hzc kd E N A m c hk hk2)).mono ?_
      clear s1 a0 a1 a2 a3 hzc
      rintro e wa2 ⟨rfl, hb1⟩
      have hea2 := HED.out.later hb1
      have HKa := Lib.hid ((hb1.block D (Array.getElem?_eq_some_iff.1 HK1.out).1).trans HK1.out)
      have a0 := hea2.mem.a0
      have a1 := hea2.mem.a1
      have a2 := hea2.mem.a2
      have a3 := hea2.mem.a3
      have hzc := hea2.zc
      have HEa2 := Lib.hid hea2
      clear hb1 hea2
      gi_wp2_with fail
      refine ⟨trivial, ?_⟩
      refine (callsIn_wide.2 (kind_any kd E N (.slice A m c) _ hk hk2)).mono ?_
      clear a0 a1 a2 a3 hzc
      rintro e wb2 ⟨rfl, hb1⟩
      have heb2 := HEa2.out.later hb1
      have HKb := Lib.hid ((hb1.block D (Array.getElem?_eq_some_iff.1 HKa.out).1).trans HKa.out)
      have hzc := heb2.zc
      have a2 := heb2.mem.a2
      have HEb2 := Lib.hid heb2
      clear hb1 heb2
      gi_wp2_with (first | (refine ⟨trivial, ?_⟩; gi_at_call 22; refine (callsIn_wide.2 (left_zero _ _ hzc)).mono ?_; rintro e wq ⟨rfl, rfl⟩) | (refine ⟨trivial, ?_⟩; gi_at_call 25; refine (callsIn_wide.2 (room_zero _ _ hzc)).mono ?_; rintro e wq ⟨rfl, rfl⟩) | (refine ⟨trivial, ?_⟩; gi_at_call 21; refine (callsIn_wide.2 (offset_zero _ _ hzc)).mono ?_; rintro e wq ⟨rfl, rfl⟩) | (refine ⟨trivial, ?_⟩; gi_at_call 26; refine (callsIn_wide.2 (ended_zero _ _ hzc)).mono ?_; rintro e wq ⟨rfl, rfl⟩) | (refine ⟨trivial, ?_⟩; gi_at_call 13; refine (callsIn_wide.2 (copy_zero _ _ hzc)).mono ?_; rintro e wq ⟨rfl, rfl⟩))
      refine ⟨trivial, ?_⟩
      refine (callsIn_wide.2 (chunks_zero (w.heap.size + 1 + 1) _ hzc N)).mono ?_
      clear hzc a2
      rintro e wc2 ⟨rfl, hb1⟩
      have hec2 := HEb2.out.later hb1
      have HKc := Lib.hid ((hb1.block D (Array.getElem?_eq_some_iff.1 HKb.out).1).trans HKb.out)
      have HEc2 := Lib.hid hec2
      clear hb1 hec2
      gi_wp2_with fail
      refine wpIn_rangeFunc_ownF rfl (by decide) (gf := 32) (lb := #[]) rfl trivial Try.ent32
        (none_stops (6 - 1) wc2) (fun _ _ => trivial) (fun _ _ _ _ _ _ _ _ => trivial) (Below.refl _ _) (fun _ => rfl)
        (fun (_ : List Bool) (W : World) => Below wc2.heap.size wc2 W) (fun _ _ _ => False) (fun _ _ _ _ h hg hr => h.grown hg h.size (fun k e => (hr k e).1)) (fun _ _ _ _ _ hs _ _ => hs) (Below.refl _ _) ?a12 ?assign12 ?body12 ?done12 ?stop12
      case assign12 =>
        intro l x W K hK
        have HK := Lib.hid hK
        clear hK
        gi_wp2
        exact HK.out
      case body12 =>
        rintro lo pre x W hI hlt
        exact absurd hlt (Nat.not_lt_zero _)
      case stop12 =>
        rintro D c pre W _ _ h _
        exact h.elim
      case done12 =>
        rintro D2 xs W2 hD2 rfl hI hK3
        have he7 := HEc2.out.later hI
        have HK4 := Lib.hid ((hI.block D (Array.getElem?_eq_some_iff.1 HKc.out).1).trans HKc.out)
        have hne : D ≠ D2 := by
          have := (Array.getElem?_eq_some_iff.1 HKc.out).1
          omega
        have HE7 := Lib.hid he7
        have HK3 := Lib.hid hK3
        have hD2' : w.heap.size ≤ D2 := by have := HEc2.out.mem.lt; omega
        clear hI he7 hK3 HEc2 HKc HKb HKa HK1 HED HEa2 HEb2
        gi_wp2_with fail
        rw [roundsIn_succ]
        gi_wp2_with fail
        refine ⟨trivial, ?_⟩
        refine (callsIn_wide.2 (known_any _)).mono ?_
        rintro e w8 ⟨rfl, hb8⟩
        have he8 := HE7.out.later hb8
        have HK5 := Lib.hid ((hb8.block D (Array.getElem?_eq_some_iff.1 HK4.out).1).trans HK4.out)
        have HK6 := Lib.hid ((hb8.block D2 (Array.getElem?_eq_some_iff.1 HK3.out).1).trans HK3.out)
        have cr := he8.mem.r.cell
        have cf := he8.mem.r.frozen
        have HE8 := Lib.hid he8
        clear hb8 he8 HE7 HK4 HK3
        gi_wp2
        have hb9 := Boxed.set (.bool true) HE8.out.mem.r
        have n1 : D ≠ w.heap.size + 1 := fun e => by
          have hx := HK5.out
          rw [e, show w8.heap[w.heap.size + 1]? = _ from HE8.out.mem.r] at hx
          cases hx
        have n2 : D2 ≠ w.heap.size + 1 := fun e => by
          have hx := HK6.out
          rw [e, show w8.heap[w.heap.size + 1]? = _ from HE8.out.mem.r] at hx
          cases hx
        have k1 := (Below.heap_setCell w8 ⟨w.heap.size + 1, 0, none⟩ (.bool true) D n1).trans HK5.out
        have k2 := (Below.heap_setCell w8 ⟨w.heap.size + 1, 0, none⟩ (.bool true) D2 n2).trans HK6.out
        have hbw := HE8.out.mem.below.setCell (p := ⟨w.heap.size + 1, 0, none⟩) (Nat.le_succ _) (.bool true)
        have hsz8 := HE8.out.mem.lt
        obtain ⟨w9, hw9⟩ : ∃ w9, w8.setCell ⟨w.heap.size + 1, 0, none⟩ (.bool true) = w9 := ⟨_, rfl⟩
        rw [hw9] at hb9 k1 k2 hbw ⊢
        clear hw9 cr cf HK5 HK6 HE8
        have k3 : (w9.putObj D2 (.deferred none)).heap[D]? = _ := (World.putObj_heap_other hne).trans k1
        have hb10 : Boxed (w9.putObj D2 (.deferred none)) (w.heap.size + 1) 4 (.bool true) := (World.putObj_heap_other n2.symm).trans hb9
        have hb11 : Boxed ((w9.putObj D2 (.deferred none)).putObj D (.deferred none)) (w.heap.size + 1) 4 (.bool true) := (World.putObj_heap_other n1.symm).trans hb10
        have hbw2 := hbw.grown (grownBy_putObj' w9 D2 (.deferred none)) hbw.size (fun k e => by cases e; exact hD2')
        have hbw3 := hbw2.grown (grownBy_putObj' (w9.putObj D2 (.deferred none)) D (.deferred none)) hbw2.size (fun k e => by cases e; exact hD')
        refine ⟨by simp, .inl ⟨_, _, rfl, run_takeDeferred k2, ?_⟩⟩
        refine ⟨by simp, .inl ⟨_, _, rfl, run_takeDeferred k3, ?_⟩⟩
        exact ⟨.bool true, by simp [results, Try.results7, go_sem, hb11.cell], rfl, hbw3⟩
  · skip
    refine (callsIn_wide (n := 6)).1 ?_
    refine callsIn_of_wp_marks Try.func7 rfl trivial ?_ rfl
    simp only [Try.ntmps7, List.size_toArray, List.length_cons, List.length_nil, Nat.reduceAdd, Nat.reduceSub, Array.replicate_succ, Array.replicate_zero, List.push_toArray, List.append_toArray, List.nil_append, List.cons_append]
    gi_wp2_with fail
    refine wpIn_loop_rounds 3 ?_
    rw [roundsIn_succ]
    gi_wp2_with fail
    refine ⟨trivial, ?_⟩
    refine (callsIn_wide.2 (play_nil _ kd E N A m c hk hk2)).mono ?_
    skip
    rintro e wa1 ⟨rfl, hb1⟩
    have hea1 := HE0.out.later hb1
    have a0 := hea1.mem.a0
    have a1 := hea1.mem.a1
    have a2 := hea1.mem.a2
    have a3 := hea1.mem.a3
    have hzc := hea1.zc
    have HEa1 := Lib.hid hea1
    clear hb1 hea1
    gi_wp2_with fail
    refine ⟨trivial, ?_⟩
    refine (callsIn_wide.2 (kind_any kd E N (.slice A m c) _ hk hk2)).mono ?_
    clear a0 a1 a2 a3 hzc
    rintro e wb1 ⟨rfl, hb1⟩
    have heb1 := HEa1.out.later hb1
    have hzc := heb1.zc
    have a2 := heb1.mem.a2
    have HEb1 := Lib.hid heb1
    clear hb1 heb1
    gi_wp2_with (first | (refine ⟨trivial, ?_⟩; gi_at_call 22; refine (callsIn_wide.2 (left_nil _)).mono ?_; rintro e wq ⟨rfl, rfl⟩) | (refine ⟨trivial, ?_⟩; gi_at_call 25; refine (callsIn_wide.2 (room_nil _)).mono ?_; rintro e wq ⟨rfl, rfl⟩) | (refine ⟨trivial, ?_⟩; gi_at_call 21; refine (callsIn_wide.2 (offset_nil _)).mono ?_; rintro e wq ⟨rfl, rfl⟩) | (refine ⟨trivial, ?_⟩; gi_at_call 26; refine (callsIn_wide.2 (ended_nil _)).mono ?_; rintro e wq ⟨rfl, rfl⟩) | (refine ⟨trivial, ?_⟩; gi_at_call 13; refine (callsIn_wide.2 (copy_nil _)).mono ?_; rintro e wq ⟨rfl, rfl⟩))
    refine ⟨trivial, ?_⟩
    refine (callsIn_wide.2 (chunks_nil _ N)).mono ?_
    clear hzc a2
    rintro e wc1 ⟨rfl, hb1⟩
    have hec1 := HEb1.out.later hb1
    have HEc1 := Lib.hid hec1
    clear hb1 hec1
    gi_wp2_with fail
    refine wpIn_rangeFunc_ownF rfl (by decide) (gf := 32) (lb := #[]) rfl trivial Try.ent32
      (none_stops (6 - 1) wc1) (fun _ _ => trivial) (fun _ _ _ _ _ _ _ _ => trivial) (Below.refl _ _) (fun _ => rfl)
      (fun (_ : List Bool) (W : World) => Below wc1.heap.size wc1 W) (fun _ _ _ => False) (fun _ _ _ _ h hg hr => h.grown hg h.size (fun k e => (hr k e).1)) (fun _ _ _ _ _ hs _ _ => hs) (Below.refl _ _) ?a21 ?assign21 ?body21 ?done21 ?stop21
    case assign21 =>
      intro l x W K hK
      have HK := Lib.hid hK
      clear hK
      gi_wp2
      exact HK.out
    case body21 =>
      rintro lo pre x W hI hlt
      exact absurd hlt (Nat.not_lt_zero _)
    case stop21 =>
      rintro D c pre W _ _ h _
      exact h.elim
    case done21 =>
      rintro D xs W hD rfl hI hK
      have hed := HEc1.out.later hI
      have HK1 := Lib.hid hK
      have hD' : w.heap.size ≤ D := by have := HEc1.out.mem.lt; omega
      have HED := Lib.hid hed
      clear hI hed hK HEc1
      gi_wp2_with fail
      have s1 := HED.out.s1
      have hzc := HED.out.zc
      have a0 := HED.out.mem.a0
      have a1 := HED.out.mem.a1
      have a2 := HED.out.mem.a2
      have a3 := HED.out.mem.a3
      rw [roundsIn_succ]
      gi_wp2_with fail
      refine ⟨trivial, ?_⟩
      refine (callsIn_wide.2 (play_zero (w.heap.size + 1 + 1) _ hzc kd E N A m c hk hk2)).mono ?_
      clear s1 a0 a1 a2 a3 hzc
      rintro e wa2 ⟨rfl, hb1⟩
      have hea2 := HED.out.later hb1
      have HKa := Lib.hid ((hb1.block D (Array.getElem?_eq_some_iff.1 HK1.out).1).trans HK1.out)
      have a0 := hea2.mem.a0
      have a1 := hea2.mem.a1
      have a2 := hea2.mem.a2
      have a3 := hea2.mem.a3
      have hzc := hea2.zc
      have HEa2 := Lib.hid hea2
      clear hb1 hea2
      gi_wp2_with fail
      refine ⟨trivial, ?_⟩
      refine (callsIn_wide.2 (kind_any kd E N (.slice A m c) _ hk hk2)).mono ?_
      clear a0 a1 a2 a3 hzc
      rintro e wb2 ⟨rfl, hb1⟩
      have heb2 := HEa2.out.later hb1
      have HKb := Lib.hid ((hb1.block D (Array.getElem?_eq_some_iff.1 HKa.out).1).trans HKa.out)
      have hzc := heb2.zc
      have a2 := heb2.mem.a2
      have HEb2 := Lib.hid heb2
      clear hb1 heb2
      gi_wp2_with (first | (refine ⟨trivial, ?_⟩; gi_at_call 22; refine (callsIn_wide.2 (left_zero _ _ hzc)).mono ?_; rintro e wq ⟨rfl, rfl⟩) | (refine ⟨trivial, ?_⟩; gi_at_call 25; refine (callsIn_wide.2 (room_zero _ _ hzc)).mono ?_; rintro e wq ⟨rfl, rfl⟩) | (refine ⟨trivial, ?_⟩; gi_at_call 21; refine (callsIn_wide.2 (offset_zero _ _ hzc)).mono ?_; rintro e wq ⟨rfl, rfl⟩) | (refine ⟨trivial, ?_⟩; gi_at_call 26; refine (callsIn_wide.2 (ended_zero _ _ hzc)).mono ?_; rintro e wq ⟨rfl, rfl⟩) | (refine ⟨trivial, ?_⟩; gi_at_call 13; refine (callsIn_wide.2 (copy_zero _ _ hzc)).mono ?_; rintro e wq ⟨rfl, rfl⟩))
      refine ⟨trivial, ?_⟩
      refine (callsIn_wide.2 (chunks_zero (w.heap.size + 1 + 1) _ hzc N)).mono ?_
      clear hzc a2
      rintro e wc2 ⟨rfl, hb1⟩
      have hec2 := HEb2.out.later hb1
      have HKc := Lib.hid ((hb1.block D (Array.getElem?_eq_some_iff.1 HKb.out).1).trans HKb.out)
      have HEc2 := Lib.hid hec2
      clear hb1 hec2
      gi_wp2_with fail
      refine wpIn_rangeFunc_ownF rfl (by decide) (gf := 32) (lb := #[]) rfl trivial Try.ent32
        (none_stops (6 - 1) wc2) (fun _ _ => trivial) (fun _ _ _ _ _ _ _ _ => trivial) (Below.refl _ _) (fun _ => rfl)
        (fun (_ : List Bool) (W : World) => Below wc2.heap.size wc2 W) (fun _ _ _ => False) (fun _ _ _ _ h hg hr => h.grown hg h.size (fun k e => (hr k e).1)) (fun _ _ _ _ _ hs _ _ => hs) (Below.refl _ _) ?a22 ?assign22 ?body22 ?done22 ?stop22
      case assign22 =>
        intro l x W K hK
        have HK := Lib.hid hK
        clear hK
        gi_wp2
        exact HK.out
      case body22 =>
        rintro lo pre x W hI hlt
        exact absurd hlt (Nat.not_lt_zero _)
      case stop22 =>
        rintro D c pre W _ _ h _
        exact h.elim
      case done22 =>
        rintro D2 xs W2 hD2 rfl hI hK3
        have he7 := HEc2.out.later hI
        have HK4 := Lib.hid ((hI.block D (Array.getElem?_eq_some_iff.1 HKc.out).1).trans HKc.out)
        have hne : D ≠ D2 := by
          have := (Array.getElem?_eq_some_iff.1 HKc.out).1
          omega
        have HE7 := Lib.hid he7
        have HK3 := Lib.hid hK3
        have hD2' : w.heap.size ≤ D2 := by have := HEc2.out.mem.lt; omega
        clear hI he7 hK3 HEc2 HKc HKb HKa HK1 HED HEa2 HEb2
        gi_wp2_with fail
        rw [roundsIn_succ]
        gi_wp2_with fail
        refine ⟨trivial, ?_⟩
        refine (callsIn_wide.2 (known_any _)).mono ?_
        rintro e w8 ⟨rfl, hb8⟩
        have he8 := HE7.out.later hb8
        have HK5 := Lib.hid ((hb8.block D (Array.getElem?_eq_some_iff.1 HK4.out).1).trans HK4.out)
        have HK6 := Lib.hid ((hb8.block D2 (Array.getElem?_eq_some_iff.1 HK3.out).1).trans HK3.out)
        have cr := he8.mem.r.cell
        have cf := he8.mem.r.frozen
        have HE8 := Lib.hid he8
        clear hb8 he8 HE7 HK4 HK3
        gi_wp2
        have hb9 := Boxed.set (.bool true) HE8.out.mem.r
        have n1 : D ≠ w.heap.size + 1 := fun e => by
          have hx := HK5.out
          rw [e, show w8.heap[w.heap.size + 1]? = _ from HE8.out.mem.r] at hx
          cases hx
        have n2 : D2 ≠ w.heap.size + 1 := fun e => by
          have hx := HK6.out
          rw [e, show w8.heap[w.heap.size + 1]? = _ from HE8.out.mem.r] at hx
          cases hx
        have k1 := (Below.heap_setCell w8 ⟨w.heap.size + 1, 0, none⟩ (.bool true) D n1).trans HK5.out
        have k2 := (Below.heap_setCell w8 ⟨w.heap.size + 1, 0, none⟩ (.bool true) D2 n2).trans HK6.out
        have hbw := HE8.out.mem.below.setCell (p := ⟨w.heap.size + 1, 0, none⟩) (Nat.le_succ _) (.bool true)
        have hsz8 := HE8.out.mem.lt
        obtain ⟨w9, hw9⟩ : ∃ w9, w8.setCell ⟨w.heap.size + 1, 0, none⟩ (.bool true) = w9 := ⟨_, rfl⟩
        rw [hw9] at hb9 k1 k2 hbw ⊢
        clear hw9 cr cf HK5 HK6 HE8
        have k3 : (w9.putObj D2 (.deferred none)).heap[D]? = _ := (World.putObj_heap_other hne).trans k1
        have hb10 : Boxed (w9.putObj D2 (.deferred none)) (w.heap.size + 1) 4 (.bool true) := (World.putObj_heap_other n2.symm).trans hb9
        have hb11 : Boxed ((w9.putObj D2 (.deferred none)).putObj D (.deferred none)) (w.heap.size + 1) 4 (.bool true) := (World.putObj_heap_other n1.symm).trans hb10
        have hbw2 := hbw.grown (grownBy_putObj' w9 D2 (.deferred none)) hbw.size (fun k e => by cases e; exact hD2')
        have hbw3 := hbw2.grown (grownBy_putObj' (w9.putObj D2 (.deferred none)) D (.deferred none)) hbw2.size (fun k e => by cases e; exact hD')
        refine ⟨by simp, .inl ⟨_, _, rfl, run_takeDeferred k2, ?_⟩⟩
        refine ⟨by simp, .inl ⟨_, _, rfl, run_takeDeferred k3, ?_⟩⟩
        exact ⟨.bool true, by simp [results, Try.results7, go_sem, hb11.cell], rfl, hbw3⟩
end Go.Proofs.Ytociidinfdbaeaa
