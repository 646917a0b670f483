/- The walk of BitsNone: it returns true and changes nothing that was there. No conditions beyond the bounds of the kinds. -/
import Derived.Test.YtboiiohpkoodpaaWr
namespace Go.Proofs.Ytboiiohpkoodpaa
open Go.RowKit Go.Shelf
attribute [local go_sem] Oper.semAt_some

theorem run_equalIn_func_nil {P : Program} (w : World) (d : Nat) (t : TypeId) (f : Fn) (fi ca : Array Value) (h : ∃ ps rs v, P.underlying t = some (.func ps rs v)) :
    (Op.equalIn (d + 1) t (.func f fi ca) .nilFunc).run P w = .ok false w := by
  obtain ⟨ps, rs, v, h⟩ := h
  simp [Op.equalIn, run_underlying h]
theorem run_eql_func_nil {P : Program} (w : World) (t : TypeId) (f : Fn) (fi ca : Array Value) (h : ∃ ps rs v, P.underlying t = some (.func ps rs v)) :
    (binOp .eql t (.func f fi ca) .nilFunc).run P w = .ok (.bool false) w := by
  simp only [binOp]
  simp [Op.equal, Op.maxDepth, run_equalIn_func_nil w 9999 t f fi ca h]

theorem eql52 (w : World) (f : Fn) (fi ca : Array Value) : (binOp .eql 52 (.func f fi ca) .nilFunc).run Try.prog w = .ok (.bool false) w :=
  run_eql_func_nil w 52 f fi ca ⟨_, _, _, Try.underlying52⟩

set_option maxRecDepth 100000 in
set_option maxHeartbeats 1600000 in
theorem none_long (kd V N : Int) (A : Option Addr) (m c : Nat) (w : World) (hm : 50 < m) (hm2 : m ≤ 9223372036854775807) :
    Calls Try.prog 8 #[.agg #[.int .u8 kd, .int .i64 V, .int .i64 N, .slice A m c]] w fun e w' => e = .returned (.bool true) ∧ Below w.heap.size w w' := by
  have hmi : (50 : Int) < m := by omega
  have HB := Lib.hid (box2_below w (.int .u8 kd) (.bool false) 30 4)
  go_enter Try.func8, Try.ntmps8
  go_wp2_with fail
  refine (known_any _).mono ?_
  rintro e w1 ⟨rfl, hb⟩
  have hc := (hb.cell (p := ⟨w.heap.size + 1, 0, none⟩) (by simp)).trans (cell_new_at (w.alloc _) #[.bool false] 4 (w.heap.size + 1) 0 (by simp))
  have hf : w1.frozen? ⟨w.heap.size + 1, 0, none⟩ = false := (hb.frozen (p := ⟨w.heap.size + 1, 0, none⟩) (by simp)).trans (by
    have := (Boxed.new (w.alloc (.cells #[.int .u8 kd, .int .i64 V, .int .i64 N, .slice A m c] 30)) 4 (.bool false)).frozen
    rw [World.size_alloc] at this
    exact this)
  have hbw : Below w.heap.size w w1 := (((Below.refl _ w).alloc (Nat.le_refl _) _).alloc (by simp) _).trans (hb.mono (by simp; omega))
  have HBW := Lib.hid hbw
  have hc' : w1.cell? ⟨w.heap.size + 1, 0, none⟩ = some (.bool false) := hc
  clear hb hbw hc
  go_wp2
  refine bodyPost_ret (v := .bool true) (by simp [results, Try.results8, go_sem, hc']) rfl ⟨rfl, ?_⟩
  exact HBW.out.setCell (p := ⟨w.heap.size + 1, 0, none⟩) (by simp) _

/-- The memory of BitsNone: the argument, the result, a zero writer, the two writers. -/
structure NoneMem (w W : World) (kd V N : Int) (A : Option Addr) (m c : Nat) : Prop where
  a0 : W.cell? ⟨w.heap.size, 0, none⟩ = some (.int .u8 kd)
  a1 : W.cell? ⟨w.heap.size, 1, none⟩ = some (.int .i64 V)
  a2 : W.cell? ⟨w.heap.size, 2, none⟩ = some (.int .i64 N)
  a3 : W.cell? ⟨w.heap.size, 3, none⟩ = some (.slice A m c)
  r : Boxed W (w.heap.size + 1) 4 (.bool false)
  below : Below w.heap.size w W
  lt : w.heap.size + 1 + 1 ≤ W.heap.size
theorem NoneMem.later {w W W' : World} {kd V N : Int} {A : Option Addr} {m c : Nat} (h : NoneMem w W kd V N A m c) (hb : Below W.heap.size W W') : NoneMem w W' kd V N A m c :=
  ⟨(hb.cell (p := ⟨w.heap.size, 0, none⟩) (by have := h.lt; show w.heap.size < _; omega)).trans h.a0, (hb.cell (p := ⟨w.heap.size, 1, none⟩) (by have := h.lt; show w.heap.size < _; omega)).trans h.a1,
   (hb.cell (p := ⟨w.heap.size, 2, none⟩) (by have := h.lt; show w.heap.size < _; omega)).trans h.a2, (hb.cell (p := ⟨w.heap.size, 3, none⟩) (by have := h.lt; show w.heap.size < _; omega)).trans h.a3,
   boxed_below h.r hb h.r.lt, h.below.trans (hb.mono h.below.size), Nat.le_trans h.lt hb.size⟩

theorem noneMem_new (w : World) (kd V N : Int) (A : Option Addr) (m c : Nat) : NoneMem w ((w.alloc (.cells #[.int .u8 kd, .int .i64 V, .int .i64 N, .slice A m c] 30)).alloc (.cells #[.bool false] 4)) kd V N A m c := by
  have hx : ∀ j, ((w.alloc (.cells #[.int .u8 kd, .int .i64 V, .int .i64 N, .slice A m c] 30)).alloc (.cells #[.bool false] 4)).cell? ⟨w.heap.size, j, none⟩ = (#[.int .u8 kd, .int .i64 V, .int .i64 N, .slice A m c] : Array Value)[j]? := fun j =>
    (World.cell?_alloc_lt _ _ _ (by simp)).trans (cell_new_at w _ 30 _ j rfl)
  refine ⟨hx 0, hx 1, hx 2, hx 3, ?_, ((Below.refl _ w).alloc (Nat.le_refl _) _).alloc (by simp) _, by simp⟩
  have := Boxed.new (w.alloc (.cells #[.int .u8 kd, .int .i64 V, .int .i64 N, .slice A m c] 30)) 4 (.bool false)
  rw [World.size_alloc] at this
  exact this

/-- The two elements that a loop visits: nil, and a zero value. -/
structure NoneEl (w W : World) (kd V N : Int) (A : Option Addr) (m c : Nat) (z s : Nat) : Prop where
  mem : NoneMem w W kd V N A m c
  zlt : z < W.heap.size
  slt : s < W.heap.size
  zc : W.cell? ⟨z, 0, none⟩ = some (.bool false)
  s0 : W.cell? ⟨s, 0, none⟩ = some (.pointer none)
  s1 : W.cell? ⟨s, 1, none⟩ = some (.pointer (some ⟨z, 0, none⟩))
theorem NoneEl.later {w W W' : World} {kd V N : Int} {A : Option Addr} {m c z s : Nat} (h : NoneEl w W kd V N A m c z s) (hb : Below W.heap.size W W') : NoneEl w W' kd V N A m c z s :=
  ⟨h.mem.later hb, Nat.lt_of_lt_of_le h.zlt hb.size, Nat.lt_of_lt_of_le h.slt hb.size, (hb.cell (p := ⟨z, 0, none⟩) h.zlt).trans h.zc, (hb.cell (p := ⟨s, 0, none⟩) h.slt).trans h.s0, (hb.cell (p := ⟨s, 1, none⟩) h.slt).trans h.s1⟩
theorem noneEl_new {w W : World} {kd V N : Int} {A : Option Addr} {m c : Nat} (h : NoneMem w W kd V N A m c) (t t2 : TypeId) (z s : Nat) (hz : W.heap.size = z) (hs : z + 1 = s) :
    NoneEl w ((W.alloc (.cells #[.bool false, .slice none 0 0, .int .i64 0] t)).alloc (.cells #[.pointer none, .pointer (some ⟨z, 0, none⟩)] t2)) kd V N A m c z s := by
  subst hz hs
  have hb : Below W.heap.size W ((W.alloc (.cells #[.bool false, .slice none 0 0, .int .i64 0] t)).alloc (.cells #[.pointer none, .pointer (some ⟨W.heap.size, 0, none⟩)] t2)) := ((Below.refl _ W).alloc (Nat.le_refl _) _).alloc (by simp) _
  refine ⟨h.later hb, by simp; omega, by simp, ?_, ?_, ?_⟩
  · exact (World.cell?_alloc_lt _ _ _ (by simp)).trans (cell_new_at W _ t _ 0 rfl)
  · exact cell_new_at _ _ t2 _ 0 (by simp)
  · exact cell_new_at _ _ t2 _ 1 (by simp)

theorem none_stops (n : Nat) (w : World) : SeqStopsK Fence.wide n Try.prog 61 #[] (fun z : Bool => #[.bool z]) (fun _ _ => True) (fun xs => xs = []) (fun _ => False) 0 w := by
  intro l J Jx W hW hJ hJx hY h0
  have HJ := Lib.hid h0
  clear h0 hY hJ hJx hW
  refine callsIn_of_wp Try.func61 rfl trivial ?_ rfl
  simp only [Try.ntmps61, List.size_toArray, List.length_cons, List.length_nil, Nat.reduceAdd, Nat.reduceSub, Array.replicate_succ, Array.replicate_zero, List.push_toArray, List.append_toArray, List.nil_append, List.cons_append]
  gi_wp2
  go_end0
  exact ⟨⟨_, rfl⟩, .inl ⟨[], rfl, HJ.out⟩⟩

set_option maxRecDepth 100000 in
set_option maxHeartbeats 4000000 in
theorem none_short (kd V N : Int) (A : Option Addr) (m c : Nat) (w : World) (hk : 0 ≤ kd) (hk2 : kd ≤ 255) (hm : m ≤ 50) :
    Calls Try.prog 8 #[.agg #[.int .u8 kd, .int .i64 V, .int .i64 N, .slice A m c]] w fun e w' => e = .returned (.bool true) ∧ Below w.heap.size w w' := by
  have hmi : (m : Int) ≤ 50 := by omega
  have hn0 := noneMem_new w kd V N A m c
  have he0 := noneEl_new hn0 63 25 (w.heap.size + 1 + 1) (w.heap.size + 1 + 1 + 1) (by simp) rfl
  have HE0 := Lib.hid he0
  clear hn0 he0
  refine (callsIn_wide (n := 6)).1 ?_
  refine callsIn_of_wp_marks Try.func8 rfl trivial ?_ rfl
  simp only [Try.ntmps8, List.size_toArray, List.length_cons, List.length_nil, Nat.reduceAdd, Nat.reduceSub, Array.replicate_succ, Array.replicate_zero, List.push_toArray, List.append_toArray, List.nil_append, List.cons_append]
  gi_wp2_with fail
  refine wpIn_loop_rounds 3 ?_
  rw [roundsIn_succ]
  gi_wp2_with fail
  refine ⟨trivial, ?_⟩
  refine (callsIn_wide.2 (write_nil kd V N A m c _ hk hk2)).mono ?_
  rintro e w1 ⟨rfl, hb1⟩
  have hE1 := HE0.out.later hb1
  have s1 := hE1.s1
  have a0 := hE1.mem.a0
  have a1 := hE1.mem.a1
  have a2 := hE1.mem.a2
  have a3 := hE1.mem.a3
  have HE1 := Lib.hid hE1
  clear hb1 hE1
  gi_wp2_with (first | (refine ⟨trivial, ?_⟩; gi_at_call 16; refine (callsIn_wide.2 (len_nil _)).mono ?_; rintro e w' ⟨rfl, rfl⟩) | (refine ⟨trivial, ?_⟩; gi_at_call 15; refine (callsIn_wide.2 (out_nil _)).mono ?_; rintro e w' ⟨rfl, rfl⟩) | (refine ⟨trivial, ?_⟩; gi_at_call 12; refine (callsIn_wide.2 (wcopy_nil _)).mono ?_; rintro e w' ⟨rfl, rfl⟩))
  have hzl := HE1.out.zlt
  have hzc := HE1.out.zc
  rw [roundsIn_succ]
  gi_wp2_with fail
  refine ⟨trivial, ?_⟩
  refine (callsIn_wide.2 (write_zero (w.heap.size + 1 + 1) kd V N A m c _ hzl hzc hk hk2)).mono ?_
  clear s1 a0 a1 a2 a3 hzl hzc
  rintro e w2 ⟨rfl, hb2⟩
  have hE2 := HE1.out.later hb2
  have s1 := hE2.s1
  have hzl := hE2.zlt
  have hzc := hE2.zc
  have HE2 := Lib.hid hE2
  clear hb2 hE2 HE1
  gi_wp2_with (first | (refine ⟨trivial, ?_⟩; gi_at_call 16; refine (callsIn_wide.2 (len_zero _ _ hzc)).mono ?_; rintro e w' ⟨rfl, rfl⟩) | (refine ⟨trivial, ?_⟩; gi_at_call 15; refine (callsIn_wide.2 (out_zero _ _ hzc)).mono ?_; rintro e w' ⟨rfl, rfl⟩) | (refine ⟨trivial, ?_⟩; gi_at_call 12; refine (callsIn_wide.2 (wcopy_zero _ _ hzc)).mono ?_; rintro e w' ⟨rfl, rfl⟩))
  clear s1 hzl hzc
  rw [roundsIn_succ]
  gi_wp2_with fail
  have he3 := noneEl_new HE2.out.mem 65 40 w2.heap.size (w2.heap.size + 1) rfl rfl
  obtain ⟨z, hz⟩ : ∃ z, w2.heap.size = z := ⟨_, rfl⟩
  rw [hz] at he3 ⊢
  obtain ⟨w3, hw3⟩ : ∃ w3, ((w2.alloc (.cells #[.bool false, .slice none 0 0, .int .i64 0] 65)).alloc (.cells #[.pointer none, .pointer (some ⟨z, 0, none⟩)] 40)) = w3 := ⟨_, rfl⟩
  rw [hw3] at he3 ⊢
  have s0 := he3.s0
  have a0 := he3.mem.a0
  have a1 := he3.mem.a1
  have a2 := he3.mem.a2
  have a3 := he3.mem.a3
  have HE3 := Lib.hid he3
  have hq := eql52
  clear hz hw3 he3 HE2 HE0
  refine wpIn_loop_rounds 3 ?_
  rw [roundsIn_succ]
  gi_wp2_with fail
  refine ⟨trivial, ?_⟩
  refine (callsIn_wide.2 (read_nil kd V N A m c _ hk hk2)).mono ?_
  clear s0 a0 a1 a2 a3
  rintro e w4 ⟨rfl, hb4⟩
  have he4 := HE3.out.later hb4
  have HE4 := Lib.hid he4
  clear hb4 he4 HE3
  gi_wp2_with (first | (refine ⟨trivial, ?_⟩; gi_at_call 27; refine (callsIn_wide.2 (bits_nil _)).mono ?_; rintro e w' ⟨rfl, rfl⟩) | (refine ⟨trivial, ?_⟩; gi_at_call 25; refine (callsIn_wide.2 (left_nil _)).mono ?_; rintro e w' ⟨rfl, rfl⟩) | (refine ⟨trivial, ?_⟩; gi_at_call 24; refine (callsIn_wide.2 (place_nil _)).mono ?_; rintro e w' ⟨rfl, rfl⟩) | (refine ⟨trivial, ?_⟩; gi_at_call 21; refine (callsIn_wide.2 (rcopy_nil _)).mono ?_; rintro e w' ⟨rfl, rfl⟩))
  refine wpIn_rangeFunc_ownF rfl (by decide) (gf := 61) (lb := #[]) rfl trivial Try.ent61
    (none_stops (6 - 1) w4) (fun _ _ => trivial) (fun _ _ _ _ _ _ _ _ => trivial) (Below.refl _ _) (fun _ => rfl)
    (fun (_ : List Bool) (W : World) => Below w4.heap.size w4 W) (fun _ _ _ => False) (fun _ _ _ _ h hg hr => h.grown hg h.size (fun k e => (hr k e).1)) (fun _ _ _ _ _ hs _ _ => hs) (Below.refl _ _) ?a1 ?assign ?body ?done ?stop
  case assign =>
    intro l x W K hK
    have HK := Lib.hid hK
    clear hK
    gi_wp2
    exact HK.out
  case body =>
    rintro lo pre x W hI hlt
    exact absurd hlt (Nat.not_lt_zero _)
  case stop =>
    rintro D c pre W _ _ h _
    exact h.elim
  case done =>
    rintro D xs W hD rfl hI hK
    have he5 := HE4.out.later hI
    have HE5 := Lib.hid he5
    have HK1 := Lib.hid hK
    have hD' : w.heap.size ≤ D := by have := HE4.out.mem.lt; omega
    clear hI he5 hK HE4
    gi_wp2_with fail
    have s1 := HE5.out.s1
    have hzl := HE5.out.zlt
    have hzc := HE5.out.zc
    have a0 := HE5.out.mem.a0
    have a1 := HE5.out.mem.a1
    have a2 := HE5.out.mem.a2
    have a3 := HE5.out.mem.a3
    rw [roundsIn_succ]
    gi_wp2_with fail
    refine ⟨trivial, ?_⟩
    refine (callsIn_wide.2 (read_zero z kd V N A m c _ hzl hzc hk hk2)).mono ?_
    clear s1 a0 a1 a2 a3 hzl hzc
    rintro e w5 ⟨rfl, hb5⟩
    have he6 := HE5.out.later hb5
    have HK2 := Lib.hid ((hb5.block D (Array.getElem?_eq_some_iff.1 HK1.out).1).trans HK1.out)
    have hzl := he6.zlt
    have hzc := he6.zc
    have HE6 := Lib.hid he6
    clear hb5 he6 HE5 HK1
    gi_wp2_with (first | (refine ⟨trivial, ?_⟩; gi_at_call 27; refine (callsIn_wide.2 (bits_zero _ _ hzc)).mono ?_; rintro e w' ⟨rfl, rfl⟩) | (refine ⟨trivial, ?_⟩; gi_at_call 25; refine (callsIn_wide.2 (left_zero _ _ hzc)).mono ?_; rintro e w' ⟨rfl, rfl⟩) | (refine ⟨trivial, ?_⟩; gi_at_call 24; refine (callsIn_wide.2 (place_zero _ _ hzc)).mono ?_; rintro e w' ⟨rfl, rfl⟩) | (refine ⟨trivial, ?_⟩; gi_at_call 21; refine (callsIn_wide.2 (rcopy_zero _ _ hzc)).mono ?_; rintro e w' ⟨rfl, rfl⟩))
    clear hzl hzc
    refine wpIn_rangeFunc_ownF rfl (by decide) (gf := 61) (lb := #[]) rfl trivial Try.ent61
      (none_stops (6 - 1) w5) (fun _ _ => trivial) (fun _ _ _ _ _ _ _ _ => trivial) (Below.refl _ _) (fun _ => rfl)
      (fun (_ : List Bool) (W : World) => Below w5.heap.size w5 W) (fun _ _ _ => False) (fun _ _ _ _ h hg hr => h.grown hg h.size (fun k e => (hr k e).1)) (fun _ _ _ _ _ hs _ _ => hs) (Below.refl _ _) ?a2 ?assign2 ?body2 ?done2 ?stop2
    case assign2 =>
      intro l x W K hK
      have HK := Lib.hid hK
      clear hK
      gi_wp2
      exact HK.out
    case body2 =>
      rintro lo pre x W hI hlt
      exact absurd hlt (Nat.not_lt_zero _)
    case stop2 =>
      rintro D c pre W _ _ h _
      exact h.elim
    case done2 =>
      rintro D2 xs W2 hD2 rfl hI hK3
      have he7 := HE6.out.later hI
      have HK4 := Lib.hid ((hI.block D (Array.getElem?_eq_some_iff.1 HK2.out).1).trans HK2.out)
      have hne : D ≠ D2 := by
        have := (Array.getElem?_eq_some_iff.1 HK2.out).1
        omega
      have HE7 := Lib.hid he7
      have HK3 := Lib.hid hK3
      have hD2' : w.heap.size ≤ D2 := by have := HE6.out.mem.lt; omega
      clear hI he7 hK3 HE6 HK2
      gi_wp2_with fail
      rw [roundsIn_succ]
      gi_wp2_with fail
      refine ⟨trivial, ?_⟩
      refine (callsIn_wide.2 (known_any _)).mono ?_
      rintro e w8 ⟨rfl, hb8⟩
      have he8 := HE7.out.later hb8
      have HK5 := Lib.hid ((hb8.block D (Array.getElem?_eq_some_iff.1 HK4.out).1).trans HK4.out)
      have HK6 := Lib.hid ((hb8.block D2 (Array.getElem?_eq_some_iff.1 HK3.out).1).trans HK3.out)
      have cr := he8.mem.r.cell
      have cf := he8.mem.r.frozen
      have HE8 := Lib.hid he8
      clear hb8 he8 HE7 HK4 HK3
      gi_wp2
      have hb9 := Boxed.set (.bool true) HE8.out.mem.r
      have n1 : D ≠ w.heap.size + 1 := fun e => by
        have hx := HK5.out
        rw [e, show w8.heap[w.heap.size + 1]? = _ from HE8.out.mem.r] at hx
        cases hx
      have n2 : D2 ≠ w.heap.size + 1 := fun e => by
        have hx := HK6.out
        rw [e, show w8.heap[w.heap.size + 1]? = _ from HE8.out.mem.r] at hx
        cases hx
      have k1 := (Below.heap_setCell w8 ⟨w.heap.size + 1, 0, none⟩ (.bool true) D n1).trans HK5.out
      have k2 := (Below.heap_setCell w8 ⟨w.heap.size + 1, 0, none⟩ (.bool true) D2 n2).trans HK6.out
      have hbw := HE8.out.mem.below.setCell (p := ⟨w.heap.size + 1, 0, none⟩) (Nat.le_succ _) (.bool true)
      have hsz8 := HE8.out.mem.lt
      obtain ⟨w9, hw9⟩ : ∃ w9, w8.setCell ⟨w.heap.size + 1, 0, none⟩ (.bool true) = w9 := ⟨_, rfl⟩
      rw [hw9] at hb9 k1 k2 hbw ⊢
      clear hw9 cr cf HK5 HK6 HE8
      have k3 : (w9.putObj D2 (.deferred none)).heap[D]? = _ := (World.putObj_heap_other hne).trans k1
      have hb10 : Boxed (w9.putObj D2 (.deferred none)) (w.heap.size + 1) 4 (.bool true) := (World.putObj_heap_other n2.symm).trans hb9
      have hb11 : Boxed ((w9.putObj D2 (.deferred none)).putObj D (.deferred none)) (w.heap.size + 1) 4 (.bool true) := (World.putObj_heap_other n1.symm).trans hb10
      have hbw2 := hbw.grown (grownBy_putObj' w9 D2 (.deferred none)) hbw.size (fun k e => by cases e; exact hD2')
      have hbw3 := hbw2.grown (grownBy_putObj' (w9.putObj D2 (.deferred none)) D (.deferred none)) hbw2.size (fun k e => by cases e; exact hD')
      refine ⟨by simp, .inl ⟨_, _, rfl, run_takeDeferred k2, ?_⟩⟩
      refine ⟨by simp, .inl ⟨_, _, rfl, run_takeDeferred k3, ?_⟩⟩
      exact ⟨.bool true, by simp [results, Try.results8, go_sem, hb11.cell], rfl, hbw3⟩
end Go.Proofs.Ytboiiohpkoodpaa
