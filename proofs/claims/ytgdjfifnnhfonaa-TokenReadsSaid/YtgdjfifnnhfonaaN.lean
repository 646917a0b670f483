/- scan: the tokens of a text, or the place and the error that a panic carried out. Conditions: the text has at most 1048576 bytes. -/
import Derived.Test.YtgdjfifnnhfonaaK
import Derived.Defers
import Derived.Recover
import Derived.Laws.Pointers
namespace Go.Proofs.Ytgdjfifnnhfonaa
open Go.RowKit Go.Shelf

theorem bother {W : World} {B t : Nat} {v : Value} (h : Boxed W B t v) (c o : Nat) (hn : B ≠ c) (u : Value) : Boxed (W.setCell ⟨c, o, none⟩ u) B t v := (Below.heap_setCell W ⟨c, o, none⟩ u B hn).trans h

/-- The three results of scan, in variables. -/
structure R3 (W : World) (lb : Nat) (x a b c : Value) : Prop where
  l : Boxed W lb 23 x
  p : W.heap[lb + 1]? = some (.cells #[a, b] 25 (0, 0))
  e : Boxed W (lb + 2) 26 c

section
variable {W W' : World} {lb : Nat} {x a b c : Value}
theorem R3.p0 (h : R3 W lb x a b c) : W.cell? ⟨lb + 1, 0, none⟩ = some a := by simp [World.cell?, h.p]
theorem R3.p1 (h : R3 W lb x a b c) : W.cell? ⟨lb + 1, 1, none⟩ = some b := by simp [World.cell?, h.p]
theorem R3.pf (h : R3 W lb x a b c) (o : Nat) : W.frozen? ⟨lb + 1, o, none⟩ = false := by simp [World.frozen?, h.p]
theorem R3.rest {S : Nat → Prop} (h : R3 W lb x a b c) (hr : Rest S W W') (h0 : ¬ S lb) (h1 : ¬ S (lb + 1)) (h2 : ¬ S (lb + 2)) : R3 W' lb x a b c :=
  ⟨boxed_rest h.l hr h0, (hr.block (lb + 1) (Array.getElem?_eq_some_iff.1 h.p).1 h1).trans h.p, boxed_rest h.e hr h2⟩
end

theorem ta_some (v : Value) (w : World) : (Instr.typeAssert (.iface 95 v) 20 95 true).run Try.prog w = .ok (.tuple #[v, .bool true]) w := by
  simp [Instr.typeAssert, go_sem]
theorem ta_nil (w : World) : (Instr.typeAssert .nilIface 20 95 true).run Try.prog w = .ok (.tuple #[.agg #[.int .i64 0, .int .i64 0, .int .i64 0], .bool false]) w := by
  simp [Instr.typeAssert, go_sem]

set_option maxRecDepth 100000 in
set_option maxHeartbeats 1600000 in
theorem scan1_panicking (lb : Nat) (q : Nat × Nat) (cd : Nat) (older : List PanicEntry) (x a b c : Value) (w : World) (h : R3 w lb x a b c) :
    CallsD Try.prog 49 #[.pointer (some ⟨lb, 0, none⟩), .pointer (some ⟨lb + 1, 0, none⟩), .pointer (some ⟨lb + 2, 0, none⟩)] (.panicking ({ v := .iface 95 (.agg #[.int .i64 q.1, .int .i64 q.2, .int .i64 cd]), recovered := false } :: older)) w fun e u' w' =>
      e = .returned (.tuple #[]) ∧ u' = .panicking ({ v := .iface 95 (.agg #[.int .i64 q.1, .int .i64 q.2, .int .i64 cd]), recovered := true } :: older) ∧ R3 w' lb (.slice none 0 0) (.int .i64 q.1) (.int .i64 q.2) (.int .i64 cd) ∧ Rest (fun i => i = lb ∨ i = lb + 1 ∨ i = lb + 2) w w' := by
  refine callsD_of_wpS Try.func49 rfl fun c₀ cs hu => ?_
  simp only [Try.ntmps49, List.size_toArray, List.length_cons, List.length_nil, Nat.reduceAdd, Nat.reduceSub, Array.replicate_succ, Array.replicate_zero, List.push_toArray, List.append_toArray, List.nil_append, List.cons_append]
  apply wpS_seq
  apply wpS_region
  simp [wpOpsS, go_sem, recoverD, hu, Exit.thenS, ta_some]
  refine wpS_of_wp ?_
  have hal := (Below.refl w.heap.size w).alloc (Nat.le_refl _) (.cells #[.int .i64 q.1, .int .i64 q.2, .int .i64 cd] 95)
  have hfb : (w.alloc (.cells #[.int .i64 q.1, .int .i64 q.2, .int .i64 cd] 95)).heap[w.heap.size]? = some (.cells #[.int .i64 q.1, .int .i64 q.2, .int .i64 cd] 95 (0, 0)) := heap_alloc_new w _
  obtain ⟨fb, efb⟩ : ∃ fb, w.heap.size = fb := ⟨_, rfl⟩
  obtain ⟨w1, hw1⟩ : ∃ w1, w.alloc (.cells #[.int .i64 q.1, .int .i64 q.2, .int .i64 cd] 95) = w1 := ⟨_, rfl⟩
  have hlt := (Array.getElem?_eq_some_iff.1 h.e).1
  have hlt1 := (Array.getElem?_eq_some_iff.1 h.p).1
  have hlt0 := (Array.getElem?_eq_some_iff.1 h.l).1
  rw [hw1] at hal hfb ⊢
  rw [efb] at hfb ⊢
  have h' := h.rest (S := fun _ => False) (Rest.below hal) (fun e => e) (fun e => e) (fun e => e)
  have f0 : w1.cell? ⟨fb, 0, none⟩ = some (.int .i64 q.1) := by simp [World.cell?, hfb]
  have f1 : w1.cell? ⟨fb, 1, none⟩ = some (.int .i64 q.2) := by simp [World.cell?, hfb]
  have f2 : w1.cell? ⟨fb, 2, none⟩ = some (.int .i64 cd) := by simp [World.cell?, hfb]
  have l0 := h'.l.cell
  have l1 := h'.l.frozen
  have p0 := h'.p0
  have p1 := h'.p1
  have p2 := h'.pf 0
  have p3 := h'.pf 1
  have e0 := h'.e.cell
  have e1 := h'.e.frozen
  have HH := Lib.hid h'
  have HAL := Lib.hid hal
  have HU := Lib.hid hu
  have LT := Lib.hid (show lb + 2 < fb by omega)
  have n1 : ¬ fb = lb := by omega
  have n2 : ¬ fb = lb + 1 := by omega
  have n3 : ¬ fb = lb + 2 := by omega
  clear h h' hal hw1 hfb efb hlt hlt1 hlt0 hu
  go_wp2_with fail
  go_region
  have hR5 : R3 ((((w1.setCell ⟨lb, 0, none⟩ (.slice none 0 0)).setCell ⟨lb + 1, 0, none⟩ (.int .i64 q.1)).setCell ⟨lb + 1, 1, none⟩ (.int .i64 q.2)).setCell ⟨lb + 2, 0, none⟩ (.int .i64 cd)).drew lb (.slice none 0 0) (.int .i64 q.1) (.int .i64 q.2) (.int .i64 cd) := by
    have s1 := Boxed.set (.slice none 0 0) HH.out.l
    have s2 : (w1.setCell ⟨lb, 0, none⟩ (.slice none 0 0)).heap[lb + 1]? = _ := (Below.heap_setCell w1 ⟨lb, 0, none⟩ (.slice none 0 0) (lb + 1) (by show lb + 1 ≠ lb; omega)).trans HH.out.p
    have s3 := bother HH.out.e lb 0 (by omega) (.slice none 0 0)
    have t2 := heap_setCell_same _ (lb + 1) 0 _ 25 (.int .i64 q.1) s2
    have u2 := heap_setCell_same _ (lb + 1) 1 _ 25 (.int .i64 q.2) t2
    have s1' := bother (bother s1 (lb + 1) 0 (by omega) (.int .i64 q.1)) (lb + 1) 1 (by omega) (.int .i64 q.2)
    have s3' := bother (bother s3 (lb + 1) 0 (by omega) (.int .i64 q.1)) (lb + 1) 1 (by omega) (.int .i64 q.2)
    exact ⟨bother s1' (lb + 2) 0 (by omega) (.int .i64 cd), (Below.heap_setCell _ ⟨lb + 2, 0, none⟩ (.int .i64 cd) (lb + 1) (by show lb + 1 ≠ lb + 2; omega)).trans u2, Boxed.set (.int .i64 cd) s3'⟩
  have hr5 : Rest (fun i => i = lb ∨ i = lb + 1 ∨ i = lb + 2) w ((((w1.setCell ⟨lb, 0, none⟩ (.slice none 0 0)).setCell ⟨lb + 1, 0, none⟩ (.int .i64 q.1)).setCell ⟨lb + 1, 1, none⟩ (.int .i64 q.2)).setCell ⟨lb + 2, 0, none⟩ (.int .i64 cd)).drew :=
    (Rest.below HAL.out).trans (((((Rest.refl (fun i => i = lb ∨ i = lb + 1 ∨ i = lb + 2) w1).setCell (p := ⟨lb, 0, none⟩) (fun _ => .inl rfl) _).setCell (p := ⟨lb + 1, 0, none⟩) (fun _ => .inr (.inl rfl)) _).setCell (p := ⟨lb + 1, 1, none⟩) (fun _ => .inr (.inl rfl)) _).setCell (p := ⟨lb + 2, 0, none⟩) (fun _ => .inr (.inr rfl)) _).drew (fun _ _ e => e)
  generalize ((((w1.setCell ⟨lb, 0, none⟩ (.slice none 0 0)).setCell ⟨lb + 1, 0, none⟩ (.int .i64 q.1)).setCell ⟨lb + 1, 1, none⟩ (.int .i64 q.2)).setCell ⟨lb + 2, 0, none⟩ (.int .i64 cd)).drew = w5 at hR5 hr5 ⊢
  exact ⟨rfl, _, rfl, _, by simp [results, Try.results49], rfl, rfl, hR5, hr5⟩

set_option maxRecDepth 100000 in
set_option maxHeartbeats 1600000 in
theorem scan1_idle (lb : Nat) (w : World) :
    CallsD Try.prog 49 #[.pointer (some ⟨lb, 0, none⟩), .pointer (some ⟨lb + 1, 0, none⟩), .pointer (some ⟨lb + 2, 0, none⟩)] .returning w fun e u' w' =>
      e = .returned (.tuple #[]) ∧ u' = .returning ∧ Below w.heap.size w w' := by
  refine callsD_of_wpS Try.func49 rfl fun c₀ cs hu => ?_
  simp only [Try.ntmps49, List.size_toArray, List.length_cons, List.length_nil, Nat.reduceAdd, Nat.reduceSub, Array.replicate_succ, Array.replicate_zero, List.push_toArray, List.append_toArray, List.nil_append, List.cons_append]
  apply wpS_seq
  apply wpS_region
  simp [wpOpsS, go_sem, recoverD, hu, Exit.thenS, ta_nil]
  refine wpS_of_wp ?_
  have hal := (Below.refl w.heap.size w).alloc (Nat.le_refl _) (.cells #[.int .i64 0, .int .i64 0, .int .i64 0] 95)
  generalize w.alloc (.cells #[.int .i64 0, .int .i64 0, .int .i64 0] 95) = w1 at hal ⊢
  have HU := Lib.hid hu
  have HAL := Lib.hid hal
  clear hal hu
  go_wp2_with fail
  have hu := HU.out
  refine ⟨rfl, .returning, ?_, _, by simp [results, Try.results49], rfl, rfl, HAL.out⟩
  cases c₀
  simp_all
end Go.Proofs.Ytgdjfifnnhfonaa
