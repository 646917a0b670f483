/- Two results of one function, called twice, in two new variables, in whatever order. No conditions beyond those named. -/
import Derived.Test.YtbpkppmbbpoohaaGreatRz
namespace Go.Proofs.YtbpkppmbbpoohaaGreat
open Go.RowKit

/-- What is said of the region: its slots. -/
structure PairAt where
  s0 : Nat
  s1 : Nat
  s2 : Nat
  s3 : Nat
  s4 : Nat
  s5 : Nat
def PairAt.has (s : PairAt) (j : Nat) : Prop := j = s.s0 ∨ j = s.s1 ∨ j = s.s2 ∨ j = s.s3 ∨ j = s.s4 ∨ j = s.s5
def PairAt.apart (s : PairAt) : Prop := s.s0 ≠ s.s1 ∧ s.s0 ≠ s.s2 ∧ s.s0 ≠ s.s3 ∧ s.s0 ≠ s.s4 ∧ s.s0 ≠ s.s5 ∧ s.s1 ≠ s.s2 ∧ s.s1 ≠ s.s3 ∧ s.s1 ≠ s.s4 ∧ s.s1 ≠ s.s5 ∧ s.s2 ≠ s.s3 ∧ s.s2 ≠ s.s4 ∧ s.s2 ≠ s.s5 ∧ s.s3 ≠ s.s4 ∧ s.s3 ≠ s.s5 ∧ s.s4 ≠ s.s5

/-- A frame as it was, but for the region's slots. -/
structure Fr (s : PairAt) (a0 a : Act) : Prop where
  size : a.tmps.size = a0.tmps.size
  df : a.defers = a0.defers
  low : ∀ j, ¬ s.has j → a.tmps[j]? = a0.tmps[j]?
theorem pget (a : Act) (d : Nat) (v : Value) (i : Nat) : (a.put (some d) v).tmps[i]? = if d = i then (if d < a.tmps.size then some v else none) else a.tmps[i]? := Array.getElem?_setIfInBounds
theorem psize (a : Act) (d : Nat) (v : Value) : (a.put (some d) v).tmps.size = a.tmps.size := Array.size_setIfInBounds
theorem Fr.put {s : PairAt} {a0 a : Act} (h : Fr s a0 a) {d : Nat} (hd : s.has d) (v : Value) : Fr s a0 (a.put (some d) v) :=
  ⟨by rw [psize]; exact h.size, h.df, fun j hj => by rw [pget, if_neg (fun e => by subst e; exact hj hd)]; exact h.low j hj⟩

section
variable {P : Program} {ops : Array Oper} {Q : Exit → Act → World → Prop}
variable (s : PairAt) (a0 : Act) (W0 : World) (v0 v2 : Value) (R : World → Value → World → Prop) (Z : Obj) (ob : Value → Obj)

/-- Before the stores. -/
structure Ph1 (l : Array Bool) (a : Act) (w : World) (g6 g7 : Nat) (va vb : Value) (wα wβ wγ wδ : World) : Prop where
  sz : l.size = 8
  fr : Fr s a0 a
  n6 : l.getD 6 false = false
  n7 : l.getD 7 false = false
  bw : Below W0.heap.size W0 w
  f0 : l.getD 0 false = true → a.tmps[s.s0]? = some v0
  f2 : l.getD 2 false = true → a.tmps[s.s2]? = some v2
  f1 : l.getD 1 false = true → a.tmps[s.s1]? = some va ∧ Below W0.heap.size W0 wα ∧ R wα va wβ ∧ (l.getD 3 false = false → Below wβ.heap.size wβ w) ∧ (l.getD 3 false = true → Below wβ.heap.size wβ wγ)
  f3 : l.getD 3 false = true → l.getD 1 false = true ∧ a.tmps[s.s3]? = some vb ∧ R wγ vb wδ ∧ Below wδ.heap.size wδ w
  f4 : l.getD 4 false = true → a.tmps[s.s4]? = some (.pointer (some ⟨g6, 0, none⟩)) ∧ W0.heap.size ≤ g6 ∧ w.heap[g6]? = some Z ∧ (l.getD 1 false = true → g6 < wα.heap.size ∨ wβ.heap.size ≤ g6) ∧ (l.getD 3 false = true → g6 < wγ.heap.size ∨ wδ.heap.size ≤ g6)
  f5 : l.getD 5 false = true → a.tmps[s.s5]? = some (.pointer (some ⟨g7, 0, none⟩)) ∧ W0.heap.size ≤ g7 ∧ w.heap[g7]? = some Z ∧ (l.getD 1 false = true → g7 < wα.heap.size ∨ wβ.heap.size ≤ g7) ∧ (l.getD 3 false = true → g7 < wγ.heap.size ∨ wδ.heap.size ≤ g7)
  f45 : l.getD 4 false = true → l.getD 5 false = true → g6 ≠ g7
  i1 : l.getD 1 false = true → l.getD 0 false = true
  i3 : l.getD 3 false = true → l.getD 2 false = true

/-- What both calls and both new variables leave. -/
structure PairE (w : World) (S : Nat → Prop) (g6 g7 : Nat) (va vb : Value) (wα wβ wγ wδ : World) : Prop where
  b0 : Below W0.heap.size W0 wα
  r1 : R wα va wβ
  b1 : Below wβ.heap.size wβ wγ
  r2 : R wγ vb wδ
  b2 : Rest S wδ w
  ge6 : W0.heap.size ≤ g6
  ge7 : W0.heap.size ≤ g7
  o16 : g6 < wα.heap.size ∨ wβ.heap.size ≤ g6
  o26 : g6 < wγ.heap.size ∨ wδ.heap.size ≤ g6
  o17 : g7 < wα.heap.size ∨ wβ.heap.size ≤ g7
  o27 : g7 < wγ.heap.size ∨ wδ.heap.size ≤ g7
  ne : g6 ≠ g7

/-- The frame behind the region. -/
structure PairF (a : Act) (g6 g7 : Nat) (va vb : Value) : Prop where
  fr : Fr s a0 a
  t0 : a.tmps[s.s0]? = some v0
  t1 : a.tmps[s.s1]? = some va
  t2 : a.tmps[s.s2]? = some v2
  t3 : a.tmps[s.s3]? = some vb
  t4 : a.tmps[s.s4]? = some (.pointer (some ⟨g6, 0, none⟩))
  t5 : a.tmps[s.s5]? = some (.pointer (some ⟨g7, 0, none⟩))

def PairI (l : Array Bool) (a : Act) (w : World) : Prop := ∃ g6 g7 va vb wα wβ wγ wδ,
  Ph1 s a0 W0 v0 v2 R Z l a w g6 g7 va vb wα wβ wγ wδ ∨
  (l.size = 8 ∧ (∀ j, j < 7 → l.getD j false = true) ∧ l.getD 7 false = false ∧ PairF s a0 v0 v2 a g6 g7 va vb ∧ PairE W0 R w (fun k => k = g6) g6 g7 va vb wα wβ wγ wδ ∧ w.heap[g6]? = some (ob va) ∧ w.heap[g7]? = some Z) ∨
  (l.size = 8 ∧ (∀ j, j < 8 → l.getD j false = true) ∧ PairF s a0 v0 v2 a g6 g7 va vb ∧ PairE W0 R w (fun k => k = g6 ∨ k = g7) g6 g7 va vb wα wβ wγ wδ ∧ w.heap[g6]? = some (ob va) ∧ w.heap[g7]? = some (ob vb))
end

theorem lset {l : Array Bool} {i j : Nat} (h : i < l.size) : (l.setIfInBounds i true).getD j false = if i = j then true else l.getD j false := by
  rw [Array.getD_eq_getD_getElem?, Array.getElem?_setIfInBounds, Array.getD_eq_getD_getElem?]
  by_cases e : i = j
  · rw [if_pos e, if_pos e, if_pos h]; rfl
  · rw [if_neg e, if_neg e]
theorem lnot {l : Array Bool} {i : Nat} (h : l.getD i true = false) : l.getD i false = false := by
  rw [Array.getD_eq_getD_getElem?] at h ⊢
  cases e : l[i]? with
  | none => rfl
  | some b => rw [e] at h; simpa using h

set_option maxHeartbeats 3200000 in
theorem pair_region {P : Program} {ops : Array Oper} {Q : Exit → Act → World → Prop} {id : Nat} {a0 : Act} {w0 : World} (s : PairAt) (v0 v2 : Value) (R : World → Value → World → Prop) (Z : Obj) (ob : Value → Obj) (f : FuncId)
    {o0 o1 o2 o3 o4 o5 o6 o7 : Oper} (hops : ops = #[o0, o1, o2, o3, o4, o5, o6, o7]) (hm : P.follows .mixedOrders = true)
    (hap : s.apart) (hlt : s.s0 < a0.tmps.size ∧ s.s1 < a0.tmps.size ∧ s.s2 < a0.tmps.size ∧ s.s3 < a0.tmps.size ∧ s.s4 < a0.tmps.size ∧ s.s5 < a0.tmps.size)
    (hg : o0.guard = none ∧ o1.guard = none ∧ o2.guard = none ∧ o3.guard = none ∧ o4.guard = none ∧ o5.guard = none ∧ o6.guard = none ∧ o7.guard = none)
    (hd : o0.dst = some s.s0 ∧ o1.dst = some s.s1 ∧ o2.dst = some s.s2 ∧ o3.dst = some s.s3 ∧ o4.dst = some s.s4 ∧ o5.dst = some s.s5 ∧ o6.dst = none ∧ o7.dst = none)
    (ht : ∀ (i : Nat) (o : Oper), ops[i]? = some o → ∀ e ∈ o.after, e.on < i)
    (e1 : ∃ e ∈ o1.after, e.on = 0 ∧ Region.binds .any e = true) (e32 : ∃ e ∈ o3.after, e.on = 2 ∧ Region.binds .any e = true) (e31 : ∃ e ∈ o3.after, e.on = 1 ∧ Region.binds .any e = true)
    (e63 : ∃ e ∈ o6.after, e.on = 3 ∧ Region.binds .any e = true) (e64 : ∃ e ∈ o6.after, e.on = 4 ∧ Region.binds .any e = true) (e65 : ∃ e ∈ o6.after, e.on = 5 ∧ Region.binds .any e = true) (e76 : ∃ e ∈ o7.after, e.on = 6 ∧ Region.binds .any e = true)
    (x0 : ∀ a w, Fr s a0 a → Below w0.heap.size w0 w → (execOp a.eval o0).run P w = .ok (.value v0) w)
    (x2 : ∀ a w, Fr s a0 a → Below w0.heap.size w0 w → (execOp a.eval o2).run P w = .ok (.value v2) w)
    (x1 : ∀ (a : Act) w, a.tmps[s.s0]? = some v0 → (execOp a.eval o1).run P w = .ok (.enter f #[v0]) w)
    (x3 : ∀ (a : Act) w, a.tmps[s.s2]? = some v2 → (execOp a.eval o3).run P w = .ok (.enter f #[v2]) w)
    (c1 : ∀ w, Below w0.heap.size w0 w → Calls P f #[v0] w fun e w' => ∃ v, e = .returned v ∧ R w v w')
    (c3 : ∀ w, Below w0.heap.size w0 w → Calls P f #[v2] w fun e w' => ∃ v, e = .returned v ∧ R w v w')
    (hR : ∀ w v w', R w v w' → Below w.heap.size w w')
    (x4 : ∀ (a : Act) w, (execOp a.eval o4).run P w = .ok (.value (.pointer (some ⟨w.heap.size, 0, none⟩))) (w.alloc Z))
    (x5 : ∀ (a : Act) w, (execOp a.eval o5).run P w = .ok (.value (.pointer (some ⟨w.heap.size, 0, none⟩))) (w.alloc Z))
    (x6 : ∀ (a : Act) w g v u u', a.tmps[s.s4]? = some (.pointer (some ⟨g, 0, none⟩)) → a.tmps[s.s1]? = some v → w.heap[g]? = some Z → R u v u' → ∃ w', (execOp a.eval o6).run P w = .ok .skip w' ∧ Rest (fun k => k = g) w w' ∧ w'.heap[g]? = some (ob v))
    (x7 : ∀ (a : Act) w g v u u', a.tmps[s.s5]? = some (.pointer (some ⟨g, 0, none⟩)) → a.tmps[s.s3]? = some v → w.heap[g]? = some Z → R u v u' → ∃ w', (execOp a.eval o7).run P w = .ok .skip w' ∧ Rest (fun k => k = g) w w' ∧ w'.heap[g]? = some (ob v))
    (k : ∀ a w g6 g7 va vb wα wβ wγ wδ, PairF s a0 v0 v2 a g6 g7 va vb → PairE w0 R w (fun k => k = g6 ∨ k = g7) g6 g7 va vb wα wβ wγ wδ → w.heap[g6]? = some (ob va) → w.heap[g7]? = some (ob vb) → Q .normal a w) :
    (Code.region id ops true).wp P Q a0 w0 := by
  subst hops
  obtain ⟨g0, g1, g2, g3, g4, g5, g6, g7⟩ := hg
  obtain ⟨d0, d1, d2, d3, d4, d5, d6, d7⟩ := hd
  obtain ⟨p01, p02, p03, p04, p05, p12, p13, p14, p15, p23, p24, p25, p34, p35, p45⟩ := hap
  obtain ⟨l0, l1, l2, l3, l4, l5⟩ := hlt
  refine wp_region_inv (PairI s a0 w0 v0 v2 R Z ob) hm (fun l a w h => ?_) ?_ ?_ ?_
  · obtain ⟨_, _, _, _, _, _, _, _, h | h | h⟩ := h
    · exact h.sz
    · exact h.1
    · exact h.1
  · refine ⟨0, 0, undef, undef, w0, w0, w0, w0, .inl ⟨by simp, ⟨rfl, rfl, fun _ _ => rfl⟩, by simp, by simp, ⟨rfl, rfl, rfl, Nat.le_refl _, fun _ _ => rfl⟩, fun h => ?_, fun h => ?_, fun h => ?_, fun h => ?_, fun h => ?_, fun h => ?_, fun h => ?_, fun h => ?_, fun h => ?_⟩⟩
    all_goals simp at h
  · rintro l a w i ⟨b6, b7, va, vb, wα, wβ, wγ, wδ, h | h | h⟩ hi
    · obtain ⟨hi8, hin, hie⟩ := ready_get hi
      have hin := lnot hin
      have hz := h.sz
      have hi8 : i < 8 := by simpa using hi8
      match i, hi8 with
      | 0, _ =>
        refine wpOp_val (o := o0) rfl g0 (x0 a w h.fr h.bw) ?_
        rw [d0]
        have G : ∀ j, j ≠ 0 → (l.setIfInBounds 0 true).getD j false = l.getD j false := fun j hj => by rw [lset (by omega), if_neg (by omega)]
        have T : ∀ j, s.s0 ≠ j → (a.put (some s.s0) v0).tmps[j]? = a.tmps[j]? := fun j hj => by rw [pget, if_neg hj]
        refine ⟨b6, b7, va, vb, wα, wβ, wγ, wδ, .inl ⟨by simpa using hz, h.fr.put (.inl rfl) _, by rw [G 6 (by omega)]; exact h.n6, by rw [G 7 (by omega)]; exact h.n7, h.bw, fun _ => by rw [pget, if_pos rfl, if_pos (by rw [h.fr.size]; exact l0)], ?_, ?_, ?_, ?_, ?_, ?_, fun _ => by rw [lset (by omega), if_pos rfl], by rw [G 3 (by omega), G 2 (by omega)]; exact h.i3⟩⟩
        · rw [G 2 (by omega), T _ p02]; exact h.f2
        · rw [G 1 (by omega), G 3 (by omega), T _ p01]; exact h.f1
        · rw [G 3 (by omega), G 1 (by omega), T _ p03]; exact h.f3
        · rw [G 4 (by omega), G 1 (by omega), G 3 (by omega), T _ p04]; exact h.f4
        · rw [G 5 (by omega), G 1 (by omega), G 3 (by omega), T _ p05]; exact h.f5
        · rw [G 4 (by omega), G 5 (by omega)]; exact h.f45
      | 2, _ =>
        refine wpOp_val (o := o2) rfl g2 (x2 a w h.fr h.bw) ?_
        rw [d2]
        have G : ∀ j, j ≠ 2 → (l.setIfInBounds 2 true).getD j false = l.getD j false := fun j hj => by rw [lset (by omega), if_neg (by omega)]
        have T : ∀ j, s.s2 ≠ j → (a.put (some s.s2) v2).tmps[j]? = a.tmps[j]? := fun j hj => by rw [pget, if_neg hj]
        refine ⟨b6, b7, va, vb, wα, wβ, wγ, wδ, .inl ⟨by simpa using hz, h.fr.put (.inr (.inr (.inl rfl))) _, by rw [G 6 (by omega)]; exact h.n6, by rw [G 7 (by omega)]; exact h.n7, h.bw, ?_, fun _ => by rw [pget, if_pos rfl, if_pos (by rw [h.fr.size]; exact l2)], ?_, ?_, ?_, ?_, ?_, by rw [G 1 (by omega), G 0 (by omega)]; exact h.i1, fun _ => by rw [lset (by omega), if_pos rfl]⟩⟩
        · rw [G 0 (by omega), T _ (Ne.symm p02)]; exact h.f0
        · rw [G 1 (by omega), G 3 (by omega), T _ (Ne.symm p12)]; exact h.f1
        · rw [G 3 (by omega), G 1 (by omega), T _ p23]; exact h.f3
        · rw [G 4 (by omega), G 1 (by omega), G 3 (by omega), T _ p24]; exact h.f4
        · rw [G 5 (by omega), G 1 (by omega), G 3 (by omega), T _ p25]; exact h.f5
        · rw [G 4 (by omega), G 5 (by omega)]; exact h.f45
      | 1, _ =>
        have hb0 : l.getD 0 false = true := by
          obtain ⟨e, he, hon, hb⟩ := e1
          have := hie o1 rfl e he hb
          rwa [hon] at this
        have hb3 : l.getD 3 false = false := by
          cases e : l.getD 3 false with
          | false => rfl
          | true => have := (h.f3 e).1; rw [hin] at this; cases this
        refine wpOp_call (o := o1) (R := fun v w' => R w v w') rfl g1 (x1 a w (h.f0 hb0)) (c1 w h.bw) (fun v w' hr => ?_)
        rw [d1]
        have hb := hR _ _ _ hr
        have G : ∀ j, j ≠ 1 → (l.setIfInBounds 1 true).getD j false = l.getD j false := fun j hj => by rw [lset (by omega), if_neg (by omega)]
        have T : ∀ j, s.s1 ≠ j → (a.put (some s.s1) v).tmps[j]? = a.tmps[j]? := fun j hj => by rw [pget, if_neg hj]
        refine ⟨b6, b7, v, vb, w, w', wγ, wδ, .inl ⟨by simpa using hz, h.fr.put (.inr (.inl rfl)) _, by rw [G 6 (by omega)]; exact h.n6, by rw [G 7 (by omega)]; exact h.n7, h.bw.trans (hb.mono h.bw.size), ?_, ?_, ?_, ?_, ?_, ?_, ?_, (fun _ => by rw [G 0 (by omega)]; exact hb0), by rw [G 3 (by omega), G 2 (by omega)]; exact h.i3⟩⟩
        · rw [G 0 (by omega), T _ (Ne.symm p01)]; exact h.f0
        · rw [G 2 (by omega), T _ p12]; exact h.f2
        · intro _
          rw [G 3 (by omega), hb3]
          exact ⟨by rw [pget, if_pos rfl, if_pos (by rw [h.fr.size]; exact l1)], h.bw, hr, fun _ => Below.refl _ _, fun e => by cases e⟩
        · rw [G 3 (by omega), hb3]; intro e; cases e
        · intro h4
          rw [G 4 (by omega)] at h4
          obtain ⟨q1, q2, q3, _, _⟩ := h.f4 h4
          have hl := (Array.getElem?_eq_some_iff.1 q3).1
          exact ⟨by rw [T _ p14]; exact q1, q2, (hb.block _ hl).trans q3, fun _ => .inl hl, by rw [G 3 (by omega), hb3]; intro e; cases e⟩
        · intro h4
          rw [G 5 (by omega)] at h4
          obtain ⟨q1, q2, q3, _, _⟩ := h.f5 h4
          have hl := (Array.getElem?_eq_some_iff.1 q3).1
          exact ⟨by rw [T _ p15]; exact q1, q2, (hb.block _ hl).trans q3, fun _ => .inl hl, by rw [G 3 (by omega), hb3]; intro e; cases e⟩
        · rw [G 4 (by omega), G 5 (by omega)]; exact h.f45
      | 3, _ =>
        have hb1 : l.getD 1 false = true := by
          obtain ⟨e, he, hon, hb⟩ := e31
          have := hie o3 rfl e he hb
          rwa [hon] at this
        have hb2 : l.getD 2 false = true := by
          obtain ⟨e, he, hon, hb⟩ := e32
          have := hie o3 rfl e he hb
          rwa [hon] at this
        refine wpOp_call (o := o3) (R := fun v w' => R w v w') rfl g3 (x3 a w (h.f2 hb2)) (c3 w h.bw) (fun v w' hr => ?_)
        rw [d3]
        have hb := hR _ _ _ hr
        have G : ∀ j, j ≠ 3 → (l.setIfInBounds 3 true).getD j false = l.getD j false := fun j hj => by rw [lset (by omega), if_neg (by omega)]
        have G3 : (l.setIfInBounds 3 true).getD 3 false = true := by rw [lset (by omega), if_pos rfl]
        have T : ∀ j, s.s3 ≠ j → (a.put (some s.s3) v).tmps[j]? = a.tmps[j]? := fun j hj => by rw [pget, if_neg hj]
        obtain ⟨r1, r2, r3, r4, _⟩ := h.f1 hb1
        refine ⟨b6, b7, va, v, wα, wβ, w, w', .inl ⟨by simpa using hz, h.fr.put (.inr (.inr (.inr (.inl rfl)))) _, by rw [G 6 (by omega)]; exact h.n6, by rw [G 7 (by omega)]; exact h.n7, h.bw.trans (hb.mono h.bw.size), ?_, ?_, ?_, ?_, ?_, ?_, ?_, by rw [G 1 (by omega), G 0 (by omega)]; exact h.i1, fun _ => by rw [G 2 (by omega)]; exact hb2⟩⟩
        · rw [G 0 (by omega), T _ (Ne.symm p03)]; exact h.f0
        · rw [G 2 (by omega), T _ (Ne.symm p23)]; exact h.f2
        · intro _
          rw [G3]
          exact ⟨(by rw [T _ (Ne.symm p13)]; exact r1), r2, r3, (fun e => by cases e), fun _ => r4 hin⟩
        · intro _
          rw [G 1 (by omega)]
          exact ⟨hb1, by rw [pget, if_pos rfl, if_pos (by rw [h.fr.size]; exact l3)], hr, Below.refl _ _⟩
        · intro h4
          rw [G 4 (by omega)] at h4
          obtain ⟨q1, q2, q3, q4, _⟩ := h.f4 h4
          have hl := (Array.getElem?_eq_some_iff.1 q3).1
          exact ⟨by rw [T _ p34]; exact q1, q2, (hb.block _ hl).trans q3, by rw [G 1 (by omega)]; exact q4, fun _ => .inl hl⟩
        · intro h4
          rw [G 5 (by omega)] at h4
          obtain ⟨q1, q2, q3, q4, _⟩ := h.f5 h4
          have hl := (Array.getElem?_eq_some_iff.1 q3).1
          exact ⟨by rw [T _ p35]; exact q1, q2, (hb.block _ hl).trans q3, by rw [G 1 (by omega)]; exact q4, fun _ => .inl hl⟩
        · rw [G 4 (by omega), G 5 (by omega)]; exact h.f45
      | 4, _ =>
        refine wpOp_val (o := o4) rfl g4 (x4 a w) ?_
        rw [d4]
        have hb : Below w.heap.size w (w.alloc Z) := (Below.refl w.heap.size w).alloc (Nat.le_refl _) Z
        have G : ∀ j, j ≠ 4 → (l.setIfInBounds 4 true).getD j false = l.getD j false := fun j hj => by rw [lset (by omega), if_neg (by omega)]
        have T : ∀ j v, s.s4 ≠ j → (a.put (some s.s4) v).tmps[j]? = a.tmps[j]? := fun j v hj => by rw [pget, if_neg hj]
        refine ⟨w.heap.size, b7, va, vb, wα, wβ, wγ, wδ, .inl ⟨by simpa using hz, h.fr.put (.inr (.inr (.inr (.inr (.inl rfl))))) _, by rw [G 6 (by omega)]; exact h.n6, by rw [G 7 (by omega)]; exact h.n7, h.bw.trans (hb.mono h.bw.size), ?_, ?_, ?_, ?_, ?_, ?_, ?_, (by rw [G 1 (by omega), G 0 (by omega)]; exact h.i1), by rw [G 3 (by omega), G 2 (by omega)]; exact h.i3⟩⟩
        · rw [G 0 (by omega), T _ _ (Ne.symm p04)]; exact h.f0
        · rw [G 2 (by omega), T _ _ (Ne.symm p24)]; exact h.f2
        · rw [G 1 (by omega), G 3 (by omega), T _ _ (Ne.symm p14)]
          intro h1
          obtain ⟨q1, q2, q3, q4, q5⟩ := h.f1 h1
          exact ⟨q1, q2, q3, fun e => (q4 e).trans (hb.mono (q4 e).size), q5⟩
        · rw [G 3 (by omega), G 1 (by omega), T _ _ (Ne.symm p34)]
          intro h3
          obtain ⟨q1, q2, q3, q4⟩ := h.f3 h3
          exact ⟨q1, q2, q3, q4.trans (hb.mono q4.size)⟩
        · intro _
          rw [G 1 (by omega), G 3 (by omega)]
          refine ⟨by rw [pget, if_pos rfl, if_pos (by rw [h.fr.size]; exact l4)], h.bw.size, heap_alloc_new w Z, fun h1 => .inr ?_, fun h3 => .inr (h.f3 h3).2.2.2.size⟩
          obtain ⟨_, _, _, q4, q5⟩ := h.f1 h1
          cases e3 : l.getD 3 false with
          | false => exact (q4 e3).size
          | true =>
            have := (q5 e3).size
            obtain ⟨_, _, q6, q7⟩ := h.f3 e3
            have h8 := (hR _ _ _ q6).size
            have h9 := q7.size
            omega
        · rw [G 5 (by omega), G 1 (by omega), G 3 (by omega), T _ _ p45]
          intro h5
          obtain ⟨q1, q2, q3, q4, q5⟩ := h.f5 h5
          exact ⟨q1, q2, (hb.block _ (Array.getElem?_eq_some_iff.1 q3).1).trans q3, q4, q5⟩
        · rw [G 5 (by omega)]
          intro _ h5 e
          obtain ⟨_, _, q3, _⟩ := h.f5 h5
          have := (Array.getElem?_eq_some_iff.1 q3).1
          omega
      | 5, _ =>
        refine wpOp_val (o := o5) rfl g5 (x5 a w) ?_
        rw [d5]
        have hb : Below w.heap.size w (w.alloc Z) := (Below.refl w.heap.size w).alloc (Nat.le_refl _) Z
        have G : ∀ j, j ≠ 5 → (l.setIfInBounds 5 true).getD j false = l.getD j false := fun j hj => by rw [lset (by omega), if_neg (by omega)]
        have T : ∀ j v, s.s5 ≠ j → (a.put (some s.s5) v).tmps[j]? = a.tmps[j]? := fun j v hj => by rw [pget, if_neg hj]
        refine ⟨b6, w.heap.size, va, vb, wα, wβ, wγ, wδ, .inl ⟨by simpa using hz, h.fr.put (.inr (.inr (.inr (.inr (.inr rfl))))) _, by rw [G 6 (by omega)]; exact h.n6, by rw [G 7 (by omega)]; exact h.n7, h.bw.trans (hb.mono h.bw.size), ?_, ?_, ?_, ?_, ?_, ?_, ?_, (by rw [G 1 (by omega), G 0 (by omega)]; exact h.i1), by rw [G 3 (by omega), G 2 (by omega)]; exact h.i3⟩⟩
        · rw [G 0 (by omega), T _ _ (Ne.symm p05)]; exact h.f0
        · rw [G 2 (by omega), T _ _ (Ne.symm p25)]; exact h.f2
        · rw [G 1 (by omega), G 3 (by omega), T _ _ (Ne.symm p15)]
          intro h1
          obtain ⟨q1, q2, q3, q4, q5⟩ := h.f1 h1
          exact ⟨q1, q2, q3, fun e => (q4 e).trans (hb.mono (q4 e).size), q5⟩
        · rw [G 3 (by omega), G 1 (by omega), T _ _ (Ne.symm p35)]
          intro h3
          obtain ⟨q1, q2, q3, q4⟩ := h.f3 h3
          exact ⟨q1, q2, q3, q4.trans (hb.mono q4.size)⟩
        · rw [G 4 (by omega), G 1 (by omega), G 3 (by omega), T _ _ (Ne.symm p45)]
          intro h5
          obtain ⟨q1, q2, q3, q4, q5⟩ := h.f4 h5
          exact ⟨q1, q2, (hb.block _ (Array.getElem?_eq_some_iff.1 q3).1).trans q3, q4, q5⟩
        · intro _
          rw [G 1 (by omega), G 3 (by omega)]
          refine ⟨by rw [pget, if_pos rfl, if_pos (by rw [h.fr.size]; exact l5)], h.bw.size, heap_alloc_new w Z, fun h1 => .inr ?_, fun h3 => .inr (h.f3 h3).2.2.2.size⟩
          obtain ⟨_, _, _, q4, q5⟩ := h.f1 h1
          cases e3 : l.getD 3 false with
          | false => exact (q4 e3).size
          | true =>
            have := (q5 e3).size
            obtain ⟨_, _, q6, q7⟩ := h.f3 e3
            have h8 := (hR _ _ _ q6).size
            have h9 := q7.size
            omega
        · rw [G 4 (by omega)]
          intro h4 _ e
          obtain ⟨_, _, q3, _⟩ := h.f4 h4
          have := (Array.getElem?_eq_some_iff.1 q3).1
          omega
      | 6, _ =>
        have L : ∀ {j : Nat}, (∃ e ∈ o6.after, e.on = j ∧ Region.binds .any e = true) → l.getD j false = true := fun ⟨e, he, hon, hb⟩ => by
          have := hie o6 rfl e he hb
          rwa [hon] at this
        have hb3 := L e63
        have hb4 := L e64
        have hb5 := L e65
        obtain ⟨hb1, t3, r3, w3⟩ := h.f3 hb3
        obtain ⟨t1, r1, r2, _, r5⟩ := h.f1 hb1
        obtain ⟨t4, q1, q2, q3, q4⟩ := h.f4 hb4
        obtain ⟨t5, u1, u2, u3, u4⟩ := h.f5 hb5
        have hb0 : l.getD 0 false = true := h.i1 hb1
        have hb2 : l.getD 2 false = true := h.i3 hb3
        obtain ⟨w', hx, hr, ho⟩ := x6 a w b6 va _ _ t4 t1 q2 r2
        refine wpOp_none (o := o6) rfl g6 hx ?_
        rw [d6]
        have G : ∀ j, j ≠ 6 → (l.setIfInBounds 6 true).getD j false = l.getD j false := fun j hj => by rw [lset (by omega), if_neg (by omega)]
        refine ⟨b6, b7, va, vb, wα, wβ, wγ, wδ, .inr (.inl ⟨by simpa using hz, fun j hj => ?_, by rw [G 7 (by omega)]; exact h.n7, ⟨h.fr, h.f0 hb0, t1, h.f2 hb2, t3, t4, t5⟩, ⟨r1, r2, r5 hb3, r3, (Rest.below w3).trans hr (fun _ _ e => e), q1, u1, q3 hb1, q4 hb3, u3 hb1, u4 hb3, h.f45 hb4 hb5⟩, ho, ?_⟩)⟩
        · match j, hj with
          | 0, _ => rw [G 0 (by omega)]; exact hb0
          | 1, _ => rw [G 1 (by omega)]; exact hb1
          | 2, _ => rw [G 2 (by omega)]; exact hb2
          | 3, _ => rw [G 3 (by omega)]; exact hb3
          | 4, _ => rw [G 4 (by omega)]; exact hb4
          | 5, _ => rw [G 5 (by omega)]; exact hb5
          | 6, _ => rw [lset (by omega), if_pos rfl]
        · exact (hr.block _ (Array.getElem?_eq_some_iff.1 u2).1 (fun e => h.f45 hb4 hb5 e.symm)).trans u2
      | 7, _ =>
        exfalso
        obtain ⟨e, he, hon, hb⟩ := e76
        have := hie o7 rfl e he hb
        rw [hon, h.n6] at this
        cases this
    · obtain ⟨hz, hall, h7, hF, hE, h6, hZ⟩ := h
      obtain ⟨hi8, hin, hie⟩ := ready_get hi
      have hin := lnot hin
      have hi8 : i < 8 := by simpa using hi8
      have hi7 : i = 7 := by
        by_cases e : i < 7
        · rw [hall i e] at hin; cases hin
        · omega
      subst hi7
      obtain ⟨w', hx, hr, ho⟩ := x7 a w b7 vb _ _ hF.t5 hF.t3 hZ hE.r2
      refine wpOp_none (o := o7) rfl g7 hx ?_
      rw [d7]
      refine ⟨b6, b7, va, vb, wα, wβ, wγ, wδ, .inr (.inr ⟨by simpa using hz, fun j hj => ?_, hF, ⟨hE.b0, hE.r1, hE.b1, hE.r2, (hE.b2.mono (fun _ _ e => .inl e)).trans hr (fun _ _ e => .inr e), hE.ge6, hE.ge7, hE.o16, hE.o26, hE.o17, hE.o27, hE.ne⟩, ?_, ho⟩)⟩
      · by_cases e : j = 7
        · rw [e, lset (by omega), if_pos rfl]
        · rw [lset (by omega), if_neg (by omega)]
          exact hall j (by omega)
      · exact (hr.block _ (Array.getElem?_eq_some_iff.1 h6).1 (fun e => hE.ne e)).trans h6
    · obtain ⟨hz, hall, _⟩ := h
      obtain ⟨hi8, hin, _⟩ := ready_get hi
      have := lnot hin
      rw [hall i (by simpa using hi8)] at this
      cases this
  · rintro l a w ⟨b6, b7, va, vb, wα, wβ, wγ, wδ, h | h | h⟩ hn
    · have := ready_nil hn (by simpa using h.sz) ht 6 (by simp)
      rw [h.n6] at this
      cases this
    · have := ready_nil hn (by simpa using h.1) ht 7 (by simp)
      rw [h.2.2.1] at this
      cases this
    · obtain ⟨_, _, hF, hE, h6, h7⟩ := h
      exact k a w b6 b7 va vb wα wβ wγ wδ hF hE h6 h7
set_option maxHeartbeats 3200000 in
theorem PairF.eq {s : PairAt} {a0 a : Act} {v0 v2 va vb : Value} {g6 g7 : Nat} (h : PairF s a0 v0 v2 a g6 g7 va vb)
    (hlt : s.s0 < a0.tmps.size ∧ s.s1 < a0.tmps.size ∧ s.s2 < a0.tmps.size ∧ s.s3 < a0.tmps.size ∧ s.s4 < a0.tmps.size ∧ s.s5 < a0.tmps.size) :
    a = (((((a0.put (some s.s0) v0).put (some s.s1) va).put (some s.s2) v2).put (some s.s3) vb).put (some s.s4) (.pointer (some ⟨g6, 0, none⟩))).put (some s.s5) (.pointer (some ⟨g7, 0, none⟩)) := by
  obtain ⟨l0, l1, l2, l3, l4, l5⟩ := hlt
  have ht : ∀ j : Nat, a.tmps[j]? = ((((((a0.put (some s.s0) v0).put (some s.s1) va).put (some s.s2) v2).put (some s.s3) vb).put (some s.s4) (.pointer (some ⟨g6, 0, none⟩))).put (some s.s5) (.pointer (some ⟨g7, 0, none⟩))).tmps[j]? := by
    intro j
    simp only [pget, psize]
    by_cases e5 : s.s5 = j
    · subst e5; rw [if_pos rfl, if_pos l5]; exact h.t5
    rw [if_neg e5]
    by_cases e4 : s.s4 = j
    · subst e4; rw [if_pos rfl, if_pos l4]; exact h.t4
    rw [if_neg e4]
    by_cases e3 : s.s3 = j
    · subst e3; rw [if_pos rfl, if_pos l3]; exact h.t3
    rw [if_neg e3]
    by_cases e2 : s.s2 = j
    · subst e2; rw [if_pos rfl, if_pos l2]; exact h.t2
    rw [if_neg e2]
    by_cases e1 : s.s1 = j
    · subst e1; rw [if_pos rfl, if_pos l1]; exact h.t1
    rw [if_neg e1]
    by_cases e0 : s.s0 = j
    · subst e0; rw [if_pos rfl, if_pos l0]; exact h.t0
    rw [if_neg e0]
    exact h.fr.low j (by
      rintro (e | e | e | e | e | e)
      · exact e0 e.symm
      · exact e1 e.symm
      · exact e2 e.symm
      · exact e3 e.symm
      · exact e4 e.symm
      · exact e5 e.symm)
  have hd : a.defers = ((((((a0.put (some s.s0) v0).put (some s.s1) va).put (some s.s2) v2).put (some s.s3) vb).put (some s.s4) (.pointer (some ⟨g6, 0, none⟩))).put (some s.s5) (.pointer (some ⟨g7, 0, none⟩))).defers := h.fr.df
  generalize ((((((a0.put (some s.s0) v0).put (some s.s1) va).put (some s.s2) v2).put (some s.s3) vb).put (some s.s4) (.pointer (some ⟨g6, 0, none⟩))).put (some s.s5) (.pointer (some ⟨g7, 0, none⟩))) = b at ht hd
  obtain ⟨ta, da⟩ := a
  obtain ⟨tb, db⟩ := b
  dsimp only at hd
  subst hd
  congr 1
  exact Array.ext_getElem? ht
theorem topo {ops : Array Oper} (h : (List.range ops.size).all (fun i => (ops.getD i default).after.all (fun e => decide (e.on < i))) = true) : ∀ (i : Nat) (o : Oper), ops[i]? = some o → ∀ e ∈ o.after, e.on < i := by
  intro i o ho e he
  have hi := (Array.getElem?_eq_some_iff.1 ho).1
  have h1 := List.all_eq_true.1 h i (List.mem_range.2 hi)
  rw [Array.getD_eq_getD_getElem?, ho, Option.getD_some, Array.all_eq_true_iff_forall_mem] at h1
  simpa using h1 e he
end Go.Proofs.YtbpkppmbbpoohaaGreat
