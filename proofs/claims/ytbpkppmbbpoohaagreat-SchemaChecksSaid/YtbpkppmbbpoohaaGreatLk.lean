/- A chain of comparisons joined by &&, link by link: what a link leaves, however it ended. No conditions. -/
import Derived.Test.YtbpkppmbbpoohaaGreatM
namespace Go.Proofs.YtbpkppmbbpoohaaGreat
open Go.RowKit

/-- Run on operands that are known. -/
def Ex (P : Program) (o : Oper) (w : World) (ins : List (Nat × Value)) (v : Value) : Prop := ∀ ρ : Operand → Value, (∀ p ∈ ins, ρ (.tmp p.1) = p.2) → (execOp ρ o).run P w = .ok (.value v) w

/-- Behind a link: two places, the answer up to here in slot p. -/
structure Chn (n : Nat) (x y : Value) (p : Nat) (r : Bool) (D : List Deferred) (a : Act) : Prop where
  size : a.tmps.size = n
  t2 : a.tmps[2]? = some x
  t3 : a.tmps[3]? = some y
  at_ : a.tmps[p]? = some (.bool r)
  df : a.defers = D

section
variable {P : Program} {ops : Array Oper} {Q : Exit → Act → World → Prop} {rest : List Oper} {a : Act} {w : World} {o : Oper} {n p g : Nat} {x y : Value} {r : Bool} {D : List Deferred}

theorem put_get (a : Act) (d : Nat) (v : Value) (i : Nat) : (a.put (some d) v).tmps[i]? = if d = i then (if d < a.tmps.size then some v else none) else a.tmps[i]? := Array.getElem?_setIfInBounds
theorem put_size (a : Act) (d : Nat) (v : Value) : (a.put (some d) v).tmps.size = a.tmps.size := Array.size_setIfInBounds
theorem eval_at {t : Nat} {v : Value} (h : a.tmps[t]? = some v) : a.eval (.tmp t) = v := by
  unfold Act.eval
  simp only
  rw [Array.getD_eq_getD_getElem?, h]
  rfl
theorem Chn.put (h : Chn n x y p r D a) {d : Nat} (hd : p < d) (hp : 3 < p) (v : Value) : Chn n x y p r D (a.put (some d) v) :=
  ⟨by rw [put_size]; exact h.size, by rw [put_get, if_neg (by omega)]; exact h.t2, by rw [put_get, if_neg (by omega)]; exact h.t3, by rw [put_get, if_neg (by omega)]; exact h.at_, h.df⟩
theorem Chn.wanted (h : Chn n x y p r D a) (hg : (ops[g]?).bind (·.dst) = some p) (ho : o.guard = some (g, true)) : Region.wanted o (yielded ops a.tmps) = r := by
  unfold Region.wanted yielded
  rw [ho]
  simp only
  rw [hg]
  simp only [Option.bind_some]
  rw [h.at_]
  cases r <;> rfl
theorem wpList_val {v : Value} (hw : Region.wanted o (yielded ops a.tmps) = true) (h : (execOp a.eval o).run P w = .ok (.value v) w) (k : wpList P ops Q rest (a.put o.dst v) w) : wpList P ops Q (o :: rest) a w := by
  refine wpList_step fun K hK => ?_
  rw [if_pos hw]
  unfold Oper.wp
  rw [h]
  exact hK _ _ k
theorem wpList_ex {ins : List (Nat × Value)} {v : Value} (hw : Region.wanted o (yielded ops a.tmps) = true) (h : Ex P o w ins v) (hi : ∀ q ∈ ins, a.eval (.tmp q.1) = q.2) (k : wpList P ops Q rest (a.put o.dst v) w) : wpList P ops Q (o :: rest) a w :=
  wpList_val hw (h _ hi) k
theorem wanted_free (ho : o.guard = none) : Region.wanted o (yielded ops a.tmps) = true := by
  unfold Region.wanted
  rw [ho]
theorem wpList_pass (hw : Region.wanted o (yielded ops a.tmps) = false) (k : wpList P ops Q rest (a.put o.dst undef) w) : wpList P ops Q (o :: rest) a w := wpList_skip hw k
/-- A call. -/
theorem wpList_call {f : FuncId} {args : Array Value} {R : Value → World → Prop} (hw : Region.wanted o (yielded ops a.tmps) = true) (h : (execOp a.eval o).run P w = .ok (.enter f args) w) (hc : Calls P f args w fun e w' => ∃ v, e = .returned v ∧ R v w') (k : ∀ v w', R v w' → wpList P ops Q rest (a.put o.dst v) w') : wpList P ops Q (o :: rest) a w := by
  refine wpList_step fun K hK => ?_
  rw [if_pos hw]
  unfold Oper.wp
  rw [h, Oper.upon_enter]
  refine hc.mono fun e w' ⟨v, he, hr⟩ => ?_
  subst he
  exact hK _ _ (k v w' hr)

theorem run_pick {c t : Nat} {r : Bool} {v : Value} {ρ : Operand → Value} (ho : o.op = .pick (.tmp c) (.tmp t) (.const (.bool false))) (hc : ρ (.tmp c) = .bool r) (ht : r = true → ρ (.tmp t) = v) (hk : ρ (.const (.bool false)) = .bool false) : (execOp ρ o).run P w = .ok (.value (if r then v else .bool false)) w := by
  unfold execOp
  rw [ho]
  simp only
  rw [hc, hk]
  cases r
  · rfl
  · rw [ht rfl]; rfl
theorem run_mv {t : Nat} {v : Value} {ρ : Operand → Value} (ho : o.op = .move (.tmp t)) (ht : ρ (.tmp t) = v) : (execOp ρ o).run P w = .ok (.value v) w := by
  unfold execOp
  rw [ho]
  simp only
  rw [ht]
  rfl

theorem run_as {t : Nat} {v : Value} {ρ : Operand → Value} (ho : o.op = .assign (.tmp t)) (ht : ρ (.tmp t) = v) : (execOp ρ o).run P w = .ok (.value v) w := by
  unfold execOp
  rw [ho]
  simp only
  rw [ht]
  rfl

set_option maxHeartbeats 3200000 in
/-- The end of a link: the answer is joined, and moved. -/
theorem link_end {o5 o6 : Oper} {s : Bool} (h : Chn n x y p r D a) (hp : 3 < p) (hn : p + 7 < n)
    (d5 : o5.dst = some (p + 6)) (e5 : o5.op = .pick (.tmp p) (.tmp (p + 5)) (.const (.bool false))) (g5 : o5.guard = none) (d6 : o6.dst = some (p + 7)) (e6 : o6.op = .move (.tmp (p + 6))) (g6 : o6.guard = none)
    (hs : r = true → a.tmps[p + 5]? = some (.bool s)) (k : ∀ a', Chn n x y (p + 7) (r && s) D a' → wpList P ops Q rest a' w) : wpList P ops Q (o5 :: o6 :: rest) a w := by
  refine wpList_val (v := .bool (r && s)) (wanted_free g5) ?_ ?_
  · have := run_pick (P := P) (w := w) (ρ := a.eval) (v := .bool s) e5 (eval_at h.at_) (fun e => eval_at (hs e)) rfl
    rw [this]
    cases r <;> rfl
  · rw [d5]
    have h1 : (a.put (some (p + 6)) (.bool (r && s))).tmps[p + 6]? = some (.bool (r && s)) := by rw [put_get, if_pos rfl, if_pos (by rw [h.size]; omega)]
    refine wpList_val (wanted_free g6) (run_mv e6 (eval_at h1)) ?_
    rw [d6]
    refine k _ ⟨by rw [put_size, put_size]; exact h.size, ?_, ?_, ?_, h.df⟩
    · rw [put_get, if_neg (by omega), put_get, if_neg (by omega)]; exact h.t2
    · rw [put_get, if_neg (by omega), put_get, if_neg (by omega)]; exact h.t3
    · rw [put_get, if_pos rfl, if_pos (by rw [put_size, h.size]; omega)]

set_option maxHeartbeats 3200000 in
/-- A link that compares two cells. -/
theorem link_eql {o0 o1 o2 o3 o4 o5 o6 : Oper} {s : Bool} {q2 q3 u v : Value} (h : Chn n x y p r D a) (hp : 3 < p) (hn : p + 7 < n) (hg : (ops[g]?).bind (·.dst) = some p)
    (k0 : o0.guard = some (g, true)) (k1 : o1.guard = some (g, true)) (k2 : o2.guard = some (g, true)) (k3 : o3.guard = some (g, true)) (k4 : o4.guard = some (g, true))
    (d0 : o0.dst = some (p + 1)) (d1 : o1.dst = some (p + 2)) (d2 : o2.dst = some (p + 3)) (d3 : o3.dst = some (p + 4)) (d4 : o4.dst = some (p + 5))
    (x0 : Ex P o0 w [(2, x)] q2) (x1 : Ex P o1 w [(p + 1, q2)] u) (x2 : Ex P o2 w [(3, y)] q3) (x3 : Ex P o3 w [(p + 3, q3)] v) (x4 : Ex P o4 w [(p + 2, u), (p + 4, v)] (.bool s))
    (d5 : o5.dst = some (p + 6)) (e5 : o5.op = .pick (.tmp p) (.tmp (p + 5)) (.const (.bool false))) (g5 : o5.guard = none) (d6 : o6.dst = some (p + 7)) (e6 : o6.op = .move (.tmp (p + 6))) (g6 : o6.guard = none)
    (k : ∀ a', Chn n x y (p + 7) (r && s) D a' → wpList P ops Q rest a' w) : wpList P ops Q (o0 :: o1 :: o2 :: o3 :: o4 :: o5 :: o6 :: rest) a w := by
  have c1 : ∀ v, Chn n x y p r D (a.put (some (p + 1)) v) := fun v => h.put (by omega) hp v
  have c2 : ∀ v1 v, Chn n x y p r D ((a.put (some (p + 1)) v1).put (some (p + 2)) v) := fun v1 v => (c1 v1).put (by omega) hp v
  have c3 : ∀ v1 v2 v, Chn n x y p r D (((a.put (some (p + 1)) v1).put (some (p + 2)) v2).put (some (p + 3)) v) := fun v1 v2 v => (c2 v1 v2).put (by omega) hp v
  have c4 : ∀ v1 v2 v3 v, Chn n x y p r D ((((a.put (some (p + 1)) v1).put (some (p + 2)) v2).put (some (p + 3)) v3).put (some (p + 4)) v) := fun v1 v2 v3 v => (c3 v1 v2 v3).put (by omega) hp v
  have c5 : ∀ v1 v2 v3 v4 v, Chn n x y p r D (((((a.put (some (p + 1)) v1).put (some (p + 2)) v2).put (some (p + 3)) v3).put (some (p + 4)) v4).put (some (p + 5)) v) := fun v1 v2 v3 v4 v => (c4 v1 v2 v3 v4).put (by omega) hp v
  cases r with
  | false =>
    refine wpList_pass (h.wanted hg k0) ?_
    rw [d0]
    refine wpList_pass ((c1 _).wanted hg k1) ?_
    rw [d1]
    refine wpList_pass ((c2 _ _).wanted hg k2) ?_
    rw [d2]
    refine wpList_pass ((c3 _ _ _).wanted hg k3) ?_
    rw [d3]
    refine wpList_pass ((c4 _ _ _ _).wanted hg k4) ?_
    rw [d4]
    exact link_end (s := s) (c5 _ _ _ _ _) hp hn d5 e5 g5 d6 e6 g6 (fun e => by cases e) k
  | true =>
    have l1 : ∀ v, (a.put (some (p + 1)) v).tmps[p + 1]? = some v := fun v => by rw [put_get, if_pos rfl, if_pos (by rw [h.size]; omega)]
    refine wpList_ex (h.wanted hg k0) x0 (fun q hq => by simp only [List.mem_singleton] at hq; subst hq; exact eval_at h.t2) ?_
    rw [d0]
    refine wpList_ex ((c1 _).wanted hg k1) x1 (fun q hq => by simp only [List.mem_singleton] at hq; subst hq; exact eval_at (l1 _)) ?_
    rw [d1]
    have l2 : ((a.put (some (p + 1)) q2).put (some (p + 2)) u).tmps[p + 2]? = some u := by rw [put_get, if_pos rfl, if_pos (by rw [(c1 _).size]; omega)]
    refine wpList_ex ((c2 _ _).wanted hg k2) x2 (fun q hq => by simp only [List.mem_singleton] at hq; subst hq; exact eval_at (c2 _ _).t3) ?_
    rw [d2]
    have l3 : (((a.put (some (p + 1)) q2).put (some (p + 2)) u).put (some (p + 3)) q3).tmps[p + 3]? = some q3 := by rw [put_get, if_pos rfl, if_pos (by rw [(c2 _ _).size]; omega)]
    refine wpList_ex ((c3 _ _ _).wanted hg k3) x3 (fun q hq => by simp only [List.mem_singleton] at hq; subst hq; exact eval_at l3) ?_
    rw [d3]
    have l4 : ((((a.put (some (p + 1)) q2).put (some (p + 2)) u).put (some (p + 3)) q3).put (some (p + 4)) v).tmps[p + 4]? = some v := by rw [put_get, if_pos rfl, if_pos (by rw [(c3 _ _ _).size]; omega)]
    have l42 : ((((a.put (some (p + 1)) q2).put (some (p + 2)) u).put (some (p + 3)) q3).put (some (p + 4)) v).tmps[p + 2]? = some u := by rw [put_get, if_neg (by omega), put_get, if_neg (by omega)]; exact l2
    refine wpList_ex ((c4 _ _ _ _).wanted hg k4) x4 (fun q hq => ?_) ?_
    · simp only [List.mem_cons, List.not_mem_nil, or_false] at hq
      rcases hq with rfl | rfl
      · exact eval_at l42
      · exact eval_at l4
    rw [d4]
    exact link_end (s := s) (c5 _ _ _ _ _) hp hn d5 e5 g5 d6 e6 g6 (fun _ => by rw [put_get, if_pos rfl, if_pos (by rw [(c4 _ _ _ _).size]; omega)]) k

set_option maxHeartbeats 3200000 in
/-- A link that calls. -/
theorem link_call {o0 o1 o2 o3 o4 o5 o6 : Oper} {s : Bool} {q2 q3 u v : Value} {f : FuncId} (h : Chn n x y p r D a) (hp : 3 < p) (hn : p + 7 < n) (hg : (ops[g]?).bind (·.dst) = some p)
    (k0 : o0.guard = some (g, true)) (k1 : o1.guard = some (g, true)) (k2 : o2.guard = some (g, true)) (k3 : o3.guard = some (g, true)) (k4 : o4.guard = some (g, true))
    (d0 : o0.dst = some (p + 1)) (d1 : o1.dst = some (p + 2)) (d2 : o2.dst = some (p + 3)) (d3 : o3.dst = some (p + 4)) (d4 : o4.dst = some (p + 5))
    (x0 : Ex P o0 w [(2, x)] q2) (x1 : Ex P o1 w [(p + 1, q2)] u) (x2 : Ex P o2 w [(3, y)] q3) (x3 : Ex P o3 w [(p + 3, q3)] v)
    (x4 : ∀ ρ : Operand → Value, ρ (.tmp (p + 2)) = u → ρ (.tmp (p + 4)) = v → ρ (.func f) = .func (.func f) #[] #[] → (execOp ρ o4).run P w = .ok (.enter f #[u, v]) w)
    (hc : Calls P f #[u, v] w fun e w' => e = .returned (.bool s) ∧ Below w.heap.size w w')
    (d5 : o5.dst = some (p + 6)) (e5 : o5.op = .pick (.tmp p) (.tmp (p + 5)) (.const (.bool false))) (g5 : o5.guard = none) (d6 : o6.dst = some (p + 7)) (e6 : o6.op = .move (.tmp (p + 6))) (g6 : o6.guard = none)
    (k : ∀ a' w', Below w.heap.size w w' → Chn n x y (p + 7) (r && s) D a' → wpList P ops Q rest a' w') : wpList P ops Q (o0 :: o1 :: o2 :: o3 :: o4 :: o5 :: o6 :: rest) a w := by
  have c1 : ∀ v, Chn n x y p r D (a.put (some (p + 1)) v) := fun v => h.put (by omega) hp v
  have c2 : ∀ v1 v, Chn n x y p r D ((a.put (some (p + 1)) v1).put (some (p + 2)) v) := fun v1 v => (c1 v1).put (by omega) hp v
  have c3 : ∀ v1 v2 v, Chn n x y p r D (((a.put (some (p + 1)) v1).put (some (p + 2)) v2).put (some (p + 3)) v) := fun v1 v2 v => (c2 v1 v2).put (by omega) hp v
  have c4 : ∀ v1 v2 v3 v, Chn n x y p r D ((((a.put (some (p + 1)) v1).put (some (p + 2)) v2).put (some (p + 3)) v3).put (some (p + 4)) v) := fun v1 v2 v3 v => (c3 v1 v2 v3).put (by omega) hp v
  have c5 : ∀ v1 v2 v3 v4 v, Chn n x y p r D (((((a.put (some (p + 1)) v1).put (some (p + 2)) v2).put (some (p + 3)) v3).put (some (p + 4)) v4).put (some (p + 5)) v) := fun v1 v2 v3 v4 v => (c4 v1 v2 v3 v4).put (by omega) hp v
  cases r with
  | false =>
    refine wpList_pass (h.wanted hg k0) ?_
    rw [d0]
    refine wpList_pass ((c1 _).wanted hg k1) ?_
    rw [d1]
    refine wpList_pass ((c2 _ _).wanted hg k2) ?_
    rw [d2]
    refine wpList_pass ((c3 _ _ _).wanted hg k3) ?_
    rw [d3]
    refine wpList_pass ((c4 _ _ _ _).wanted hg k4) ?_
    rw [d4]
    exact link_end (s := s) (c5 _ _ _ _ _) hp hn d5 e5 g5 d6 e6 g6 (fun e => by cases e) (fun a' ha => k a' w (Below.refl _ _) ha)
  | true =>
    have l1 : ∀ v, (a.put (some (p + 1)) v).tmps[p + 1]? = some v := fun v => by rw [put_get, if_pos rfl, if_pos (by rw [h.size]; omega)]
    refine wpList_ex (h.wanted hg k0) x0 (fun q hq => by simp only [List.mem_singleton] at hq; subst hq; exact eval_at h.t2) ?_
    rw [d0]
    refine wpList_ex ((c1 _).wanted hg k1) x1 (fun q hq => by simp only [List.mem_singleton] at hq; subst hq; exact eval_at (l1 _)) ?_
    rw [d1]
    have l2 : ((a.put (some (p + 1)) q2).put (some (p + 2)) u).tmps[p + 2]? = some u := by rw [put_get, if_pos rfl, if_pos (by rw [(c1 _).size]; omega)]
    refine wpList_ex ((c2 _ _).wanted hg k2) x2 (fun q hq => by simp only [List.mem_singleton] at hq; subst hq; exact eval_at (c2 _ _).t3) ?_
    rw [d2]
    have l3 : (((a.put (some (p + 1)) q2).put (some (p + 2)) u).put (some (p + 3)) q3).tmps[p + 3]? = some q3 := by rw [put_get, if_pos rfl, if_pos (by rw [(c2 _ _).size]; omega)]
    refine wpList_ex ((c3 _ _ _).wanted hg k3) x3 (fun q hq => by simp only [List.mem_singleton] at hq; subst hq; exact eval_at l3) ?_
    rw [d3]
    have l4 : ((((a.put (some (p + 1)) q2).put (some (p + 2)) u).put (some (p + 3)) q3).put (some (p + 4)) v).tmps[p + 4]? = some v := by rw [put_get, if_pos rfl, if_pos (by rw [(c3 _ _ _).size]; omega)]
    have l42 : ((((a.put (some (p + 1)) q2).put (some (p + 2)) u).put (some (p + 3)) q3).put (some (p + 4)) v).tmps[p + 2]? = some u := by rw [put_get, if_neg (by omega), put_get, if_neg (by omega)]; exact l2
    refine wpList_call (R := fun v' w' => v' = .bool s ∧ Below w.heap.size w w') ((c4 _ _ _ _).wanted hg k4) (x4 _ (eval_at l42) (eval_at l4) rfl) (hc.mono fun e w' ⟨h1, h2⟩ => ⟨_, h1, rfl, h2⟩) ?_
    rintro _ w' ⟨rfl, hb⟩
    rw [d4]
    exact link_end (s := s) (c5 _ _ _ _ _) hp hn d5 e5 g5 d6 e6 g6 (fun _ => by rw [put_get, if_pos rfl, if_pos (by rw [(c4 _ _ _ _).size]; omega)]) (fun a' ha => k a' w' hb ha)
set_option maxHeartbeats 3200000 in
/-- The first link: nothing is ahead of it. -/
theorem link_first {o0 o1 o2 o3 o4 o5 : Oper} {s : Bool} {q2 q3 u v : Value} (hz : a.tmps.size = n) (h2 : a.tmps[2]? = some x) (h3 : a.tmps[3]? = some y) (hD : a.defers = D) (hp : 3 < p) (hn : p + 6 < n)
    (k0 : o0.guard = none) (k1 : o1.guard = none) (k2 : o2.guard = none) (k3 : o3.guard = none) (k4 : o4.guard = none)
    (d0 : o0.dst = some (p + 1)) (d1 : o1.dst = some (p + 2)) (d2 : o2.dst = some (p + 3)) (d3 : o3.dst = some (p + 4)) (d4 : o4.dst = some (p + 5))
    (x0 : Ex P o0 w [(2, x)] q2) (x1 : Ex P o1 w [(p + 1, q2)] u) (x2 : Ex P o2 w [(3, y)] q3) (x3 : Ex P o3 w [(p + 3, q3)] v) (x4 : Ex P o4 w [(p + 2, u), (p + 4, v)] (.bool s))
    (d5 : o5.dst = some (p + 6)) (e5 : o5.op = .move (.tmp (p + 5))) (g5 : o5.guard = none)
    (k : ∀ a', Chn n x y (p + 6) s D a' → wpList P ops Q rest a' w) : wpList P ops Q (o0 :: o1 :: o2 :: o3 :: o4 :: o5 :: rest) a w := by
  have l1 : (a.put (some (p + 1)) q2).tmps[p + 1]? = some q2 := by rw [put_get, if_pos rfl, if_pos (by rw [hz]; omega)]
  refine wpList_ex (wanted_free k0) x0 (fun q hq => by simp only [List.mem_singleton] at hq; subst hq; exact eval_at h2) ?_
  rw [d0]
  refine wpList_ex (wanted_free k1) x1 (fun q hq => by simp only [List.mem_singleton] at hq; subst hq; exact eval_at l1) ?_
  rw [d1]
  have l2 : ((a.put (some (p + 1)) q2).put (some (p + 2)) u).tmps[p + 2]? = some u := by rw [put_get, if_pos rfl, if_pos (by rw [put_size, hz]; omega)]
  have l23 : ((a.put (some (p + 1)) q2).put (some (p + 2)) u).tmps[3]? = some y := by rw [put_get, if_neg (by omega), put_get, if_neg (by omega)]; exact h3
  refine wpList_ex (wanted_free k2) x2 (fun q hq => by simp only [List.mem_singleton] at hq; subst hq; exact eval_at l23) ?_
  rw [d2]
  have l3 : (((a.put (some (p + 1)) q2).put (some (p + 2)) u).put (some (p + 3)) q3).tmps[p + 3]? = some q3 := by rw [put_get, if_pos rfl, if_pos (by rw [put_size, put_size, hz]; omega)]
  refine wpList_ex (wanted_free k3) x3 (fun q hq => by simp only [List.mem_singleton] at hq; subst hq; exact eval_at l3) ?_
  rw [d3]
  have l4 : ((((a.put (some (p + 1)) q2).put (some (p + 2)) u).put (some (p + 3)) q3).put (some (p + 4)) v).tmps[p + 4]? = some v := by rw [put_get, if_pos rfl, if_pos (by rw [put_size, put_size, put_size, hz]; omega)]
  have l42 : ((((a.put (some (p + 1)) q2).put (some (p + 2)) u).put (some (p + 3)) q3).put (some (p + 4)) v).tmps[p + 2]? = some u := by rw [put_get, if_neg (by omega), put_get, if_neg (by omega)]; exact l2
  refine wpList_ex (wanted_free k4) x4 (fun q hq => ?_) ?_
  · simp only [List.mem_cons, List.not_mem_nil, or_false] at hq
    rcases hq with rfl | rfl
    · exact eval_at l42
    · exact eval_at l4
  rw [d4]
  have l5 : (((((a.put (some (p + 1)) q2).put (some (p + 2)) u).put (some (p + 3)) q3).put (some (p + 4)) v).put (some (p + 5)) (.bool s)).tmps[p + 5]? = some (.bool s) := by rw [put_get, if_pos rfl, if_pos (by rw [put_size, put_size, put_size, put_size, hz]; omega)]
  refine wpList_val (wanted_free g5) (run_mv e5 (eval_at l5)) ?_
  rw [d5]
  have hsz : (((((a.put (some (p + 1)) q2).put (some (p + 2)) u).put (some (p + 3)) q3).put (some (p + 4)) v).put (some (p + 5)) (.bool s)).tmps.size = n := by rw [put_size, put_size, put_size, put_size, put_size, hz]
  refine k _ ⟨by rw [put_size]; exact hsz, ?_, ?_, ?_, hD⟩
  · rw [put_get, if_neg (by omega), put_get, if_neg (by omega), put_get, if_neg (by omega), put_get, if_neg (by omega), put_get, if_neg (by omega), put_get, if_neg (by omega)]; exact h2
  · rw [put_get, if_neg (by omega), put_get, if_neg (by omega), put_get, if_neg (by omega), put_get, if_neg (by omega), put_get, if_neg (by omega), put_get, if_neg (by omega)]; exact h3
  · rw [put_get, if_pos rfl, if_pos (by rw [hsz]; omega)]
set_option maxHeartbeats 3200000 in
/-- The end of the last link: the answer is joined, and kept. -/
theorem last_end {o5 o6 : Oper} {s : Bool} (h : Chn n x y p r D a) (hp : 3 < p) (hn : p + 6 < n)
    (d5 : o5.dst = some (p + 6)) (e5 : o5.op = .pick (.tmp p) (.tmp (p + 5)) (.const (.bool false))) (g5 : o5.guard = none) (d6 : o6.dst = some 4) (e6 : o6.op = .assign (.tmp (p + 6))) (g6 : o6.guard = none)
    (hs : r = true → a.tmps[p + 5]? = some (.bool s)) (k : ∀ a', a'.tmps.size = n → a'.tmps[4]? = some (.bool (r && s)) → a'.defers = D → wpList P ops Q rest a' w) : wpList P ops Q (o5 :: o6 :: rest) a w := by
  refine wpList_val (v := .bool (r && s)) (wanted_free g5) ?_ ?_
  · have := run_pick (P := P) (w := w) (ρ := a.eval) (v := .bool s) e5 (eval_at h.at_) (fun e => eval_at (hs e)) rfl
    rw [this]
    cases r <;> rfl
  · rw [d5]
    have h1 : (a.put (some (p + 6)) (.bool (r && s))).tmps[p + 6]? = some (.bool (r && s)) := by rw [put_get, if_pos rfl, if_pos (by rw [h.size]; omega)]
    refine wpList_val (wanted_free g6) (run_as e6 (eval_at h1)) ?_
    rw [d6]
    refine k _ (by rw [put_size, put_size]; exact h.size) ?_ h.df
    rw [put_get, if_pos rfl, if_pos (by rw [put_size, h.size]; omega)]

set_option maxHeartbeats 3200000 in
/-- The last link, which compares two cells. -/
theorem link_last {o0 o1 o2 o3 o4 o5 o6 : Oper} {s : Bool} {q2 q3 u v : Value} (h : Chn n x y p r D a) (hp : 3 < p) (hn : p + 6 < n) (hg : (ops[g]?).bind (·.dst) = some p)
    (k0 : o0.guard = some (g, true)) (k1 : o1.guard = some (g, true)) (k2 : o2.guard = some (g, true)) (k3 : o3.guard = some (g, true)) (k4 : o4.guard = some (g, true))
    (d0 : o0.dst = some (p + 1)) (d1 : o1.dst = some (p + 2)) (d2 : o2.dst = some (p + 3)) (d3 : o3.dst = some (p + 4)) (d4 : o4.dst = some (p + 5))
    (x0 : Ex P o0 w [(2, x)] q2) (x1 : Ex P o1 w [(p + 1, q2)] u) (x2 : Ex P o2 w [(3, y)] q3) (x3 : Ex P o3 w [(p + 3, q3)] v) (x4 : Ex P o4 w [(p + 2, u), (p + 4, v)] (.bool s))
    (d5 : o5.dst = some (p + 6)) (e5 : o5.op = .pick (.tmp p) (.tmp (p + 5)) (.const (.bool false))) (g5 : o5.guard = none) (d6 : o6.dst = some 4) (e6 : o6.op = .assign (.tmp (p + 6))) (g6 : o6.guard = none)
    (k : ∀ a', a'.tmps.size = n → a'.tmps[4]? = some (.bool (r && s)) → a'.defers = D → wpList P ops Q rest a' w) : wpList P ops Q (o0 :: o1 :: o2 :: o3 :: o4 :: o5 :: o6 :: rest) a w := by
  have c1 : ∀ v, Chn n x y p r D (a.put (some (p + 1)) v) := fun v => h.put (by omega) hp v
  have c2 : ∀ v1 v, Chn n x y p r D ((a.put (some (p + 1)) v1).put (some (p + 2)) v) := fun v1 v => (c1 v1).put (by omega) hp v
  have c3 : ∀ v1 v2 v, Chn n x y p r D (((a.put (some (p + 1)) v1).put (some (p + 2)) v2).put (some (p + 3)) v) := fun v1 v2 v => (c2 v1 v2).put (by omega) hp v
  have c4 : ∀ v1 v2 v3 v, Chn n x y p r D ((((a.put (some (p + 1)) v1).put (some (p + 2)) v2).put (some (p + 3)) v3).put (some (p + 4)) v) := fun v1 v2 v3 v => (c3 v1 v2 v3).put (by omega) hp v
  have c5 : ∀ v1 v2 v3 v4 v, Chn n x y p r D (((((a.put (some (p + 1)) v1).put (some (p + 2)) v2).put (some (p + 3)) v3).put (some (p + 4)) v4).put (some (p + 5)) v) := fun v1 v2 v3 v4 v => (c4 v1 v2 v3 v4).put (by omega) hp v
  cases r with
  | false =>
    refine wpList_pass (h.wanted hg k0) ?_
    rw [d0]
    refine wpList_pass ((c1 _).wanted hg k1) ?_
    rw [d1]
    refine wpList_pass ((c2 _ _).wanted hg k2) ?_
    rw [d2]
    refine wpList_pass ((c3 _ _ _).wanted hg k3) ?_
    rw [d3]
    refine wpList_pass ((c4 _ _ _ _).wanted hg k4) ?_
    rw [d4]
    exact last_end (s := s) (c5 _ _ _ _ _) hp hn d5 e5 g5 d6 e6 g6 (fun e => by cases e) k
  | true =>
    have l1 : ∀ v, (a.put (some (p + 1)) v).tmps[p + 1]? = some v := fun v => by rw [put_get, if_pos rfl, if_pos (by rw [h.size]; omega)]
    refine wpList_ex (h.wanted hg k0) x0 (fun q hq => by simp only [List.mem_singleton] at hq; subst hq; exact eval_at h.t2) ?_
    rw [d0]
    refine wpList_ex ((c1 _).wanted hg k1) x1 (fun q hq => by simp only [List.mem_singleton] at hq; subst hq; exact eval_at (l1 _)) ?_
    rw [d1]
    have l2 : ((a.put (some (p + 1)) q2).put (some (p + 2)) u).tmps[p + 2]? = some u := by rw [put_get, if_pos rfl, if_pos (by rw [(c1 _).size]; omega)]
    refine wpList_ex ((c2 _ _).wanted hg k2) x2 (fun q hq => by simp only [List.mem_singleton] at hq; subst hq; exact eval_at (c2 _ _).t3) ?_
    rw [d2]
    have l3 : (((a.put (some (p + 1)) q2).put (some (p + 2)) u).put (some (p + 3)) q3).tmps[p + 3]? = some q3 := by rw [put_get, if_pos rfl, if_pos (by rw [(c2 _ _).size]; omega)]
    refine wpList_ex ((c3 _ _ _).wanted hg k3) x3 (fun q hq => by simp only [List.mem_singleton] at hq; subst hq; exact eval_at l3) ?_
    rw [d3]
    have l4 : ((((a.put (some (p + 1)) q2).put (some (p + 2)) u).put (some (p + 3)) q3).put (some (p + 4)) v).tmps[p + 4]? = some v := by rw [put_get, if_pos rfl, if_pos (by rw [(c3 _ _ _).size]; omega)]
    have l42 : ((((a.put (some (p + 1)) q2).put (some (p + 2)) u).put (some (p + 3)) q3).put (some (p + 4)) v).tmps[p + 2]? = some u := by rw [put_get, if_neg (by omega), put_get, if_neg (by omega)]; exact l2
    refine wpList_ex ((c4 _ _ _ _).wanted hg k4) x4 (fun q hq => ?_) ?_
    · simp only [List.mem_cons, List.not_mem_nil, or_false] at hq
      rcases hq with rfl | rfl
      · exact eval_at l42
      · exact eval_at l4
    rw [d4]
    exact last_end (s := s) (c5 _ _ _ _ _) hp hn d5 e5 g5 d6 e6 g6 (fun _ => by rw [put_get, if_pos rfl, if_pos (by rw [(c4 _ _ _ _).size]; omega)]) k
end
end Go.Proofs.YtbpkppmbbpoohaaGreat
