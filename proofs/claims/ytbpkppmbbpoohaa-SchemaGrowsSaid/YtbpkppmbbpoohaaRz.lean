/- A round of a range over a function that ends in a panic, and the statement that it leaves. No conditions beyond those named. -/
import Derived.Test.YtbpkppmbbpoohaaRf
namespace Go.Proofs.Ytbpkppmbbpoohaa
open Go.RowKit Go.Shelf
attribute [local go_sem] Oper.semAt_some

/-- No library call waits on top. -/
def Free (todo : List Item) : Prop := ∀ f r x y k, todo ≠ .call f r x y :: k

theorem step_falls {P : Program} {fr c : Frame} {cs : List Frame} {w : World} {chain : List PanicEntry} (hm : fr.mode = .panicking chain) (hd : fr.defers = []) (hf : Free fr.todo) : step P (lone fr (c :: cs) w) = .next (lone (c.raise chain) cs w) := by
  have hc : fr.catches P = false := by
    unfold Frame.catches
    split
    · rename_i h _ r _ _ ht
      exact absurd ht (hf _ _ _ _ _)
    · rfl
  exact step_lone_go (by simp [stepG, unwind, hm, hd, hc])

/-- Operations of a region in a round, which end in a panic. -/
def FallsOps (P : Program) (l : Nat) (ops : Array Oper) (R : List PanicEntry → World → Prop) (is : List Nat) (a : Go.Act) (w : World) : Prop :=
  ∀ (b : Frame) (k : List Item) (cs : List Frame), b.roundOf = some l → ∃ chain a' w' todo, R chain w' ∧ a'.defers = [] ∧ Free todo ∧ Steps P (lone (b.atR a (.inRegion ops is :: k)) cs w) (lone { b.atR a' todo with mode := .panicking chain } cs w')
/-- Code in a round that ends in a panic. -/
def Falls (P : Program) (l : Nat) (c : Code) (R : List PanicEntry → World → Prop) (a : Go.Act) (w : World) : Prop :=
  ∀ (b : Frame) (k : List Item) (cs : List Frame), b.roundOf = some l → ∃ chain a' w' todo, R chain w' ∧ a'.defers = [] ∧ Free todo ∧ Steps P (lone (b.atR a (.code c :: k)) cs w) (lone { b.atR a' todo with mode := .panicking chain } cs w')

section
variable {P : Program} {l : Nat} {R : List PanicEntry → World → Prop} {a : Go.Act} {w : World} {ops : Array Oper}
theorem falls_region {id : Nat} (h : FallsOps P l ops R (List.range ops.size) a w) : Falls P l (.region id ops false) R a w := fun b k cs hb => by
  obtain ⟨chain, a', w', todo, h1, h2, h3, h4⟩ := h b k cs hb
  exact ⟨chain, a', w', todo, h1, h2, h3, Steps.trans (.one stepR_region) h4⟩
theorem falls_left {c1 c2 : Code} (h : Falls P l c1 R a w) : Falls P l (.seq c1 c2) R a w := fun b k cs hb => by
  obtain ⟨chain, a', w', todo, h1, h2, h3, h4⟩ := h b (.code c2 :: k) cs hb
  exact ⟨chain, a', w', todo, h1, h2, h3, Steps.trans (.one stepR_seq) h4⟩
theorem falls_right {n : Nat} {c1 c2 : Code} (h : c1.wpIn (Fence.wide.inRound l) n P (fun e a' w' => match e with | .normal => Falls P l c2 R a' w' | _ => False) a w) : Falls P l (.seq c1 c2) R a w := fun b k cs hb => by
  obtain ⟨e, a1, w1, hq, harr⟩ := h b (.code c2 :: k) cs hb trivial (room_wide _)
  cases e with
  | normal =>
    obtain ⟨chain, a', w', todo, h1, h2, h3, h4⟩ := hq b k cs hb
    exact ⟨chain, a', w', todo, h1, h2, h3, Steps.trans (.one stepR_seq) (Steps.trans (stepsIn_wide.1 harr) h4)⟩
  | ret => exact hq.elim
  | exit id => exact hq.elim
  | goto t => exact hq.elim
  | panic ch => exact hq.elim
  | outgrown => exact hq.elim
theorem falls_block {id : Nat} {c : Code} (h : Falls P l c R a w) : Falls P l (.block id c) R a w := fun b k cs hb => by
  obtain ⟨chain, a', w', todo, h1, h2, h3, h4⟩ := h b (.inBlock id :: k) cs hb
  exact ⟨chain, a', w', todo, h1, h2, h3, Steps.trans (.one stepR_block) h4⟩
theorem falls_val {i : Nat} {rest : List Nat} {o : Oper} {v : Value} {w1 : World} (ho : ops[i]? = some o) (hg : o.guard = none) (hd : ∀ c, o.op ≠ .defer c) (hr : (execOp a.eval o).run P w = .ok (.value v) w1) (h : FallsOps P l ops R rest (a.put o.dst v) w1) : FallsOps P l ops R (i :: rest) a w := fun b k cs hb => by
  obtain ⟨chain, a', w', todo, h1, h2, h3, h4⟩ := h b k cs hb
  refine ⟨chain, a', w', todo, h1, h2, h3, Steps.trans (.one (step_lone_go ?_)) h4⟩
  have hw : Region.wanted o (yielded ops a.tmps) = true := by unfold Region.wanted; rw [hg]
  rw [stepGR_op ho hw, Oper.semAt_eq _ _ _ hd]
  have hfin : (b.atR a (.inRegion ops (i :: rest) :: k)).finish v = b.atR (a.put o.dst v) (.inRegion ops rest :: k) := by
    rw [Frame.finish_atR, ho]; rfl
  rw [← hfin]
  simp [stepG.apply, hr]
theorem falls_call {i : Nat} {rest : List Nat} {o : Oper} {f : FuncId} {args : Array Value} {w1 : World} (ho : ops[i]? = some o) (hg : o.guard = none) (hd : ∀ c, o.op ≠ .defer c) (hr : (execOp a.eval o).run P w = .ok (.enter f args) w1) (hdf : a.defers = []) (h : Calls P f args w1 fun e w' => ∃ chain, e = .panicked chain ∧ R chain w') : FallsOps P l ops R (i :: rest) a w := fun b k cs hb => by
  have hw : Region.wanted o (yielded ops a.tmps) = true := by unfold Region.wanted; rw [hg]
  obtain ⟨e, w', fr, ⟨chain, he, hR⟩, hsteps, hfn, hleave⟩ := h (b.atR a (.inRegion ops (i :: rest) :: k) :: cs)
  subst he
  have henter : step P (lone (b.atR a (.inRegion ops (i :: rest) :: k)) cs w) = .next (lone (Frame.enter P f args .normal) (b.atR a (.inRegion ops (i :: rest) :: k) :: cs) w1) :=
    step_lone_go (by rw [stepGR_op ho hw, Oper.semAt_eq _ _ _ hd]; simp [stepG.apply, hr, Frame.atR])
  refine ⟨chain, a, w', .inRegion ops (i :: rest) :: k, hR, hdf, (fun _ _ _ _ _ e => by cases e), Steps.trans (.one henter) (Steps.trans hsteps (.one ?_))⟩
  rw [← Frame.raise_atR]
  exact step_leave_panicked hleave
/-- A round whose body ends in a panic. -/
theorem round_falls {n : Nat} {fn : FuncId} {tmps : Array Value} {ps : Array Tmp} {assign body : Code} {D : Nat} {rr : LoopState → Option Code → Loop} (hrr : rr = recOf fn tmps ps assign body D) {x : Array Value} {W : World} (hR : RecAt W l D (rr .ready none)) (hps : x.size = ps.size) {R' : Ending → World → Prop} (a₁ : Go.Act)
    (hassign : ∀ K : Go.Act → World → Prop, K a₁ W → assign.wpIn (Fence.wide.inRound l) n Try.prog (Exit.then K (fun _ _ _ => False)) { tmps := (ps.zip x).foldl (fun t (p, v) => t.setIfInBounds p v) tmps, defers := [] } W)
    (hbody : ∀ W2, W2 = W.putObj l (.loop (rr .busy none)) → Falls Try.prog l body (fun ch W3 => R' (.panicked ch) W3) a₁ W2) :
    YieldAt Fence.wide n Try.prog l x W R' := by
  subst hrr
  have hy := run_yield (P := Try.prog) (args := x) hR.rec_ hps.symm.symm
  refine ⟨fn, _, assign, body, hy, trivial, fun c cs _ => ?_⟩
  let b : Frame := { (default : Frame) with fn := fn, kind := .normal, roundOf := some l }
  have hb0 : Frame.round l fn ((ps.zip x).foldl (fun t (p, v) => t.setIfInBounds p v) tmps) assign body .normal = b.atR { tmps := (ps.zip x).foldl (fun t (p, v) => t.setIfInBounds p v) tmps, defers := [] } [.code assign, .beginRound, .code body] := by
    simp [Frame.round, Frame.atR, b]
  obtain ⟨e, a1, w1, hq, harr⟩ := hassign (fun a w => a = a₁ ∧ w = W) ⟨rfl, rfl⟩ b [.beginRound, .code body] (c :: cs) rfl trivial (room_wide _)
  cases e with
  | normal =>
    obtain ⟨rfl, rfl⟩ := hq
    obtain ⟨chain, a', w', todo, h1, h2, h3, h4⟩ := hbody _ rfl b [] (c :: cs) rfl
    refine ⟨.panicked chain, w', h1, ?_⟩
    refine stepsIn_wide.2 ?_
    have s1 : Steps Try.prog (lone (Frame.round l fn ((ps.zip x).foldl (fun t (p, v) => t.setIfInBounds p v) tmps) assign body .normal) (c :: cs) w1) (lone (b.atR a1 [.beginRound, .code body]) (c :: cs) w1) := by
      rw [hb0]
      exact stepsIn_wide.1 harr
    refine Steps.trans s1 (Steps.trans (.one (stepR_beginRound rfl (run_beginRound hR.rec_ rfl))) (Steps.trans h4 (.one (step_falls rfl ?_ h3))))
    simpa [Frame.atR] using h2
  | ret => exact hq.elim
  | exit id => exact hq.elim
  | goto t => exact hq.elim
  | panic ch => exact hq.elim
  | outgrown => exact hq.elim
end
end Go.Proofs.Ytbpkppmbbpoohaa
