/- A range over a function, opened by hand: the statement is its iterator's contract, and a call of yield is a round of its body. No conditions beyond the loop being no part of another round. -/
import Derived.Test.YtfkaghfbngicmaaM
import Derived.Shelf.Abstract
import Derived.BigQuiet
import Derived.BigRegion
import Derived.Deep.QuietTactic
import Derived.Deep.RegionHeld3
import Derived.Deep.CutRange
import Derived.Sort.QuietIn
import Derived.Lib.QuietBelowIn
import Derived.RangeFuncNested
import Derived.RangeFuncBound
import Derived.RangeFuncCalls
import Derived.RangeFuncLeaves
import Derived.OwnWalkIn
import Derived.TacticsInMore
import Derived.LoopNIn
import Derived.LoopIn
namespace Go.Proofs.Ytfkaghfbngicmaa
open Go.RowKit Go.Shelf Go.Sort

/-- The record of a range over a function, with its state and the jump that waits. -/
def recOf (fn : FuncId) (tmps : Array Value) (ps : Array Tmp) (assign body : Code) (D : Nat) (st : LoopState) (pe : Option Code) : Loop :=
  { state := st, pending := pe, fn, tmps, params := ps, assign, body, defers := D }

/-- The record and the block of the rounds' deferred calls lie where the statement laid them. -/
structure RecAt (W : World) (l D : Nat) (r : Loop) : Prop where
  rec_ : W.heap[l]? = some (.loop r)
  dfr : W.heap[D]? = some (.deferred (some []))

theorem RecAt.below {W W' : World} {l D : Nat} {r : Loop} {n : Nat} (h : RecAt W l D r) (hb : Below n W W') (hl : l < n) (hD : D < n) : RecAt W' l D r :=
  ⟨(hb.block l hl).trans h.rec_, (hb.block D hD).trans h.dfr⟩
theorem RecAt.rest {W W' : World} {l D : Nat} {r : Loop} {S : Nat → Prop} (h : RecAt W l D r) (hr : Rest S W W') (hl : ¬ S l) (hD : ¬ S D) : RecAt W' l D r :=
  ⟨(hr.block l (Array.getElem?_eq_some_iff.1 h.rec_).1 hl).trans h.rec_, (hr.block D (Array.getElem?_eq_some_iff.1 h.dfr).1 hD).trans h.dfr⟩
theorem RecAt.put {W : World} {l D : Nat} {r : Loop} (h : RecAt W l D r) (hne : l ≠ D) (r' : Loop) : RecAt (W.putObj l (.loop r')) l D r' :=
  ⟨World.putObj_heap_same (Array.getElem?_eq_some_iff.1 h.rec_).1, (World.putObj_heap_other (fun e => hne e.symm)).trans h.dfr⟩

section
variable {n : Nat}

/-- A round: the body is walked in the world whose record is busy. -/
theorem range_round {fn : FuncId} {tmps : Array Value} {ps : Array Tmp} {assign body : Code} {l D : Nat} {x : Array Value} {W : World} (hR : RecAt W l D (recOf fn tmps ps assign body D .ready none)) (hps : x.size = ps.size) {R : Ending → World → Prop} (a₁ : Go.Act)
    (hassign : ∀ K : Go.Act → World → Prop, K a₁ W → assign.wpIn (Fence.wide.inRound l) n Try.prog (Exit.then K (fun _ _ _ => False)) { tmps := (ps.zip x).foldl (fun t (p, v) => t.setIfInBounds p v) tmps, defers := [] } W)
    (hbody : ∀ W2, W2 = W.putObj l (.loop (recOf fn tmps ps assign body D .busy none)) → body.wpIn (Fence.wide.inRound l) n Try.prog
      (fun e _ W3 => match e with
        | .normal => RecAt W3 l D (recOf fn tmps ps assign body D .busy none) ∧ R (.returned (.bool true)) (W3.putObj l (.loop (recOf fn tmps ps assign body D .ready none)))
        | .ret => RecAt W3 l D (recOf fn tmps ps assign body D .busy none) ∧ R (.returned (.bool false)) (W3.putObj l (.loop (recOf fn tmps ps assign body D .done (some .ret))))
        | .exit id => RecAt W3 l D (recOf fn tmps ps assign body D .busy none) ∧ R (.returned (.bool false)) (W3.putObj l (.loop (recOf fn tmps ps assign body D .done (some (.exit id)))))
        | .goto t => RecAt W3 l D (recOf fn tmps ps assign body D .busy none) ∧ R (.returned (.bool false)) (W3.putObj l (.loop (recOf fn tmps ps assign body D .done (some (.goto t)))))
        | .panic _ => False
        | .outgrown => False) a₁ W2) :
    YieldAt Fence.wide n Try.prog l x W R := by
  have hy := run_yield (P := Try.prog) (args := x) hR.rec_ hps.symm.symm
  refine ⟨fn, _, assign, body, hy, roundIn_of_wpIn trivial (hassign _ ⟨_, run_beginRound hR.rec_ rfl, ?_⟩)⟩
  refine wpIn_mono (hbody _ rfl) ?_
  rintro e a3 W3 hp
  cases e with
  | normal => exact ⟨_, _, run_endRound (P := Try.prog) none hp.1.rec_, hp.2⟩
  | ret => exact ⟨_, _, run_endRound (P := Try.prog) (some .ret) hp.1.rec_, hp.2⟩
  | exit id => exact ⟨_, _, run_endRound (P := Try.prog) (some (.exit id)) hp.1.rec_, hp.2⟩
  | goto t => exact ⟨_, _, run_endRound (P := Try.prog) (some (.goto t)) hp.1.rec_, hp.2⟩
  | panic ch => exact hp.elim
  | outgrown => exact hp.elim

/-- The statement: its iterator's contract, in the world that holds its record. -/
theorem range_open {g : Operand} {ps : Array Tmp} {assign body : Code} {Q : Exit → Go.Act → World → Prop} {a : Go.Act} {w : World} (h1 : 1 ≤ n) {gf : Nat} {lb : Array Value} (hg : a.eval g = .func (.func gf) #[] lb) (eg : ∀ args w, (callFunc gf args).run Try.prog w = .ok (.enter gf args) w)
    (h : ∀ fn W1, Below w.heap.size w W1 → W1.heap.size = w.heap.size + 2 → RecAt W1 (w.heap.size + 1) w.heap.size (recOf fn a.tmps ps assign body w.heap.size .ready none) →
      CallsIn Fence.wide (n - 1) Try.prog gf (#[.func (.yield (w.heap.size + 1)) #[] #[]] ++ lb) W1 fun e W2 => (∃ v, e = .returned v) ∧
        ((RecAt W2 (w.heap.size + 1) w.heap.size (recOf fn a.tmps ps assign body w.heap.size .ready none) ∧ ∀ o, Q .normal { a with defers := { target := .collected w.heap.size, args := #[] } :: a.defers } (W2.putObj (w.heap.size + 1) o)) ∨
          ∃ c, RecAt W2 (w.heap.size + 1) w.heap.size (recOf fn a.tmps ps assign body w.heap.size .done (some c)) ∧ ∀ o, c.wpIn Fence.wide n Try.prog Q { a with defers := { target := .collected w.heap.size, args := #[] } :: a.defers } (W2.putObj (w.heap.size + 1) o))) :
    (Code.rangeFunc g ps assign body).wpIn Fence.wide n Try.prog Q a w := by
  refine wpIn_rangeFunc ?_
  intro fn _
  have hb1 : Below w.heap.size w ((w.alloc (.deferred (some []))).alloc (.loop (recOf fn a.tmps ps assign body w.heap.size .ready none))) := ((Below.refl _ w).alloc (Nat.le_refl _) _).alloc (by simp) _
  have hR : RecAt ((w.alloc (.deferred (some []))).alloc (.loop (recOf fn a.tmps ps assign body w.heap.size .ready none))) (w.heap.size + 1) w.heap.size (recOf fn a.tmps ps assign body w.heap.size .ready none) :=
    ⟨by have := World.alloc_heap_new (w.alloc (.deferred (some []))) (.loop (recOf fn a.tmps ps assign body w.heap.size .ready none)); rwa [World.size_alloc] at this, (Below.heap_alloc _ _ _ (by simp)).trans (World.alloc_heap_new w _)⟩
  obtain ⟨W1, hW1⟩ : ∃ W1, (w.alloc (.deferred (some []))).alloc (.loop (recOf fn a.tmps ps assign body w.heap.size .ready none)) = W1 := ⟨_, rfl⟩
  have hsz : W1.heap.size = w.heap.size + 2 := by rw [← hW1]; simp
  have hen : (Instr.enterLoop fn a.tmps ps assign body Fence.wide.round).run Try.prog w = .ok (w.heap.size + 1, [{ target := .collected w.heap.size, args := #[] }]) W1 := by rw [← hW1]; exact run_enterLoop_outer _ _ _ _ _
  rw [hW1] at hb1 hR
  refine ⟨w.heap.size + 1, [{ target := .collected w.heap.size, args := #[] }], W1, { target := .fn (.func gf) lb, args := #[.func (.yield (w.heap.size + 1)) #[] #[]] }, W1, gf, #[.func (.yield (w.heap.size + 1)) #[] #[]] ++ lb, W1, hen, ?_, fun _ _ => trivial, ?_, fun _ => h1, ?_⟩
  · simp only [resolve, hg]
    simp [go_sem]
  · simp [invoke, go_sem, eg]
  · refine (h fn W1 hb1 hsz hR).mono ?_
    rintro e W2 ⟨⟨v, rfl⟩, (⟨h2, hq⟩ | ⟨c, h2, hq⟩)⟩
    · exact ⟨none, _, run_endLoop (P := Try.prog) h2.rec_ (by simp [recOf]), hq _⟩
    · exact ⟨some c, _, run_endLoop (P := Try.prog) h2.rec_ (by simp [recOf]), hq _⟩

end
theorem rest_putObj (W : World) (l : Nat) (o : Obj) : Rest (fun i => i = l) W (W.putObj l o) :=
  (Rest.refl (fun i => i = l) W).grown (grownBy_putObj' W l o) (fun k e _ => by cases e; rfl)

section
variable {n : Nat}
/-- A round, with the record's other parts under one name. -/
theorem named_round {fn : FuncId} {tmps : Array Value} {ps : Array Tmp} {assign body : Code} {l D : Nat} {rr : LoopState → Option Code → Loop} (hrr : rr = recOf fn tmps ps assign body D) {x : Array Value} {W : World} (hR : RecAt W l D (rr .ready none)) (hps : x.size = ps.size) {R : Ending → World → Prop} (a₁ : Go.Act)
    (hassign : ∀ K : Go.Act → World → Prop, K a₁ W → assign.wpIn (Fence.wide.inRound l) n Try.prog (Exit.then K (fun _ _ _ => False)) { tmps := (ps.zip x).foldl (fun t (p, v) => t.setIfInBounds p v) tmps, defers := [] } W)
    (hbody : ∀ W2, W2 = W.putObj l (.loop (rr .busy none)) → body.wpIn (Fence.wide.inRound l) n Try.prog
      (fun e _ W3 => match e with
        | .normal => RecAt W3 l D (rr .busy none) ∧ R (.returned (.bool true)) (W3.putObj l (.loop (rr .ready none)))
        | .ret => RecAt W3 l D (rr .busy none) ∧ R (.returned (.bool false)) (W3.putObj l (.loop (rr .done (some .ret))))
        | .exit id => RecAt W3 l D (rr .busy none) ∧ R (.returned (.bool false)) (W3.putObj l (.loop (rr .done (some (.exit id)))))
        | .goto t => RecAt W3 l D (rr .busy none) ∧ R (.returned (.bool false)) (W3.putObj l (.loop (rr .done (some (.goto t)))))
        | .panic _ => False
        | .outgrown => False) a₁ W2) :
    YieldAt Fence.wide n Try.prog l x W R := by
  subst hrr
  exact range_round hR hps a₁ hassign hbody

/-- The statement, with the record's other parts under one name. -/
theorem named_open {g : Operand} {ps : Array Tmp} {assign body : Code} {Q : Exit → Go.Act → World → Prop} {a : Go.Act} {w : World} (h1 : 1 ≤ n) {gf : Nat} {lb : Array Value} (hg : a.eval g = .func (.func gf) #[] lb) (eg : ∀ args w, (callFunc gf args).run Try.prog w = .ok (.enter gf args) w)
    (h : ∀ fn W1 rr, rr = recOf fn a.tmps ps assign body w.heap.size → Below w.heap.size w W1 → W1.heap.size = w.heap.size + 2 → RecAt W1 (w.heap.size + 1) w.heap.size (rr .ready none) →
      CallsIn Fence.wide (n - 1) Try.prog gf (#[.func (.yield (w.heap.size + 1)) #[] #[]] ++ lb) W1 fun e W2 => (∃ v, e = .returned v) ∧
        ((RecAt W2 (w.heap.size + 1) w.heap.size (rr .ready none) ∧ ∀ o, Q .normal { a with defers := { target := .collected w.heap.size, args := #[] } :: a.defers } (W2.putObj (w.heap.size + 1) o)) ∨
          ∃ c, RecAt W2 (w.heap.size + 1) w.heap.size (rr .done (some c)) ∧ ∀ o, c.wpIn Fence.wide n Try.prog Q { a with defers := { target := .collected w.heap.size, args := #[] } :: a.defers } (W2.putObj (w.heap.size + 1) o))) :
    (Code.rangeFunc g ps assign body).wpIn Fence.wide n Try.prog Q a w :=
  range_open h1 hg eg (fun fn W1 hb hs hR => h fn W1 _ rfl hb hs hR)
end

/-- An operation that defers nothing is carried out in a round as everywhere. -/
theorem wpIn_inRound {F : Fence} {n l : Nat} {P : Program} {o : Oper} {a : Go.Act} {K : Go.Act → World → Prop} {Q : Exit → Go.Act → World → Prop} {w : World} (hd : ∀ c, o.op ≠ .defer c) (hro : F.round = none) (h : o.wpIn F n P a w K Q) : o.wpIn (F.inRound l) n P a w K Q := by
  refine ⟨h.1, ?_⟩
  have h2 := h.2
  rw [hro, Oper.semAt_eq _ _ _ hd] at h2
  rw [Fence.inRound_round, Oper.semAt_eq _ _ _ hd]
  generalize (execOp a.eval o).run P w = r at *
  cases r with
  | ok x w' => cases x <;> exact h2
  | halt x w' => exact h2

theorem wpOpIn_inRound {F : Fence} {n l : Nat} {P : Program} {ops : Array Oper} {i : Nat} {a : Go.Act} {K : Go.Act → World → Prop} {Q : Exit → Go.Act → World → Prop} {w : World} (hd : ∀ (i : Nat) (o : Oper) c, ops[i]? = some o → o.op ≠ .defer c) (hro : F.round = none) (h : wpOpIn F n P ops Q i K a w) : wpOpIn (F.inRound l) n P ops Q i K a w := by
  unfold wpOpIn at *
  cases ho : ops[i]? with
  | none => simpa [ho] using h
  | some o =>
    simp only [ho] at h ⊢
    split
    · rename_i hw
      simp only [hw, if_true] at h
      exact wpIn_inRound (fun c => hd i o c ho) hro h
    · rename_i hw
      simp only [hw] at h
      exact h

theorem wpAnyIn_inRound {F : Fence} {n l : Nat} {P : Program} {md : Region.Mode} {ops : Array Oper} {Q : Exit → Go.Act → World → Prop} (hd : ∀ (i : Nat) (o : Oper) c, ops[i]? = some o → o.op ≠ .defer c) (hro : F.round = none) : ∀ (fuel : Nat) (listed : Array Bool) (a : Go.Act) (w : World), wpAnyIn F n P md ops Q fuel listed a w → wpAnyIn (F.inRound l) n P md ops Q fuel listed a w
  | 0, _, _, _, h => h
  | fuel + 1, _, _, _, h => ⟨h.1, fun i hi => wpOpIn_mono (fun a' w' => wpAnyIn_inRound hd hro fuel _ a' w') (wpOpIn_inRound hd hro (h.2 i hi))⟩

/-- A quiet region in a round. -/
theorem region_quiet_round {F : Fence} {n lr : Nat} {P : Program} {id : Nat} {Q : Exit → Go.Act → World → Prop} {a : Go.Act} {w : World} {l : List Oper} (hro : F.round = none) (hm : P.follows .mixedOrders = true) (hB : Region.lexB .any l.toArray = true) (hd : l.all (fun o => match o.op with | .defer _ => false | _ => true) = true)
    (h : wpQuietIn F n P l.toArray (fun w' => ∃ n, w' = w.drewN n) (fun a' => ∀ w', (∃ n, w' = w.drewN n) → Q .normal a' w') l a) : (Code.region id l.toArray true).wpIn (F.inRound lr) n P Q a w := by
  have hd' : ∀ (i : Nat) (o : Oper) c, l.toArray[i]? = some o → o.op ≠ .defer c := by
    intro i o c ho hc
    have hm : o ∈ l := by
      have := List.mem_of_getElem? (by simpa using ho : l[i]? = some o)
      exact this
    have := List.all_eq_true.1 hd o hm
    rw [hc] at this
    exact Bool.noConfusion this
  simp only [Region.lexB, Bool.and_eq_true] at hB
  refine wpIn_region_any hm (wpAnyIn_inRound hd' hro _ _ _ _ (wpAnyIn_of_quiet (C := fun w' => ∃ n, w' = w.drewN n) (Q := fun a' => ∀ w', (∃ n, w' = w.drewN n) → Q .normal a' w') hro (fun _ w' hw' h => h w' hw') _ _ _ _ ⟨1, rfl⟩ ?_))
  have := wpAnyQIn_lex (F := F) (n := n) (C := fun w' => ∃ n, w' = w.drewN n) (md := .any) hB.1 l 0 (Array.replicate l.toArray.size false) a (by simp) (by simpa using hB.2) (by simpa using h)
  simpa using this

/-- A region in a round whose calls make memory. -/
theorem region_below_round {F : Fence} {n lr : Nat} {P : Program} {id : Nat} {Q : Exit → Go.Act → World → Prop} {a : Go.Act} {w : World} {l : List Oper} (hro : F.round = none) (hm : P.follows .mixedOrders = true) (hB : Region.lexB .any l.toArray = true) (hd : l.all (fun o => match o.op with | .defer _ => false | _ => true) = true)
    (h : wpQuietIn F n P l.toArray (fun w' => ∃ p : Regrown, w' = grow (redrawn w p.d) p.os) (fun a' => ∀ w', (∃ p : Regrown, w' = grow (redrawn w p.d) p.os) → Q .normal a' w') l a) : (Code.region id l.toArray true).wpIn (F.inRound lr) n P Q a w := by
  have hd' : ∀ (i : Nat) (o : Oper) c, l.toArray[i]? = some o → o.op ≠ .defer c := by
    intro i o c ho hc
    have hm : o ∈ l := by
      have := List.mem_of_getElem? (by simpa using ho : l[i]? = some o)
      exact this
    have := List.all_eq_true.1 hd o hm
    rw [hc] at this
    exact Bool.noConfusion this
  simp only [Region.lexB, Bool.and_eq_true] at hB
  refine wpIn_region_any hm (wpAnyIn_inRound hd' hro _ _ _ _ (wpAnyIn_of_quiet (C := fun w' => ∃ p : Regrown, w' = grow (redrawn w p.d) p.os) (Q := fun a' => ∀ w', (∃ p : Regrown, w' = grow (redrawn w p.d) p.os) → Q .normal a' w') hro (fun _ w' hw' h => h w' hw') _ _ _ _ ⟨⟨w.drawn + 1, #[]⟩, by rw [grow_empty]; rfl⟩ ?_))
  have := wpAnyQIn_lex (F := F) (n := n) (C := fun w' => ∃ p : Regrown, w' = grow (redrawn w p.d) p.os) (md := .any) hB.1 l 0 (Array.replicate l.toArray.size false) a (by simp) (by simpa using hB.2) (by simpa using h)
  simpa using this

/-- The statement, where leaving the loop early and coming to its end go on in one way. -/
theorem open_joined {n : Nat} {g : Operand} {ps : Array Tmp} {assign body : Code} {Q : Exit → Go.Act → World → Prop} {a : Go.Act} {w : World} (h1 : 1 ≤ n) {gf : Nat} {lb : Array Value} (hg : a.eval g = .func (.func gf) #[] lb) (eg : ∀ args w, (callFunc gf args).run Try.prog w = .ok (.enter gf args) w) (G : World → Prop) (c0 : Code)
    (h : ∀ W1 rr, (∃ fn, rr = recOf fn a.tmps ps assign body w.heap.size) → Below w.heap.size w W1 → W1.heap.size = w.heap.size + 2 → RecAt W1 (w.heap.size + 1) w.heap.size (rr .ready none) →
      CallsIn Fence.wide (n - 1) Try.prog gf (#[.func (.yield (w.heap.size + 1)) #[] #[]] ++ lb) W1 fun e W2 => (∃ v, e = .returned v) ∧
        ((RecAt W2 (w.heap.size + 1) w.heap.size (rr .ready none) ∧ ∀ o, G (W2.putObj (w.heap.size + 1) o)) ∨
          (RecAt W2 (w.heap.size + 1) w.heap.size (rr .done (some c0)) ∧ ∀ o, G (W2.putObj (w.heap.size + 1) o))))
    (hq : ∀ fr W, Q .normal fr W → c0.wpIn Fence.wide n Try.prog Q fr W)
    (hn : ∀ W, G W → Q .normal { a with defers := { target := .collected w.heap.size, args := #[] } :: a.defers } W) :
    (Code.rangeFunc g ps assign body).wpIn Fence.wide n Try.prog Q a w := by
  refine named_open h1 hg eg (fun fn W1 rr hrr hb hs hR => (h W1 rr ⟨fn, hrr⟩ hb hs hR).mono ?_)
  rintro e W2 ⟨hv, (⟨h2, h3⟩ | ⟨h2, h3⟩)⟩
  · exact ⟨hv, .inl ⟨h2, fun o => hn _ (h3 o)⟩⟩
  · exact ⟨hv, .inr ⟨c0, h2, fun o => hq _ _ (hn _ (h3 o))⟩⟩

section
variable {n : Nat}
/-- A round, where the assignment makes memory. -/
theorem boxed_round {fn : FuncId} {tmps : Array Value} {ps : Array Tmp} {assign body : Code} {l D : Nat} {rr : LoopState → Option Code → Loop} (hrr : rr = recOf fn tmps ps assign body D) {x : Array Value} {W W₁ : World} (hR : RecAt W l D (rr .ready none)) (hR1 : RecAt W₁ l D (rr .ready none)) (hps : x.size = ps.size) {R : Ending → World → Prop} (a₁ : Go.Act)
    (hassign : ∀ K : Go.Act → World → Prop, K a₁ W₁ → assign.wpIn (Fence.wide.inRound l) n Try.prog (Exit.then K (fun _ _ _ => False)) { tmps := (ps.zip x).foldl (fun t (p, v) => t.setIfInBounds p v) tmps, defers := [] } W)
    (hbody : ∀ W2, W2 = W₁.putObj l (.loop (rr .busy none)) → body.wpIn (Fence.wide.inRound l) n Try.prog
      (fun e _ W3 => match e with
        | .normal => RecAt W3 l D (rr .busy none) ∧ R (.returned (.bool true)) (W3.putObj l (.loop (rr .ready none)))
        | .ret => RecAt W3 l D (rr .busy none) ∧ R (.returned (.bool false)) (W3.putObj l (.loop (rr .done (some .ret))))
        | .exit id => RecAt W3 l D (rr .busy none) ∧ R (.returned (.bool false)) (W3.putObj l (.loop (rr .done (some (.exit id)))))
        | .goto t => RecAt W3 l D (rr .busy none) ∧ R (.returned (.bool false)) (W3.putObj l (.loop (rr .done (some (.goto t)))))
        | .panic _ => False
        | .outgrown => False) a₁ W2) :
    YieldAt Fence.wide n Try.prog l x W R := by
  subst hrr
  have hy := run_yield (P := Try.prog) (args := x) hR.rec_ hps.symm.symm
  refine ⟨fn, _, assign, body, hy, roundIn_of_wpIn trivial (hassign _ ⟨_, run_beginRound hR1.rec_ rfl, ?_⟩)⟩
  refine wpIn_mono (hbody _ rfl) ?_
  rintro e a3 W3 hp
  cases e with
  | normal => exact ⟨_, _, run_endRound (P := Try.prog) none hp.1.rec_, hp.2⟩
  | ret => exact ⟨_, _, run_endRound (P := Try.prog) (some .ret) hp.1.rec_, hp.2⟩
  | exit id => exact ⟨_, _, run_endRound (P := Try.prog) (some (.exit id)) hp.1.rec_, hp.2⟩
  | goto t => exact ⟨_, _, run_endRound (P := Try.prog) (some (.goto t)) hp.1.rec_, hp.2⟩
  | panic ch => exact hp.elim
  | outgrown => exact hp.elim
end

theorem brk_of {id : Nat} {Q : Exit → Go.Act → World → Prop} {fr : Go.Act} {W : World} (h : Q .normal fr W) : (Exit.inBlock id Q) (.exit id) fr W := by
  simp [Exit.inBlock, h]


end Go.Proofs.Ytfkaghfbngicmaa
