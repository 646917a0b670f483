/- A range over a function, opened by hand: the statement is its iterator's contract, and a call of yield is a round of its body. No conditions beyond the loop being no part of another round. The iterator of a slice of texts, for a body that knows which text it is given. Conditions: the texts lie in memory, and the body of the loop leaves them as they are. -/
import Derived.Test.YtbpkppmbbpoohaaMp
import Derived.Deep.CutRange
import Derived.Sort.QuietIn
import Derived.Lib.QuietBelowIn
import Derived.RangeFuncNested
import Derived.RangeFuncBound
import Derived.RangeFuncCalls
import Derived.RangeFuncLeaves
import Derived.OwnWalkIn
import Derived.TacticsInMore
import Derived.LoopNIn
import Derived.LoopIn
namespace Go.Proofs.Ytbpkppmbbpoohaa
open Go.RowKit Go.Shelf Go.Sort

/-- The record of a range over a function, with its state and the jump that waits. -/
def recOf (fn : FuncId) (tmps : Array Value) (ps : Array Tmp) (assign body : Code) (D : Nat) (st : LoopState) (pe : Option Code) : Loop :=
  { state := st, pending := pe, fn, tmps, params := ps, assign, body, defers := D }

/-- The record and the block of the rounds' deferred calls lie where the statement laid them. -/
structure RecAt (W : World) (l D : Nat) (r : Loop) : Prop where
  rec_ : W.heap[l]? = some (.loop r)
  dfr : W.heap[D]? = some (.deferred (some []))

theorem RecAt.below {W W' : World} {l D : Nat} {r : Loop} {n : Nat} (h : RecAt W l D r) (hb : Below n W W') (hl : l < n) (hD : D < n) : RecAt W' l D r :=
  ⟨(hb.block l hl).trans h.rec_, (hb.block D hD).trans h.dfr⟩
theorem RecAt.rest {W W' : World} {l D : Nat} {r : Loop} {S : Nat → Prop} (h : RecAt W l D r) (hr : Rest S W W') (hl : ¬ S l) (hD : ¬ S D) : RecAt W' l D r :=
  ⟨(hr.block l (Array.getElem?_eq_some_iff.1 h.rec_).1 hl).trans h.rec_, (hr.block D (Array.getElem?_eq_some_iff.1 h.dfr).1 hD).trans h.dfr⟩
theorem RecAt.put {W : World} {l D : Nat} {r : Loop} (h : RecAt W l D r) (hne : l ≠ D) (r' : Loop) : RecAt (W.putObj l (.loop r')) l D r' :=
  ⟨World.putObj_heap_same (Array.getElem?_eq_some_iff.1 h.rec_).1, (World.putObj_heap_other (fun e => hne e.symm)).trans h.dfr⟩

section
variable {n : Nat}

/-- A round: the body is walked in the world whose record is busy. -/
theorem range_round {fn : FuncId} {tmps : Array Value} {ps : Array Tmp} {assign body : Code} {l D : Nat} {x : Array Value} {W : World} (hR : RecAt W l D (recOf fn tmps ps assign body D .ready none)) (hps : x.size = ps.size) {R : Ending → World → Prop} (a₁ : Go.Act)
    (hassign : ∀ K : Go.Act → World → Prop, K a₁ W → assign.wpIn (Fence.wide.inRound l) n Try.prog (Exit.then K (fun _ _ _ => False)) { tmps := (ps.zip x).foldl (fun t (p, v) => t.setIfInBounds p v) tmps, defers := [] } W)
    (hbody : ∀ W2, W2 = W.putObj l (.loop (recOf fn tmps ps assign body D .busy none)) → body.wpIn (Fence.wide.inRound l) n Try.prog
      (fun e _ W3 => match e with
        | .normal => RecAt W3 l D (recOf fn tmps ps assign body D .busy none) ∧ R (.returned (.bool true)) (W3.putObj l (.loop (recOf fn tmps ps assign body D .ready none)))
        | .ret => RecAt W3 l D (recOf fn tmps ps assign body D .busy none) ∧ R (.returned (.bool false)) (W3.putObj l (.loop (recOf fn tmps ps assign body D .done (some .ret))))
        | .exit id => RecAt W3 l D (recOf fn tmps ps assign body D .busy none) ∧ R (.returned (.bool false)) (W3.putObj l (.loop (recOf fn tmps ps assign body D .done (some (.exit id)))))
        | .goto t => RecAt W3 l D (recOf fn tmps ps assign body D .busy none) ∧ R (.returned (.bool false)) (W3.putObj l (.loop (recOf fn tmps ps assign body D .done (some (.goto t)))))
        | .panic _ => False
        | .outgrown => False) a₁ W2) :
    YieldAt Fence.wide n Try.prog l x W R := by
  have hy := run_yield (P := Try.prog) (args := x) hR.rec_ hps.symm.symm
  refine ⟨fn, _, assign, body, hy, roundIn_of_wpIn trivial (hassign _ ⟨_, run_beginRound hR.rec_ rfl, ?_⟩)⟩
  refine wpIn_mono (hbody _ rfl) ?_
  rintro e a3 W3 hp
  cases e with
  | normal => exact ⟨_, _, run_endRound (P := Try.prog) none hp.1.rec_, hp.2⟩
  | ret => exact ⟨_, _, run_endRound (P := Try.prog) (some .ret) hp.1.rec_, hp.2⟩
  | exit id => exact ⟨_, _, run_endRound (P := Try.prog) (some (.exit id)) hp.1.rec_, hp.2⟩
  | goto t => exact ⟨_, _, run_endRound (P := Try.prog) (some (.goto t)) hp.1.rec_, hp.2⟩
  | panic ch => exact hp.elim
  | outgrown => exact hp.elim

/-- The statement: its iterator's contract, in the world that holds its record. -/
theorem range_open {g : Operand} {ps : Array Tmp} {assign body : Code} {Q : Exit → Go.Act → World → Prop} {a : Go.Act} {w : World} (h1 : 1 ≤ n) {gf : Nat} {lb : Array Value} (hg : a.eval g = .func (.func gf) #[] lb) (eg : ∀ args w, (callFunc gf args).run Try.prog w = .ok (.enter gf args) w)
    (h : ∀ fn W1, Below w.heap.size w W1 → W1.heap.size = w.heap.size + 2 → RecAt W1 (w.heap.size + 1) w.heap.size (recOf fn a.tmps ps assign body w.heap.size .ready none) →
      CallsIn Fence.wide (n - 1) Try.prog gf (#[.func (.yield (w.heap.size + 1)) #[] #[]] ++ lb) W1 fun e W2 => (∃ v, e = .returned v) ∧
        ((RecAt W2 (w.heap.size + 1) w.heap.size (recOf fn a.tmps ps assign body w.heap.size .ready none) ∧ ∀ o, Q .normal { a with defers := { target := .collected w.heap.size, args := #[] } :: a.defers } (W2.putObj (w.heap.size + 1) o)) ∨
          ∃ c, RecAt W2 (w.heap.size + 1) w.heap.size (recOf fn a.tmps ps assign body w.heap.size .done (some c)) ∧ ∀ o, c.wpIn Fence.wide n Try.prog Q { a with defers := { target := .collected w.heap.size, args := #[] } :: a.defers } (W2.putObj (w.heap.size + 1) o))) :
    (Code.rangeFunc g ps assign body).wpIn Fence.wide n Try.prog Q a w := by
  refine wpIn_rangeFunc ?_
  intro fn _
  have hb1 : Below w.heap.size w ((w.alloc (.deferred (some []))).alloc (.loop (recOf fn a.tmps ps assign body w.heap.size .ready none))) := ((Below.refl _ w).alloc (Nat.le_refl _) _).alloc (by simp) _
  have hR : RecAt ((w.alloc (.deferred (some []))).alloc (.loop (recOf fn a.tmps ps assign body w.heap.size .ready none))) (w.heap.size + 1) w.heap.size (recOf fn a.tmps ps assign body w.heap.size .ready none) :=
    ⟨by have := World.alloc_heap_new (w.alloc (.deferred (some []))) (.loop (recOf fn a.tmps ps assign body w.heap.size .ready none)); rwa [World.size_alloc] at this, (Below.heap_alloc _ _ _ (by simp)).trans (World.alloc_heap_new w _)⟩
  obtain ⟨W1, hW1⟩ : ∃ W1, (w.alloc (.deferred (some []))).alloc (.loop (recOf fn a.tmps ps assign body w.heap.size .ready none)) = W1 := ⟨_, rfl⟩
  have hsz : W1.heap.size = w.heap.size + 2 := by rw [← hW1]; simp
  have hen : (Instr.enterLoop fn a.tmps ps assign body Fence.wide.round).run Try.prog w = .ok (w.heap.size + 1, [{ target := .collected w.heap.size, args := #[] }]) W1 := by rw [← hW1]; exact run_enterLoop_outer _ _ _ _ _
  rw [hW1] at hb1 hR
  refine ⟨w.heap.size + 1, [{ target := .collected w.heap.size, args := #[] }], W1, { target := .fn (.func gf) lb, args := #[.func (.yield (w.heap.size + 1)) #[] #[]] }, W1, gf, #[.func (.yield (w.heap.size + 1)) #[] #[]] ++ lb, W1, hen, ?_, fun _ _ => trivial, ?_, fun _ => h1, ?_⟩
  · simp only [resolve, hg]
    simp [go_sem]
  · simp [invoke, go_sem, eg]
  · refine (h fn W1 hb1 hsz hR).mono ?_
    rintro e W2 ⟨⟨v, rfl⟩, (⟨h2, hq⟩ | ⟨c, h2, hq⟩)⟩
    · exact ⟨none, _, run_endLoop (P := Try.prog) h2.rec_ (by simp [recOf]), hq _⟩
    · exact ⟨some c, _, run_endLoop (P := Try.prog) h2.rec_ (by simp [recOf]), hq _⟩

end
theorem rest_putObj (W : World) (l : Nat) (o : Obj) : Rest (fun i => i = l) W (W.putObj l o) :=
  (Rest.refl (fun i => i = l) W).grown (grownBy_putObj' W l o) (fun k e _ => by cases e; rfl)

section
variable {n : Nat}
/-- A round, with the record's other parts under one name. -/
theorem named_round {fn : FuncId} {tmps : Array Value} {ps : Array Tmp} {assign body : Code} {l D : Nat} {rr : LoopState → Option Code → Loop} (hrr : rr = recOf fn tmps ps assign body D) {x : Array Value} {W : World} (hR : RecAt W l D (rr .ready none)) (hps : x.size = ps.size) {R : Ending → World → Prop} (a₁ : Go.Act)
    (hassign : ∀ K : Go.Act → World → Prop, K a₁ W → assign.wpIn (Fence.wide.inRound l) n Try.prog (Exit.then K (fun _ _ _ => False)) { tmps := (ps.zip x).foldl (fun t (p, v) => t.setIfInBounds p v) tmps, defers := [] } W)
    (hbody : ∀ W2, W2 = W.putObj l (.loop (rr .busy none)) → body.wpIn (Fence.wide.inRound l) n Try.prog
      (fun e _ W3 => match e with
        | .normal => RecAt W3 l D (rr .busy none) ∧ R (.returned (.bool true)) (W3.putObj l (.loop (rr .ready none)))
        | .ret => RecAt W3 l D (rr .busy none) ∧ R (.returned (.bool false)) (W3.putObj l (.loop (rr .done (some .ret))))
        | .exit id => RecAt W3 l D (rr .busy none) ∧ R (.returned (.bool false)) (W3.putObj l (.loop (rr .done (some (.exit id)))))
        | .goto t => RecAt W3 l D (rr .busy none) ∧ R (.returned (.bool false)) (W3.putObj l (.loop (rr .done (some (.goto t)))))
        | .panic _ => False
        | .outgrown => False) a₁ W2) :
    YieldAt Fence.wide n Try.prog l x W R := by
  subst hrr
  exact range_round hR hps a₁ hassign hbody

/-- The statement, with the record's other parts under one name. -/
theorem named_open {g : Operand} {ps : Array Tmp} {assign body : Code} {Q : Exit → Go.Act → World → Prop} {a : Go.Act} {w : World} (h1 : 1 ≤ n) {gf : Nat} {lb : Array Value} (hg : a.eval g = .func (.func gf) #[] lb) (eg : ∀ args w, (callFunc gf args).run Try.prog w = .ok (.enter gf args) w)
    (h : ∀ fn W1 rr, rr = recOf fn a.tmps ps assign body w.heap.size → Below w.heap.size w W1 → W1.heap.size = w.heap.size + 2 → RecAt W1 (w.heap.size + 1) w.heap.size (rr .ready none) →
      CallsIn Fence.wide (n - 1) Try.prog gf (#[.func (.yield (w.heap.size + 1)) #[] #[]] ++ lb) W1 fun e W2 => (∃ v, e = .returned v) ∧
        ((RecAt W2 (w.heap.size + 1) w.heap.size (rr .ready none) ∧ ∀ o, Q .normal { a with defers := { target := .collected w.heap.size, args := #[] } :: a.defers } (W2.putObj (w.heap.size + 1) o)) ∨
          ∃ c, RecAt W2 (w.heap.size + 1) w.heap.size (rr .done (some c)) ∧ ∀ o, c.wpIn Fence.wide n Try.prog Q { a with defers := { target := .collected w.heap.size, args := #[] } :: a.defers } (W2.putObj (w.heap.size + 1) o))) :
    (Code.rangeFunc g ps assign body).wpIn Fence.wide n Try.prog Q a w :=
  range_open h1 hg eg (fun fn W1 hb hs hR => h fn W1 _ rfl hb hs hR)
end

/-- An operation that defers nothing is carried out in a round as everywhere. -/
theorem wpIn_inRound {F : Fence} {n l : Nat} {P : Program} {o : Oper} {a : Go.Act} {K : Go.Act → World → Prop} {Q : Exit → Go.Act → World → Prop} {w : World} (hd : ∀ c, o.op ≠ .defer c) (hro : F.round = none) (h : o.wpIn F n P a w K Q) : o.wpIn (F.inRound l) n P a w K Q := by
  refine ⟨h.1, ?_⟩
  have h2 := h.2
  rw [hro, Oper.semAt_eq _ _ _ hd] at h2
  rw [Fence.inRound_round, Oper.semAt_eq _ _ _ hd]
  generalize (execOp a.eval o).run P w = r at *
  cases r with
  | ok x w' => cases x <;> exact h2
  | halt x w' => exact h2

theorem wpOpIn_inRound {F : Fence} {n l : Nat} {P : Program} {ops : Array Oper} {i : Nat} {a : Go.Act} {K : Go.Act → World → Prop} {Q : Exit → Go.Act → World → Prop} {w : World} (hd : ∀ (i : Nat) (o : Oper) c, ops[i]? = some o → o.op ≠ .defer c) (hro : F.round = none) (h : wpOpIn F n P ops Q i K a w) : wpOpIn (F.inRound l) n P ops Q i K a w := by
  unfold wpOpIn at *
  cases ho : ops[i]? with
  | none => simpa [ho] using h
  | some o =>
    simp only [ho] at h ⊢
    split
    · rename_i hw
      simp only [hw, if_true] at h
      exact wpIn_inRound (fun c => hd i o c ho) hro h
    · rename_i hw
      simp only [hw] at h
      exact h

theorem wpAnyIn_inRound {F : Fence} {n l : Nat} {P : Program} {md : Region.Mode} {ops : Array Oper} {Q : Exit → Go.Act → World → Prop} (hd : ∀ (i : Nat) (o : Oper) c, ops[i]? = some o → o.op ≠ .defer c) (hro : F.round = none) : ∀ (fuel : Nat) (listed : Array Bool) (a : Go.Act) (w : World), wpAnyIn F n P md ops Q fuel listed a w → wpAnyIn (F.inRound l) n P md ops Q fuel listed a w
  | 0, _, _, _, h => h
  | fuel + 1, _, _, _, h => ⟨h.1, fun i hi => wpOpIn_mono (fun a' w' => wpAnyIn_inRound hd hro fuel _ a' w') (wpOpIn_inRound hd hro (h.2 i hi))⟩

/-- A quiet region in a round. -/
theorem region_quiet_round {F : Fence} {n lr : Nat} {P : Program} {id : Nat} {Q : Exit → Go.Act → World → Prop} {a : Go.Act} {w : World} {l : List Oper} (hro : F.round = none) (hm : P.follows .mixedOrders = true) (hB : Region.lexB .any l.toArray = true) (hd : l.all (fun o => match o.op with | .defer _ => false | _ => true) = true)
    (h : wpQuietIn F n P l.toArray (fun w' => ∃ n, w' = w.drewN n) (fun a' => ∀ w', (∃ n, w' = w.drewN n) → Q .normal a' w') l a) : (Code.region id l.toArray true).wpIn (F.inRound lr) n P Q a w := by
  have hd' : ∀ (i : Nat) (o : Oper) c, l.toArray[i]? = some o → o.op ≠ .defer c := by
    intro i o c ho hc
    have hm : o ∈ l := by
      have := List.mem_of_getElem? (by simpa using ho : l[i]? = some o)
      exact this
    have := List.all_eq_true.1 hd o hm
    rw [hc] at this
    exact Bool.noConfusion this
  simp only [Region.lexB, Bool.and_eq_true] at hB
  refine wpIn_region_any hm (wpAnyIn_inRound hd' hro _ _ _ _ (wpAnyIn_of_quiet (C := fun w' => ∃ n, w' = w.drewN n) (Q := fun a' => ∀ w', (∃ n, w' = w.drewN n) → Q .normal a' w') hro (fun _ w' hw' h => h w' hw') _ _ _ _ ⟨1, rfl⟩ ?_))
  have := wpAnyQIn_lex (F := F) (n := n) (C := fun w' => ∃ n, w' = w.drewN n) (md := .any) hB.1 l 0 (Array.replicate l.toArray.size false) a (by simp) (by simpa using hB.2) (by simpa using h)
  simpa using this

/-- A region in a round whose calls make memory. -/
theorem region_below_round {F : Fence} {n lr : Nat} {P : Program} {id : Nat} {Q : Exit → Go.Act → World → Prop} {a : Go.Act} {w : World} {l : List Oper} (hro : F.round = none) (hm : P.follows .mixedOrders = true) (hB : Region.lexB .any l.toArray = true) (hd : l.all (fun o => match o.op with | .defer _ => false | _ => true) = true)
    (h : wpQuietIn F n P l.toArray (fun w' => ∃ p : Regrown, w' = grow (redrawn w p.d) p.os) (fun a' => ∀ w', (∃ p : Regrown, w' = grow (redrawn w p.d) p.os) → Q .normal a' w') l a) : (Code.region id l.toArray true).wpIn (F.inRound lr) n P Q a w := by
  have hd' : ∀ (i : Nat) (o : Oper) c, l.toArray[i]? = some o → o.op ≠ .defer c := by
    intro i o c ho hc
    have hm : o ∈ l := by
      have := List.mem_of_getElem? (by simpa using ho : l[i]? = some o)
      exact this
    have := List.all_eq_true.1 hd o hm
    rw [hc] at this
    exact Bool.noConfusion this
  simp only [Region.lexB, Bool.and_eq_true] at hB
  refine wpIn_region_any hm (wpAnyIn_inRound hd' hro _ _ _ _ (wpAnyIn_of_quiet (C := fun w' => ∃ p : Regrown, w' = grow (redrawn w p.d) p.os) (Q := fun a' => ∀ w', (∃ p : Regrown, w' = grow (redrawn w p.d) p.os) → Q .normal a' w') hro (fun _ w' hw' h => h w' hw') _ _ _ _ ⟨⟨w.drawn + 1, #[]⟩, by rw [grow_empty]; rfl⟩ ?_))
  have := wpAnyQIn_lex (F := F) (n := n) (C := fun w' => ∃ p : Regrown, w' = grow (redrawn w p.d) p.os) (md := .any) hB.1 l 0 (Array.replicate l.toArray.size false) a (by simp) (by simpa using hB.2) (by simpa using h)
  simpa using this

/-- The statement, where leaving the loop early and coming to its end go on in one way. -/
theorem open_joined {n : Nat} {g : Operand} {ps : Array Tmp} {assign body : Code} {Q : Exit → Go.Act → World → Prop} {a : Go.Act} {w : World} (h1 : 1 ≤ n) {gf : Nat} {lb : Array Value} (hg : a.eval g = .func (.func gf) #[] lb) (eg : ∀ args w, (callFunc gf args).run Try.prog w = .ok (.enter gf args) w) (G : World → Prop) (c0 : Code)
    (h : ∀ W1 rr, (∃ fn, rr = recOf fn a.tmps ps assign body w.heap.size) → Below w.heap.size w W1 → W1.heap.size = w.heap.size + 2 → RecAt W1 (w.heap.size + 1) w.heap.size (rr .ready none) →
      CallsIn Fence.wide (n - 1) Try.prog gf (#[.func (.yield (w.heap.size + 1)) #[] #[]] ++ lb) W1 fun e W2 => (∃ v, e = .returned v) ∧
        ((RecAt W2 (w.heap.size + 1) w.heap.size (rr .ready none) ∧ ∀ o, G (W2.putObj (w.heap.size + 1) o)) ∨
          (RecAt W2 (w.heap.size + 1) w.heap.size (rr .done (some c0)) ∧ ∀ o, G (W2.putObj (w.heap.size + 1) o))))
    (hq : ∀ fr W, Q .normal fr W → c0.wpIn Fence.wide n Try.prog Q fr W)
    (hn : ∀ W, G W → Q .normal { a with defers := { target := .collected w.heap.size, args := #[] } :: a.defers } W) :
    (Code.rangeFunc g ps assign body).wpIn Fence.wide n Try.prog Q a w := by
  refine named_open h1 hg eg (fun fn W1 rr hrr hb hs hR => (h W1 rr ⟨fn, hrr⟩ hb hs hR).mono ?_)
  rintro e W2 ⟨hv, (⟨h2, h3⟩ | ⟨h2, h3⟩)⟩
  · exact ⟨hv, .inl ⟨h2, fun o => hn _ (h3 o)⟩⟩
  · exact ⟨hv, .inr ⟨c0, h2, fun o => hq _ _ (hn _ (h3 o))⟩⟩

section
variable {n : Nat}
/-- A round, where the assignment makes memory. -/
theorem boxed_round {fn : FuncId} {tmps : Array Value} {ps : Array Tmp} {assign body : Code} {l D : Nat} {rr : LoopState → Option Code → Loop} (hrr : rr = recOf fn tmps ps assign body D) {x : Array Value} {W W₁ : World} (hR : RecAt W l D (rr .ready none)) (hR1 : RecAt W₁ l D (rr .ready none)) (hps : x.size = ps.size) {R : Ending → World → Prop} (a₁ : Go.Act)
    (hassign : ∀ K : Go.Act → World → Prop, K a₁ W₁ → assign.wpIn (Fence.wide.inRound l) n Try.prog (Exit.then K (fun _ _ _ => False)) { tmps := (ps.zip x).foldl (fun t (p, v) => t.setIfInBounds p v) tmps, defers := [] } W)
    (hbody : ∀ W2, W2 = W₁.putObj l (.loop (rr .busy none)) → body.wpIn (Fence.wide.inRound l) n Try.prog
      (fun e _ W3 => match e with
        | .normal => RecAt W3 l D (rr .busy none) ∧ R (.returned (.bool true)) (W3.putObj l (.loop (rr .ready none)))
        | .ret => RecAt W3 l D (rr .busy none) ∧ R (.returned (.bool false)) (W3.putObj l (.loop (rr .done (some .ret))))
        | .exit id => RecAt W3 l D (rr .busy none) ∧ R (.returned (.bool false)) (W3.putObj l (.loop (rr .done (some (.exit id)))))
        | .goto t => RecAt W3 l D (rr .busy none) ∧ R (.returned (.bool false)) (W3.putObj l (.loop (rr .done (some (.goto t)))))
        | .panic _ => False
        | .outgrown => False) a₁ W2) :
    YieldAt Fence.wide n Try.prog l x W R := by
  subst hrr
  have hy := run_yield (P := Try.prog) (args := x) hR.rec_ hps.symm.symm
  refine ⟨fn, _, assign, body, hy, roundIn_of_wpIn trivial (hassign _ ⟨_, run_beginRound hR1.rec_ rfl, ?_⟩)⟩
  refine wpIn_mono (hbody _ rfl) ?_
  rintro e a3 W3 hp
  cases e with
  | normal => exact ⟨_, _, run_endRound (P := Try.prog) none hp.1.rec_, hp.2⟩
  | ret => exact ⟨_, _, run_endRound (P := Try.prog) (some .ret) hp.1.rec_, hp.2⟩
  | exit id => exact ⟨_, _, run_endRound (P := Try.prog) (some (.exit id)) hp.1.rec_, hp.2⟩
  | goto t => exact ⟨_, _, run_endRound (P := Try.prog) (some (.goto t)) hp.1.rec_, hp.2⟩
  | panic ch => exact hp.elim
  | outgrown => exact hp.elim
end

theorem brk_of {id : Nat} {Q : Exit → Go.Act → World → Prop} {fr : Go.Act} {W : World} (h : Q .normal fr W) : (Exit.inBlock id Q) (.exit id) fr W := by
  simp [Exit.inBlock, h]


end Go.Proofs.Ytbpkppmbbpoohaa

namespace Go.Proofs.Ytbpkppmbbpoohaa
open Go.RowKit Go.Shelf
attribute [local go_sem] Oper.semAt_some

theorem Try.entVals : ∀ args w, (callFunc 67 args).run Try.prog w = .ok (.enter 67 args) w := enters_of Try.func67 (by kernel_rfl) rfl

set_option maxRecDepth 100000 in
set_option maxHeartbeats 1600000 in
theorem strs_at (n : Nat) (hn : 1 ≤ n) (l qb c : Nat) (S : Nat → Prop) (A : Option Addr) (D : List (List UInt8)) (J Jx : List (List UInt8) → World → Prop) (hJ : ∀ pre W W', J pre W → Below W.heap.size W W' → J pre W') (hDl : D.length ≤ 9223372036854775807)
    (hJS : ∀ pre W, J pre W → SlAt strCells 1 S W A c D)
    (hY : ∀ pre x W, J pre W → pre ++ [x] <+: D → YieldAt Fence.wide (n - 1) Try.prog l #[.string (strL x)] W fun e W' =>
      (e = .returned (.bool true) ∧ J (pre ++ [x]) W') ∨ (e = .returned (.bool false) ∧ Jx (pre ++ [x]) W'))
    (W : World) (hq : W.cell? ⟨qb, 0, none⟩ = some (.slice A D.length c)) (h0 : J [] W) :
    CallsIn Fence.wide n Try.prog 67 #[.func (.yield l) #[] #[], .pointer (some ⟨qb, 0, none⟩)] W fun e W' => (∃ v, e = .returned v) ∧
      (J D W' ∨ (∃ pre : List (List UInt8), pre <+: D ∧ Jx pre W')) := by
  have HS := Lib.hid (hJS _ _ h0)
  have HJS := Lib.hid hJS
  have H0 := Lib.hid h0
  have HY := Lib.hid hY
  have HJ := Lib.hid hJ
  have hcap := HS.out.2.1
  clear h0 hJS hY hJ
  refine callsIn_of_wp Try.func67 rfl trivial ?_ rfl
  simp only [Try.ntmps67, List.size_toArray, List.length_cons, List.length_nil, Nat.reduceAdd, Nat.reduceSub, Array.replicate_succ, Array.replicate_zero, List.push_toArray, List.append_toArray, List.nil_append, List.cons_append]
  gi_wp2_with fail
  gi_loopw [7] (fun x7 wr => ∃ k : Nat, k ≤ D.length ∧ x7 = .int .i64 ((k : Nat) : Int) ∧ J (D.take k) wr) (fun x7 _ => D.length - (intOf x7).toNat)
  case atStart => exact ⟨0, Nat.zero_le _, rfl, H0.out⟩
  case round =>
    obtain ⟨k, hk, rfl, hJk⟩ := hrel
    have hSk := HJS.out _ _ hJk
    by_cases hlt : k < D.length
    · obtain ⟨d, hd⟩ : ∃ d, D[k]? = some d := ⟨_, List.getElem?_eq_getElem hlt⟩
      have htk : D.take (k + 1) = D.take k ++ [d] := (drop_of hd).2
      obtain ⟨g, o, rfl, hx⟩ := hSk.at_ hd
      have y0 : wr.cell? ⟨g, o + k, none⟩ = some (.string (strL d)) := by have := hx 0 (.string (strL d)) rfl; simpa using this
      obtain ⟨fn, tmps, assign, body, hy, hR⟩ := HY.out _ d wr hJk (by rw [← htk]; exact List.take_prefix _ _)
      have HR := Lib.hid hR
      have HTK := Lib.hid htk
      have hlti : ((k : Nat) : Int) < ((D.length : Nat) : Int) := by omega
      clear htk hx hd hJk hSk hR
      gi_wp2_with fail
      refine HR.out.mono ?_
      rintro e W3 (⟨rfl, hJ3⟩ | ⟨rfl, hJx3⟩)
      · have HJ3 := Lib.hid hJ3
        clear hJ3
        gi_wp2
        go_roundw
        case rel => exact ⟨k + 1, by omega, by go_num, by rw [HTK.out]; exact HJ3.out⟩
        case measure => simp [intOf]; omega
      · have HJ3 := Lib.hid hJx3
        clear hJx3
        gi_wp2
        refine bodyPost_ret (results_none rfl _ _ _) rfl ?_
        refine ⟨⟨_, rfl⟩, .inr ⟨D.take (k + 1), List.take_prefix _ _, ?_⟩⟩
        rw [HTK.out]; exact HJ3.out
    · have HJk := Lib.hid hJk
      clear hJk hSk
      obtain rfl : k = D.length := by omega
      gi_wp2
      go_end0
      exact ⟨⟨_, rfl⟩, .inl (by have := HJk.out; rwa [List.take_length] at this)⟩
end Go.Proofs.Ytbpkppmbbpoohaa
