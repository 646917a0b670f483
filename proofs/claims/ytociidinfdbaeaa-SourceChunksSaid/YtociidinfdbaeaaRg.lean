/- A range over a function, opened by hand: the statement is its iterator's contract (range_open), and a call of yield is a round of its body (range_round). No conditions beyond the loop being no part of another round. -/
import Derived.Test.YtociidinfdbaeaaSc
import Derived.RangeFuncNested
import Derived.RangeFuncBound
import Derived.RangeFuncCalls
import Derived.RangeFuncLeaves
import Derived.OwnWalkIn
import Derived.TacticsInMore
import Derived.LoopNIn
import Derived.LoopIn
namespace Go.Proofs.Ytociidinfdbaeaa
open Go.RowKit Go.Shelf

/-- The record of a range over a function, with its state and the jump that waits. -/
def recOf (fn : FuncId) (tmps : Array Value) (ps : Array Tmp) (assign body : Code) (D : Nat) (st : LoopState) (pe : Option Code) : Loop :=
  { state := st, pending := pe, fn, tmps, params := ps, assign, body, defers := D }

/-- The record and the block of the rounds' deferred calls lie where the statement laid them. -/
structure RecAt (W : World) (l D : Nat) (r : Loop) : Prop where
  rec_ : W.heap[l]? = some (.loop r)
  dfr : W.heap[D]? = some (.deferred (some []))

theorem RecAt.below {W W' : World} {l D : Nat} {r : Loop} {n : Nat} (h : RecAt W l D r) (hb : Below n W W') (hl : l < n) (hD : D < n) : RecAt W' l D r :=
  ⟨(hb.block l hl).trans h.rec_, (hb.block D hD).trans h.dfr⟩
theorem RecAt.rest {W W' : World} {l D : Nat} {r : Loop} {S : Nat → Prop} (h : RecAt W l D r) (hr : Rest S W W') (hl : ¬ S l) (hD : ¬ S D) : RecAt W' l D r :=
  ⟨(hr.block l (Array.getElem?_eq_some_iff.1 h.rec_).1 hl).trans h.rec_, (hr.block D (Array.getElem?_eq_some_iff.1 h.dfr).1 hD).trans h.dfr⟩
theorem RecAt.put {W : World} {l D : Nat} {r : Loop} (h : RecAt W l D r) (hne : l ≠ D) (r' : Loop) : RecAt (W.putObj l (.loop r')) l D r' :=
  ⟨World.putObj_heap_same (Array.getElem?_eq_some_iff.1 h.rec_).1, (World.putObj_heap_other (fun e => hne e.symm)).trans h.dfr⟩

variable {n : Nat}

/-- A round: the body is walked in the world whose record is busy. -/
theorem range_round {fn : FuncId} {tmps : Array Value} {ps : Array Tmp} {assign body : Code} {l D : Nat} {x : Array Value} {W : World} (hR : RecAt W l D (recOf fn tmps ps assign body D .ready none)) (hps : x.size = ps.size) {R : Ending → World → Prop} (a₁ : Go.Act)
    (hassign : ∀ K : Go.Act → World → Prop, K a₁ W → assign.wpIn (Fence.wide.inRound l) n Try.prog (Exit.then K (fun _ _ _ => False)) { tmps := (ps.zip x).foldl (fun t (p, v) => t.setIfInBounds p v) tmps, defers := [] } W)
    (hbody : ∀ W2, W2 = W.putObj l (.loop (recOf fn tmps ps assign body D .busy none)) → body.wpIn (Fence.wide.inRound l) n Try.prog
      (fun e _ W3 => match e with
        | .normal => RecAt W3 l D (recOf fn tmps ps assign body D .busy none) ∧ R (.returned (.bool true)) (W3.putObj l (.loop (recOf fn tmps ps assign body D .ready none)))
        | .ret => RecAt W3 l D (recOf fn tmps ps assign body D .busy none) ∧ R (.returned (.bool false)) (W3.putObj l (.loop (recOf fn tmps ps assign body D .done (some .ret))))
        | .exit id => RecAt W3 l D (recOf fn tmps ps assign body D .busy none) ∧ R (.returned (.bool false)) (W3.putObj l (.loop (recOf fn tmps ps assign body D .done (some (.exit id)))))
        | .goto t => RecAt W3 l D (recOf fn tmps ps assign body D .busy none) ∧ R (.returned (.bool false)) (W3.putObj l (.loop (recOf fn tmps ps assign body D .done (some (.goto t)))))
        | .panic _ => False
        | .outgrown => False) a₁ W2) :
    YieldAt Fence.wide n Try.prog l x W R := by
  have hy := run_yield (P := Try.prog) (args := x) hR.rec_ hps.symm.symm
  refine ⟨fn, _, assign, body, hy, roundIn_of_wpIn trivial (hassign _ ⟨_, run_beginRound hR.rec_ rfl, ?_⟩)⟩
  refine wpIn_mono (hbody _ rfl) ?_
  rintro e a3 W3 hp
  cases e with
  | normal => exact ⟨_, _, run_endRound (P := Try.prog) none hp.1.rec_, hp.2⟩
  | ret => exact ⟨_, _, run_endRound (P := Try.prog) (some .ret) hp.1.rec_, hp.2⟩
  | exit id => exact ⟨_, _, run_endRound (P := Try.prog) (some (.exit id)) hp.1.rec_, hp.2⟩
  | goto t => exact ⟨_, _, run_endRound (P := Try.prog) (some (.goto t)) hp.1.rec_, hp.2⟩
  | panic ch => exact hp.elim
  | outgrown => exact hp.elim

/-- The statement: its iterator's contract, in the world that holds its record. -/
theorem range_open {g : Operand} {ps : Array Tmp} {assign body : Code} {Q : Exit → Go.Act → World → Prop} {a : Go.Act} {w : World} (h1 : 1 ≤ n) {gf : Nat} {lb : Array Value} (hg : a.eval g = .func (.func gf) #[] lb) (eg : ∀ args w, (callFunc gf args).run Try.prog w = .ok (.enter gf args) w)
    (h : ∀ fn W1, Below w.heap.size w W1 → W1.heap.size = w.heap.size + 2 → RecAt W1 (w.heap.size + 1) w.heap.size (recOf fn a.tmps ps assign body w.heap.size .ready none) →
      CallsIn Fence.wide (n - 1) Try.prog gf (#[.func (.yield (w.heap.size + 1)) #[] #[]] ++ lb) W1 fun e W2 => (∃ v, e = .returned v) ∧
        ((RecAt W2 (w.heap.size + 1) w.heap.size (recOf fn a.tmps ps assign body w.heap.size .ready none) ∧ ∀ o, Q .normal { a with defers := { target := .collected w.heap.size, args := #[] } :: a.defers } (W2.putObj (w.heap.size + 1) o)) ∨
          ∃ c, RecAt W2 (w.heap.size + 1) w.heap.size (recOf fn a.tmps ps assign body w.heap.size .done (some c)) ∧ ∀ o, c.wpIn Fence.wide n Try.prog Q { a with defers := { target := .collected w.heap.size, args := #[] } :: a.defers } (W2.putObj (w.heap.size + 1) o))) :
    (Code.rangeFunc g ps assign body).wpIn Fence.wide n Try.prog Q a w := by
  refine wpIn_rangeFunc ?_
  intro fn _
  have hb1 : Below w.heap.size w ((w.alloc (.deferred (some []))).alloc (.loop (recOf fn a.tmps ps assign body w.heap.size .ready none))) := ((Below.refl _ w).alloc (Nat.le_refl _) _).alloc (by simp) _
  have hR : RecAt ((w.alloc (.deferred (some []))).alloc (.loop (recOf fn a.tmps ps assign body w.heap.size .ready none))) (w.heap.size + 1) w.heap.size (recOf fn a.tmps ps assign body w.heap.size .ready none) :=
    ⟨by have := World.alloc_heap_new (w.alloc (.deferred (some []))) (.loop (recOf fn a.tmps ps assign body w.heap.size .ready none)); rwa [World.size_alloc] at this, (Below.heap_alloc _ _ _ (by simp)).trans (World.alloc_heap_new w _)⟩
  obtain ⟨W1, hW1⟩ : ∃ W1, (w.alloc (.deferred (some []))).alloc (.loop (recOf fn a.tmps ps assign body w.heap.size .ready none)) = W1 := ⟨_, rfl⟩
  have hsz : W1.heap.size = w.heap.size + 2 := by rw [← hW1]; simp
  have hen : (Instr.enterLoop fn a.tmps ps assign body Fence.wide.round).run Try.prog w = .ok (w.heap.size + 1, [{ target := .collected w.heap.size, args := #[] }]) W1 := by rw [← hW1]; exact run_enterLoop_outer _ _ _ _ _
  rw [hW1] at hb1 hR
  refine ⟨w.heap.size + 1, [{ target := .collected w.heap.size, args := #[] }], W1, { target := .fn (.func gf) lb, args := #[.func (.yield (w.heap.size + 1)) #[] #[]] }, W1, gf, #[.func (.yield (w.heap.size + 1)) #[] #[]] ++ lb, W1, hen, ?_, fun _ _ => trivial, ?_, fun _ => h1, ?_⟩
  · simp only [resolve, hg]
    simp [go_sem]
  · simp [invoke, go_sem, eg]
  · refine (h fn W1 hb1 hsz hR).mono ?_
    rintro e W2 ⟨⟨v, rfl⟩, (⟨h2, hq⟩ | ⟨c, h2, hq⟩)⟩
    · exact ⟨none, _, run_endLoop (P := Try.prog) h2.rec_ (by simp [recOf]), hq _⟩
    · exact ⟨some c, _, run_endLoop (P := Try.prog) h2.rec_ (by simp [recOf]), hq _⟩
end Go.Proofs.Ytociidinfdbaeaa
