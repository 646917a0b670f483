/- A range over a function, opened by hand: the statement is its iterator's contract (range_open), and a call of yield is a round of its body (range_round). No conditions beyond the loop being no part of another round. -/
import Derived.Test.YtgdjfifnnhfonaaLe
import Derived.Test.YtgdjfifnnhfonaaLa
import Derived.Deep.CutRange
import Derived.Sort.QuietIn
import Derived.Lib.QuietBelowIn
import Derived.RangeFuncNested
import Derived.RangeFuncBound
import Derived.RangeFuncCalls
import Derived.RangeFuncLeaves
import Derived.OwnWalkIn
import Derived.TacticsInMore
import Derived.LoopNIn
import Derived.LoopIn
namespace Go.Proofs.Ytgdjfifnnhfonaa
open Go.RowKit Go.Shelf Go.Sort

/-- The record of a range over a function, with its state and the jump that waits. -/
def recOf (fn : FuncId) (tmps : Array Value) (ps : Array Tmp) (assign body : Code) (D : Nat) (st : LoopState) (pe : Option Code) : Loop :=
  { state := st, pending := pe, fn, tmps, params := ps, assign, body, defers := D }

/-- The record and the block of the rounds' deferred calls lie where the statement laid them. -/
structure RecAt (W : World) (l D : Nat) (r : Loop) : Prop where
  rec_ : W.heap[l]? = some (.loop r)
  dfr : W.heap[D]? = some (.deferred (some []))

theorem RecAt.below {W W' : World} {l D : Nat} {r : Loop} {n : Nat} (h : RecAt W l D r) (hb : Below n W W') (hl : l < n) (hD : D < n) : RecAt W' l D r :=
  ⟨(hb.block l hl).trans h.rec_, (hb.block D hD).trans h.dfr⟩
theorem RecAt.rest {W W' : World} {l D : Nat} {r : Loop} {S : Nat → Prop} (h : RecAt W l D r) (hr : Rest S W W') (hl : ¬ S l) (hD : ¬ S D) : RecAt W' l D r :=
  ⟨(hr.block l (Array.getElem?_eq_some_iff.1 h.rec_).1 hl).trans h.rec_, (hr.block D (Array.getElem?_eq_some_iff.1 h.dfr).1 hD).trans h.dfr⟩
theorem RecAt.put {W : World} {l D : Nat} {r : Loop} (h : RecAt W l D r) (hne : l ≠ D) (r' : Loop) : RecAt (W.putObj l (.loop r')) l D r' :=
  ⟨World.putObj_heap_same (Array.getElem?_eq_some_iff.1 h.rec_).1, (World.putObj_heap_other (fun e => hne e.symm)).trans h.dfr⟩

section
variable {n : Nat}

/-- A round: the body is walked in the world whose record is busy. -/
theorem range_round {fn : FuncId} {tmps : Array Value} {ps : Array Tmp} {assign body : Code} {l D : Nat} {x : Array Value} {W : World} (hR : RecAt W l D (recOf fn tmps ps assign body D .ready none)) (hps : x.size = ps.size) {R : Ending → World → Prop} (a₁ : Go.Act)
    (hassign : ∀ K : Go.Act → World → Prop, K a₁ W → assign.wpIn (Fence.wide.inRound l) n Try.prog (Exit.then K (fun _ _ _ => False)) { tmps := (ps.zip x).foldl (fun t (p, v) => t.setIfInBounds p v) tmps, defers := [] } W)
    (hbody : ∀ W2, W2 = W.putObj l (.loop (recOf fn tmps ps assign body D .busy none)) → body.wpIn (Fence.wide.inRound l) n Try.prog
      (fun e _ W3 => match e with
        | .normal => RecAt W3 l D (recOf fn tmps ps assign body D .busy none) ∧ R (.returned (.bool true)) (W3.putObj l (.loop (recOf fn tmps ps assign body D .ready none)))
        | .ret => RecAt W3 l D (recOf fn tmps ps assign body D .busy none) ∧ R (.returned (.bool false)) (W3.putObj l (.loop (recOf fn tmps ps assign body D .done (some .ret))))
        | .exit id => RecAt W3 l D (recOf fn tmps ps assign body D .busy none) ∧ R (.returned (.bool false)) (W3.putObj l (.loop (recOf fn tmps ps assign body D .done (some (.exit id)))))
        | .goto t => RecAt W3 l D (recOf fn tmps ps assign body D .busy none) ∧ R (.returned (.bool false)) (W3.putObj l (.loop (recOf fn tmps ps assign body D .done (some (.goto t)))))
        | .panic _ => False
        | .outgrown => False) a₁ W2) :
    YieldAt Fence.wide n Try.prog l x W R := by
  have hy := run_yield (P := Try.prog) (args := x) hR.rec_ hps.symm.symm
  refine ⟨fn, _, assign, body, hy, roundIn_of_wpIn trivial (hassign _ ⟨_, run_beginRound hR.rec_ rfl, ?_⟩)⟩
  refine wpIn_mono (hbody _ rfl) ?_
  rintro e a3 W3 hp
  cases e with
  | normal => exact ⟨_, _, run_endRound (P := Try.prog) none hp.1.rec_, hp.2⟩
  | ret => exact ⟨_, _, run_endRound (P := Try.prog) (some .ret) hp.1.rec_, hp.2⟩
  | exit id => exact ⟨_, _, run_endRound (P := Try.prog) (some (.exit id)) hp.1.rec_, hp.2⟩
  | goto t => exact ⟨_, _, run_endRound (P := Try.prog) (some (.goto t)) hp.1.rec_, hp.2⟩
  | panic ch => exact hp.elim
  | outgrown => exact hp.elim

/-- The statement: its iterator's contract, in the world that holds its record. -/
theorem range_open {g : Operand} {ps : Array Tmp} {assign body : Code} {Q : Exit → Go.Act → World → Prop} {a : Go.Act} {w : World} (h1 : 1 ≤ n) {gf : Nat} {lb : Array Value} (hg : a.eval g = .func (.func gf) #[] lb) (eg : ∀ args w, (callFunc gf args).run Try.prog w = .ok (.enter gf args) w)
    (h : ∀ fn W1, Below w.heap.size w W1 → W1.heap.size = w.heap.size + 2 → RecAt W1 (w.heap.size + 1) w.heap.size (recOf fn a.tmps ps assign body w.heap.size .ready none) →
      CallsIn Fence.wide (n - 1) Try.prog gf (#[.func (.yield (w.heap.size + 1)) #[] #[]] ++ lb) W1 fun e W2 => (∃ v, e = .returned v) ∧
        ((RecAt W2 (w.heap.size + 1) w.heap.size (recOf fn a.tmps ps assign body w.heap.size .ready none) ∧ ∀ o, Q .normal { a with defers := { target := .collected w.heap.size, args := #[] } :: a.defers } (W2.putObj (w.heap.size + 1) o)) ∨
          ∃ c, RecAt W2 (w.heap.size + 1) w.heap.size (recOf fn a.tmps ps assign body w.heap.size .done (some c)) ∧ ∀ o, c.wpIn Fence.wide n Try.prog Q { a with defers := { target := .collected w.heap.size, args := #[] } :: a.defers } (W2.putObj (w.heap.size + 1) o))) :
    (Code.rangeFunc g ps assign body).wpIn Fence.wide n Try.prog Q a w := by
  refine wpIn_rangeFunc ?_
  intro fn _
  have hb1 : Below w.heap.size w ((w.alloc (.deferred (some []))).alloc (.loop (recOf fn a.tmps ps assign body w.heap.size .ready none))) := ((Below.refl _ w).alloc (Nat.le_refl _) _).alloc (by simp) _
  have hR : RecAt ((w.alloc (.deferred (some []))).alloc (.loop (recOf fn a.tmps ps assign body w.heap.size .ready none))) (w.heap.size + 1) w.heap.size (recOf fn a.tmps ps assign body w.heap.size .ready none) :=
    ⟨by have := World.alloc_heap_new (w.alloc (.deferred (some []))) (.loop (recOf fn a.tmps ps assign body w.heap.size .ready none)); rwa [World.size_alloc] at this, (Below.heap_alloc _ _ _ (by simp)).trans (World.alloc_heap_new w _)⟩
  obtain ⟨W1, hW1⟩ : ∃ W1, (w.alloc (.deferred (some []))).alloc (.loop (recOf fn a.tmps ps assign body w.heap.size .ready none)) = W1 := ⟨_, rfl⟩
  have hsz : W1.heap.size = w.heap.size + 2 := by rw [← hW1]; simp
  have hen : (Instr.enterLoop fn a.tmps ps assign body Fence.wide.round).run Try.prog w = .ok (w.heap.size + 1, [{ target := .collected w.heap.size, args := #[] }]) W1 := by rw [← hW1]; exact run_enterLoop_outer _ _ _ _ _
  rw [hW1] at hb1 hR
  refine ⟨w.heap.size + 1, [{ target := .collected w.heap.size, args := #[] }], W1, { target := .fn (.func gf) lb, args := #[.func (.yield (w.heap.size + 1)) #[] #[]] }, W1, gf, #[.func (.yield (w.heap.size + 1)) #[] #[]] ++ lb, W1, hen, ?_, fun _ _ => trivial, ?_, fun _ => h1, ?_⟩
  · simp only [resolve, hg]
    simp [go_sem]
  · simp [invoke, go_sem, eg]
  · refine (h fn W1 hb1 hsz hR).mono ?_
    rintro e W2 ⟨⟨v, rfl⟩, (⟨h2, hq⟩ | ⟨c, h2, hq⟩)⟩
    · exact ⟨none, _, run_endLoop (P := Try.prog) h2.rec_ (by simp [recOf]), hq _⟩
    · exact ⟨some c, _, run_endLoop (P := Try.prog) h2.rec_ (by simp [recOf]), hq _⟩

end
theorem rest_putObj (W : World) (l : Nat) (o : Obj) : Rest (fun i => i = l) W (W.putObj l o) :=
  (Rest.refl (fun i => i = l) W).grown (grownBy_putObj' W l o) (fun k e _ => by cases e; rfl)

section
variable {n : Nat}
/-- A round, with the record's other parts under one name. -/
theorem named_round {fn : FuncId} {tmps : Array Value} {ps : Array Tmp} {assign body : Code} {l D : Nat} {rr : LoopState → Option Code → Loop} (hrr : rr = recOf fn tmps ps assign body D) {x : Array Value} {W : World} (hR : RecAt W l D (rr .ready none)) (hps : x.size = ps.size) {R : Ending → World → Prop} (a₁ : Go.Act)
    (hassign : ∀ K : Go.Act → World → Prop, K a₁ W → assign.wpIn (Fence.wide.inRound l) n Try.prog (Exit.then K (fun _ _ _ => False)) { tmps := (ps.zip x).foldl (fun t (p, v) => t.setIfInBounds p v) tmps, defers := [] } W)
    (hbody : ∀ W2, W2 = W.putObj l (.loop (rr .busy none)) → body.wpIn (Fence.wide.inRound l) n Try.prog
      (fun e _ W3 => match e with
        | .normal => RecAt W3 l D (rr .busy none) ∧ R (.returned (.bool true)) (W3.putObj l (.loop (rr .ready none)))
        | .ret => RecAt W3 l D (rr .busy none) ∧ R (.returned (.bool false)) (W3.putObj l (.loop (rr .done (some .ret))))
        | .exit id => RecAt W3 l D (rr .busy none) ∧ R (.returned (.bool false)) (W3.putObj l (.loop (rr .done (some (.exit id)))))
        | .goto t => RecAt W3 l D (rr .busy none) ∧ R (.returned (.bool false)) (W3.putObj l (.loop (rr .done (some (.goto t)))))
        | .panic _ => False
        | .outgrown => False) a₁ W2) :
    YieldAt Fence.wide n Try.prog l x W R := by
  subst hrr
  exact range_round hR hps a₁ hassign hbody

/-- The statement, with the record's other parts under one name. -/
theorem named_open {g : Operand} {ps : Array Tmp} {assign body : Code} {Q : Exit → Go.Act → World → Prop} {a : Go.Act} {w : World} (h1 : 1 ≤ n) {gf : Nat} {lb : Array Value} (hg : a.eval g = .func (.func gf) #[] lb) (eg : ∀ args w, (callFunc gf args).run Try.prog w = .ok (.enter gf args) w)
    (h : ∀ fn W1 rr, rr = recOf fn a.tmps ps assign body w.heap.size → Below w.heap.size w W1 → W1.heap.size = w.heap.size + 2 → RecAt W1 (w.heap.size + 1) w.heap.size (rr .ready none) →
      CallsIn Fence.wide (n - 1) Try.prog gf (#[.func (.yield (w.heap.size + 1)) #[] #[]] ++ lb) W1 fun e W2 => (∃ v, e = .returned v) ∧
        ((RecAt W2 (w.heap.size + 1) w.heap.size (rr .ready none) ∧ ∀ o, Q .normal { a with defers := { target := .collected w.heap.size, args := #[] } :: a.defers } (W2.putObj (w.heap.size + 1) o)) ∨
          ∃ c, RecAt W2 (w.heap.size + 1) w.heap.size (rr .done (some c)) ∧ ∀ o, c.wpIn Fence.wide n Try.prog Q { a with defers := { target := .collected w.heap.size, args := #[] } :: a.defers } (W2.putObj (w.heap.size + 1) o))) :
    (Code.rangeFunc g ps assign body).wpIn Fence.wide n Try.prog Q a w :=
  range_open h1 hg eg (fun fn W1 hb hs hR => h fn W1 _ rfl hb hs hR)
end

/-- An operation that defers nothing is carried out in a round as everywhere. -/
theorem wpIn_inRound {F : Fence} {n l : Nat} {P : Program} {o : Oper} {a : Go.Act} {K : Go.Act → World → Prop} {Q : Exit → Go.Act → World → Prop} {w : World} (hd : ∀ c, o.op ≠ .defer c) (hro : F.round = none) (h : o.wpIn F n P a w K Q) : o.wpIn (F.inRound l) n P a w K Q := by
  refine ⟨h.1, ?_⟩
  have h2 := h.2
  rw [hro, Oper.semAt_eq _ _ _ hd] at h2
  rw [Fence.inRound_round, Oper.semAt_eq _ _ _ hd]
  generalize (execOp a.eval o).run P w = r at *
  cases r with
  | ok x w' => cases x <;> exact h2
  | halt x w' => exact h2

theorem wpOpIn_inRound {F : Fence} {n l : Nat} {P : Program} {ops : Array Oper} {i : Nat} {a : Go.Act} {K : Go.Act → World → Prop} {Q : Exit → Go.Act → World → Prop} {w : World} (hd : ∀ (i : Nat) (o : Oper) c, ops[i]? = some o → o.op ≠ .defer c) (hro : F.round = none) (h : wpOpIn F n P ops Q i K a w) : wpOpIn (F.inRound l) n P ops Q i K a w := by
  unfold wpOpIn at *
  cases ho : ops[i]? with
  | none => simpa [ho] using h
  | some o =>
    simp only [ho] at h ⊢
    split
    · rename_i hw
      simp only [hw, if_true] at h
      exact wpIn_inRound (fun c => hd i o c ho) hro h
    · rename_i hw
      simp only [hw] at h
      exact h

theorem wpAnyIn_inRound {F : Fence} {n l : Nat} {P : Program} {md : Region.Mode} {ops : Array Oper} {Q : Exit → Go.Act → World → Prop} (hd : ∀ (i : Nat) (o : Oper) c, ops[i]? = some o → o.op ≠ .defer c) (hro : F.round = none) : ∀ (fuel : Nat) (listed : Array Bool) (a : Go.Act) (w : World), wpAnyIn F n P md ops Q fuel listed a w → wpAnyIn (F.inRound l) n P md ops Q fuel listed a w
  | 0, _, _, _, h => h
  | fuel + 1, _, _, _, h => ⟨h.1, fun i hi => wpOpIn_mono (fun a' w' => wpAnyIn_inRound hd hro fuel _ a' w') (wpOpIn_inRound hd hro (h.2 i hi))⟩

/-- A quiet region in a round. -/
theorem region_quiet_round {F : Fence} {n lr : Nat} {P : Program} {id : Nat} {Q : Exit → Go.Act → World → Prop} {a : Go.Act} {w : World} {l : List Oper} (hro : F.round = none) (hm : P.follows .mixedOrders = true) (hB : Region.lexB .any l.toArray = true) (hd : l.all (fun o => match o.op with | .defer _ => false | _ => true) = true)
    (h : wpQuietIn F n P l.toArray (fun w' => ∃ n, w' = w.drewN n) (fun a' => ∀ w', (∃ n, w' = w.drewN n) → Q .normal a' w') l a) : (Code.region id l.toArray true).wpIn (F.inRound lr) n P Q a w := by
  have hd' : ∀ (i : Nat) (o : Oper) c, l.toArray[i]? = some o → o.op ≠ .defer c := by
    intro i o c ho hc
    have hm : o ∈ l := by
      have := List.mem_of_getElem? (by simpa using ho : l[i]? = some o)
      exact this
    have := List.all_eq_true.1 hd o hm
    rw [hc] at this
    exact Bool.noConfusion this
  simp only [Region.lexB, Bool.and_eq_true] at hB
  refine wpIn_region_any hm (wpAnyIn_inRound hd' hro _ _ _ _ (wpAnyIn_of_quiet (C := fun w' => ∃ n, w' = w.drewN n) (Q := fun a' => ∀ w', (∃ n, w' = w.drewN n) → Q .normal a' w') hro (fun _ w' hw' h => h w' hw') _ _ _ _ ⟨1, rfl⟩ ?_))
  have := wpAnyQIn_lex (F := F) (n := n) (C := fun w' => ∃ n, w' = w.drewN n) (md := .any) hB.1 l 0 (Array.replicate l.toArray.size false) a (by simp) (by simpa using hB.2) (by simpa using h)
  simpa using this

/-- A region in a round whose calls make memory. -/
theorem region_below_round {F : Fence} {n lr : Nat} {P : Program} {id : Nat} {Q : Exit → Go.Act → World → Prop} {a : Go.Act} {w : World} {l : List Oper} (hro : F.round = none) (hm : P.follows .mixedOrders = true) (hB : Region.lexB .any l.toArray = true) (hd : l.all (fun o => match o.op with | .defer _ => false | _ => true) = true)
    (h : wpQuietIn F n P l.toArray (fun w' => ∃ p : Regrown, w' = grow (redrawn w p.d) p.os) (fun a' => ∀ w', (∃ p : Regrown, w' = grow (redrawn w p.d) p.os) → Q .normal a' w') l a) : (Code.region id l.toArray true).wpIn (F.inRound lr) n P Q a w := by
  have hd' : ∀ (i : Nat) (o : Oper) c, l.toArray[i]? = some o → o.op ≠ .defer c := by
    intro i o c ho hc
    have hm : o ∈ l := by
      have := List.mem_of_getElem? (by simpa using ho : l[i]? = some o)
      exact this
    have := List.all_eq_true.1 hd o hm
    rw [hc] at this
    exact Bool.noConfusion this
  simp only [Region.lexB, Bool.and_eq_true] at hB
  refine wpIn_region_any hm (wpAnyIn_inRound hd' hro _ _ _ _ (wpAnyIn_of_quiet (C := fun w' => ∃ p : Regrown, w' = grow (redrawn w p.d) p.os) (Q := fun a' => ∀ w', (∃ p : Regrown, w' = grow (redrawn w p.d) p.os) → Q .normal a' w') hro (fun _ w' hw' h => h w' hw') _ _ _ _ ⟨⟨w.drawn + 1, #[]⟩, by rw [grow_empty]; rfl⟩ ?_))
  have := wpAnyQIn_lex (F := F) (n := n) (C := fun w' => ∃ p : Regrown, w' = grow (redrawn w p.d) p.os) (md := .any) hB.1 l 0 (Array.replicate l.toArray.size false) a (by simp) (by simpa using hB.2) (by simpa using h)
  simpa using this

/-- The statement, where leaving the loop early and coming to its end go on in one way. -/
theorem open_joined {n : Nat} {g : Operand} {ps : Array Tmp} {assign body : Code} {Q : Exit → Go.Act → World → Prop} {a : Go.Act} {w : World} (h1 : 1 ≤ n) {gf : Nat} {lb : Array Value} (hg : a.eval g = .func (.func gf) #[] lb) (eg : ∀ args w, (callFunc gf args).run Try.prog w = .ok (.enter gf args) w) (G : World → Prop) (c0 : Code)
    (h : ∀ W1 rr, (∃ fn, rr = recOf fn a.tmps ps assign body w.heap.size) → Below w.heap.size w W1 → W1.heap.size = w.heap.size + 2 → RecAt W1 (w.heap.size + 1) w.heap.size (rr .ready none) →
      CallsIn Fence.wide (n - 1) Try.prog gf (#[.func (.yield (w.heap.size + 1)) #[] #[]] ++ lb) W1 fun e W2 => (∃ v, e = .returned v) ∧
        ((RecAt W2 (w.heap.size + 1) w.heap.size (rr .ready none) ∧ ∀ o, G (W2.putObj (w.heap.size + 1) o)) ∨
          (RecAt W2 (w.heap.size + 1) w.heap.size (rr .done (some c0)) ∧ ∀ o, G (W2.putObj (w.heap.size + 1) o))))
    (hq : ∀ fr W, Q .normal fr W → c0.wpIn Fence.wide n Try.prog Q fr W)
    (hn : ∀ W, G W → Q .normal { a with defers := { target := .collected w.heap.size, args := #[] } :: a.defers } W) :
    (Code.rangeFunc g ps assign body).wpIn Fence.wide n Try.prog Q a w := by
  refine named_open h1 hg eg (fun fn W1 rr hrr hb hs hR => (h W1 rr ⟨fn, hrr⟩ hb hs hR).mono ?_)
  rintro e W2 ⟨hv, (⟨h2, h3⟩ | ⟨h2, h3⟩)⟩
  · exact ⟨hv, .inl ⟨h2, fun o => hn _ (h3 o)⟩⟩
  · exact ⟨hv, .inr ⟨c0, h2, fun o => hq _ _ (hn _ (h3 o))⟩⟩
end Go.Proofs.Ytgdjfifnnhfonaa
namespace Go.Proofs.Ytgdjfifnnhfonaa
open Go.RowKit Go.Shelf
attribute [local go_sem] Oper.semAt_some

set_option maxRecDepth 100000 in
set_option maxHeartbeats 1600000 in
theorem toks54_at (n : Nat) (hn : 1 ≤ n) (l qb c : Nat) (S : Nat → Prop) (A : Option Addr) (D : List TokD) (J Jx : List TokD → World → Prop) (hJ : ∀ pre W W', J pre W → Below W.heap.size W W' → J pre W') (hDl : D.length ≤ 9223372036854775807)
    (hJS : ∀ pre W, J pre W → SlAt TokD.cells 5 S W A c D)
    (hY : ∀ pre x W, J pre W → pre ++ [x] <+: D → YieldAt Fence.wide (n - 1) Try.prog l #[x.agg] W fun e W' =>
      (e = .returned (.bool true) ∧ J (pre ++ [x]) W') ∨ (e = .returned (.bool false) ∧ Jx (pre ++ [x]) W'))
    (W : World) (hq : W.cell? ⟨qb, 0, none⟩ = some (.slice A D.length c)) (h0 : J [] W) :
    CallsIn Fence.wide n Try.prog 54 #[.func (.yield l) #[] #[], .pointer (some ⟨qb, 0, none⟩)] W fun e W' => (∃ v, e = .returned v) ∧
      (J D W' ∨ (∃ pre : List TokD, pre <+: D ∧ Jx pre W')) := by
  have HS := Lib.hid (hJS _ _ h0)
  have HJS := Lib.hid hJS
  have H0 := Lib.hid h0
  have HY := Lib.hid hY
  have HJ := Lib.hid hJ
  have hcap := HS.out.2.1
  clear h0 hJS hY hJ
  refine callsIn_of_wp Try.func54 rfl trivial ?_ rfl
  simp only [Try.ntmps54, List.size_toArray, List.length_cons, List.length_nil, Nat.reduceAdd, Nat.reduceSub, Array.replicate_succ, Array.replicate_zero, List.push_toArray, List.append_toArray, List.nil_append, List.cons_append]
  gi_wp2_with fail
  gi_loopw [7] (fun x7 wr => ∃ k : Nat, k ≤ D.length ∧ x7 = .int .i64 ((k : Nat) : Int) ∧ J (D.take k) wr) (fun x7 _ => D.length - (intOf x7).toNat)
  case atStart => exact ⟨0, Nat.zero_le _, rfl, H0.out⟩
  case round =>
    obtain ⟨k, hk, rfl, hJk⟩ := hrel
    have hSk := HJS.out _ _ hJk
    by_cases hlt : k < D.length
    · obtain ⟨d, hd⟩ : ∃ d, D[k]? = some d := ⟨_, List.getElem?_eq_getElem hlt⟩
      have htk : D.take (k + 1) = D.take k ++ [d] := by
        obtain ⟨hk', rfl⟩ := List.getElem?_eq_some_iff.1 hd
        exact List.take_succ_eq_append_getElem hk'
      obtain ⟨g, o, rfl, _, hx⟩ := hSk.2.2 k d hd
      have y0 : wr.cell? ⟨g, o + k * 5, none⟩ = some (.int .i64 d.k) := hx 0 _ rfl
      have y1 : wr.cell? ⟨g, o + k * 5 + 1, none⟩ = some (.string (strL d.t)) := hx 1 _ rfl
      have y2 : wr.cell? ⟨g, o + k * 5 + 2, none⟩ = some (.int .i64 d.v) := hx 2 _ rfl
      have y3 : wr.cell? ⟨g, o + k * 5 + 3, none⟩ = some (.int .i64 d.ln) := hx 3 _ rfl
      have y4 : wr.cell? ⟨g, o + k * 5 + 4, none⟩ = some (.int .i64 d.cn) := hx 4 _ rfl
      have hal := below_alloc wr (.cells #[.int .i64 d.k, .string (strL d.t), .int .i64 d.v, .int .i64 d.ln, .int .i64 d.cn] 36)
      have hbx := agg_box wr d
      have hJ1 := HJ.out _ _ _ hJk hal
      obtain ⟨vb, evb⟩ : ∃ vb, wr.heap.size = vb := ⟨_, rfl⟩
      obtain ⟨w1, hw1⟩ : ∃ w1, wr.alloc (.cells #[.int .i64 d.k, .string (strL d.t), .int .i64 d.v, .int .i64 d.ln, .int .i64 d.cn] 36) = w1 := ⟨_, rfl⟩
      rw [hw1] at hbx hJ1
      rw [evb] at hbx
      obtain ⟨fn, tmps, assign, body, hy, hR⟩ := HY.out _ d w1 hJ1 (by rw [← htk]; exact List.take_prefix _ _)
      unfold TokD.agg at hy
      have HR := Lib.hid hR
      have W1 := Lib.hid hw1
      have EVB := Lib.hid evb
      have HTK := Lib.hid htk
      have x0 := hbx.c0
      have x1 := hbx.c1
      have x2 := hbx.c2
      have x3 := hbx.c3
      have x4 := hbx.c4
      have hlti : ((k : Nat) : Int) < ((D.length : Nat) : Int) := by omega
      clear hal hbx hJ1 hw1 evb htk hx hd hJk hSk hR
      gi_wp2_with fail
      rw [W1.out, EVB.out]
      gi_wp2_with fail
      rw [hy, Oper.uponIn_round]
      refine ⟨fun _ => hn, HR.out.mono ?_⟩
      rintro e W3 (⟨rfl, hJ3⟩ | ⟨rfl, hJx3⟩)
      · have HJ3 := Lib.hid hJ3
        clear hJ3
        gi_wp2
        go_roundw
        case rel => exact ⟨k + 1, by omega, by go_num, by rw [HTK.out]; exact HJ3.out⟩
        case measure => simp [intOf]; omega
      · have HJ3 := Lib.hid hJx3
        clear hJx3
        gi_wp2
        refine bodyPost_ret (results_none rfl _ _ _) rfl ?_
        refine ⟨⟨_, rfl⟩, .inr ⟨D.take (k + 1), List.take_prefix _ _, ?_⟩⟩
        rw [HTK.out]; exact HJ3.out
    · have HJk := Lib.hid hJk
      clear hJk hSk
      obtain rfl : k = D.length := by omega
      gi_wp2
      go_end0
      exact ⟨⟨_, rfl⟩, .inl (by have := HJk.out; rwa [List.take_length] at this)⟩
end Go.Proofs.Ytgdjfifnnhfonaa
namespace Go.Proofs.Ytgdjfifnnhfonaa
open Go.RowKit Go.Shelf

section
variable {n : Nat}
/-- A round, where the assignment makes memory. -/
theorem boxed_round {fn : FuncId} {tmps : Array Value} {ps : Array Tmp} {assign body : Code} {l D : Nat} {rr : LoopState → Option Code → Loop} (hrr : rr = recOf fn tmps ps assign body D) {x : Array Value} {W W₁ : World} (hR : RecAt W l D (rr .ready none)) (hR1 : RecAt W₁ l D (rr .ready none)) (hps : x.size = ps.size) {R : Ending → World → Prop} (a₁ : Go.Act)
    (hassign : ∀ K : Go.Act → World → Prop, K a₁ W₁ → assign.wpIn (Fence.wide.inRound l) n Try.prog (Exit.then K (fun _ _ _ => False)) { tmps := (ps.zip x).foldl (fun t (p, v) => t.setIfInBounds p v) tmps, defers := [] } W)
    (hbody : ∀ W2, W2 = W₁.putObj l (.loop (rr .busy none)) → body.wpIn (Fence.wide.inRound l) n Try.prog
      (fun e _ W3 => match e with
        | .normal => RecAt W3 l D (rr .busy none) ∧ R (.returned (.bool true)) (W3.putObj l (.loop (rr .ready none)))
        | .ret => RecAt W3 l D (rr .busy none) ∧ R (.returned (.bool false)) (W3.putObj l (.loop (rr .done (some .ret))))
        | .exit id => RecAt W3 l D (rr .busy none) ∧ R (.returned (.bool false)) (W3.putObj l (.loop (rr .done (some (.exit id)))))
        | .goto t => RecAt W3 l D (rr .busy none) ∧ R (.returned (.bool false)) (W3.putObj l (.loop (rr .done (some (.goto t)))))
        | .panic _ => False
        | .outgrown => False) a₁ W2) :
    YieldAt Fence.wide n Try.prog l x W R := by
  subst hrr
  have hy := run_yield (P := Try.prog) (args := x) hR.rec_ hps.symm.symm
  refine ⟨fn, _, assign, body, hy, roundIn_of_wpIn trivial (hassign _ ⟨_, run_beginRound hR1.rec_ rfl, ?_⟩)⟩
  refine wpIn_mono (hbody _ rfl) ?_
  rintro e a3 W3 hp
  cases e with
  | normal => exact ⟨_, _, run_endRound (P := Try.prog) none hp.1.rec_, hp.2⟩
  | ret => exact ⟨_, _, run_endRound (P := Try.prog) (some .ret) hp.1.rec_, hp.2⟩
  | exit id => exact ⟨_, _, run_endRound (P := Try.prog) (some (.exit id)) hp.1.rec_, hp.2⟩
  | goto t => exact ⟨_, _, run_endRound (P := Try.prog) (some (.goto t)) hp.1.rec_, hp.2⟩
  | panic ch => exact hp.elim
  | outgrown => exact hp.elim
end

theorem brk_of {id : Nat} {Q : Exit → Go.Act → World → Prop} {fr : Go.Act} {W : World} (h : Q .normal fr W) : (Exit.inBlock id Q) (.exit id) fr W := by
  simp [Exit.inBlock, h]

/-- The memory of TokenReads behind its calls: also the iterator's tokens. -/
structure TM (w W : World) (sb rp wb qb : Nat) (l : List UInt8) (q : Nat × Nat) (Dr Dw : List RTk) (A : Option Addr) (c : Nat) : Prop where
  rw_ : RW w W sb (sb + 1) rp wb (wb + 1) l q Dr Dw
  bx : Boxed W qb 23 (.slice A (Dw.map (RTk.toD l)).length c)
  sl : SlAt TokD.cells 5 (OwnS sb (sb + 1) rp wb (wb + 1)) W A c (Dw.map (RTk.toD l))
  le : wb + 1 ≤ qb

section
variable {w W W' : World} {sb rp wb qb : Nat} {l : List UInt8} {q : Nat × Nat} {Dr Dw : List RTk} {A : Option Addr} {c : Nat}
theorem TM.later (h : TM w W sb rp wb qb l q Dr Dw A c) (hb : Below W.heap.size W W') : TM w W' sb rp wb qb l q Dr Dw A c :=
  ⟨h.rw_.later hb, boxed_below h.bx hb h.bx.lt, h.sl.below hb, h.le⟩
theorem TM.fresh (h : TM w W sb rp wb qb l q Dr Dw A c) {S : Nat → Prop} (hr : Rest S W W') (hS : ∀ i, S i → qb < i) : TM w W' sb rp wb qb l q Dr Dw A c := by
  have h1 := h.le
  exact ⟨h.rw_.fresh hr (fun i hi => by have := hS i hi; omega), boxed_rest h.bx hr (fun e => by have := hS _ e; omega), h.sl.rest hr (fun i _ hi => .inr (.inr (.inr (.inr (by have := hS i hi; omega))))), h.le⟩
end

/-- A turn over the tokens: behind those of pre. -/
structure JT (W1 : World) (tb kb lr Dd : Nat) (r : Loop) (tn k : Nat) (W : World) : Prop where
  rest : Rest (fun i => i = kb ∨ i = lr) W1 W
  kbx : Boxed W kb 3 (.int .i64 ((k : Nat) : Int))
  rec_ : RecAt W lr Dd r
  go : tn = 0 → k < 2
/-- A turn that is left. -/
structure JL (W1 : World) (kb lr : Nat) (k : Nat) (W : World) : Prop where
  rest : Rest (fun i => i = kb ∨ i = lr) W1 W
  kbx : Boxed W kb 3 (.int .i64 ((k : Nat) : Int))

section
variable {W1 W W' : World} {tb kb lr Dd : Nat} {r : Loop} {tn k : Nat}
theorem JT.later (h : JT W1 tb kb lr Dd r tn k W) (hb : Below W.heap.size W W') : JT W1 tb kb lr Dd r tn k W' :=
  ⟨h.rest.trans (Rest.below hb) (fun _ _ e => e), boxed_below h.kbx hb h.kbx.lt, h.rec_.below hb (Array.getElem?_eq_some_iff.1 h.rec_.rec_).1 (Array.getElem?_eq_some_iff.1 h.rec_.dfr).1, h.go⟩
theorem JT.put (h : JT W1 tb kb lr Dd r tn k W) (r' : Loop) (n1 : kb ≠ lr) (n2 : lr ≠ Dd) : JT W1 tb kb lr Dd r' tn k (W.putObj lr (.loop r')) :=
  ⟨h.rest.trans (rest_putObj W lr (.loop r')) (fun _ _ e => .inr e), boxed_rest h.kbx (rest_putObj W lr (.loop r')) n1, h.rec_.put n2 r', h.go⟩
theorem JT.setK (h : JT W1 tb kb lr Dd r tn k W) (k' : Nat) (n1 : kb ≠ lr) (n2 : kb ≠ Dd) (hg : tn = 0 → k' < 2) : JT W1 tb kb lr Dd r tn k' (W.setCell ⟨kb, 0, none⟩ (.int .i64 ((k' : Nat) : Int))) := by
  have hr := (Rest.refl (fun i => i = kb) W).setCell (S := fun i => i = kb) (p := ⟨kb, 0, none⟩) (fun _ => rfl) (.int .i64 ((k' : Nat) : Int))
  exact ⟨h.rest.trans hr (fun _ _ e => .inl e), Boxed.set _ h.kbx, h.rec_.rest hr (fun e => n1 e.symm) (fun e => n2 e.symm), hg⟩
theorem JT.setL (h : JT W1 tb kb lr Dd r tn k W) (k' : Nat) (n1 : kb ≠ lr) (n2 : kb ≠ Dd) : RecAt (W.setCell ⟨kb, 0, none⟩ (.int .i64 ((k' : Nat) : Int))) lr Dd r ∧ JL W1 kb lr k' (W.setCell ⟨kb, 0, none⟩ (.int .i64 ((k' : Nat) : Int))) := by
  have hr := (Rest.refl (fun i => i = kb) W).setCell (S := fun i => i = kb) (p := ⟨kb, 0, none⟩) (fun _ => rfl) (.int .i64 ((k' : Nat) : Int))
  exact ⟨h.rec_.rest hr (fun e => n1 e.symm) (fun e => n2 e.symm), h.rest.trans hr (fun _ _ e => .inl e), Boxed.set _ h.kbx⟩
theorem JL.put (h : JL W1 kb lr k W) (o : Obj) (n1 : kb ≠ lr) : JL W1 kb lr k (W.putObj lr o) :=
  ⟨h.rest.trans (rest_putObj W lr o) (fun _ _ e => .inr e), boxed_rest h.kbx (rest_putObj W lr o) n1⟩
theorem JT.toL (h : JT W1 tb kb lr Dd r tn k W) : JL W1 kb lr k W := ⟨h.rest, h.kbx⟩
end
end Go.Proofs.Ytgdjfifnnhfonaa
