/- Plain facts for the turns of SourceChunks: a piece's bytes, the number of pieces handed out before a loop is left. No conditions: plain facts on memory and numbers. -/
import Derived.Test.YtociidinfdbaeaaCb
import Derived.Sort.QuietIn
namespace Go.Proofs.Ytociidinfdbaeaa
open Go.RowKit Go.Shelf

theorem tail_src {W : World} {g cap t k : Nat} {B : List Nat} (h : Tail W g cap t B) (hk : t + k ≤ B.length) : SrcAt W (.slice (some ⟨g, t, none⟩) k k) ((B.drop t).take k) := by
  have hl : ((B.drop t).take k).length = k := by rw [List.length_take, List.length_drop]; omega
  refine .inr ⟨⟨g, t, none⟩, k, by rw [hl], h.lt, fun j u hu => ?_⟩
  have hj := (List.getElem?_eq_some_iff.1 hu).1
  rw [u8s_length, hl] at hj
  have hy : B[t + j]? = some B[t + j] := List.getElem?_eq_getElem (by omega)
  have hu' : u = .int .u8 ((B[t + j] : Nat)) := by
    have : (u8s ((B.drop t).take k))[j]? = some (.int .u8 ((B[t + j] : Nat))) := by
      simp [u8s, List.getElem?_take, hj, hy]
    rw [this] at hu
    exact (Option.some.inj hu).symm
  subst hu'
  have := (h.cell (j := t + j) (Nat.le_add_right _ _) hy).1
  by_cases h0 : j = 0
  · subst h0; simpa [Addr.add] using this
  · simpa [Addr.add, h0] using this

theorem brk_of {id : Nat} {Q : Exit → Go.Act → World → Prop} {fr : Go.Act} {W : World} (h : Q .normal fr W) : (Exit.inBlock id Q) (.exit id) fr W := by
  simp [Exit.inBlock, h]

/-- An operation that defers nothing is carried out in a round as everywhere. -/
theorem wpIn_inRound {F : Fence} {n l : Nat} {P : Program} {o : Oper} {a : Go.Act} {K : Go.Act → World → Prop} {Q : Exit → Go.Act → World → Prop} {w : World} (hd : ∀ c, o.op ≠ .defer c) (hro : F.round = none) (h : o.wpIn F n P a w K Q) : o.wpIn (F.inRound l) n P a w K Q := by
  refine ⟨h.1, ?_⟩
  have h2 := h.2
  rw [hro, Oper.semAt_eq _ _ _ hd] at h2
  rw [Fence.inRound_round, Oper.semAt_eq _ _ _ hd]
  generalize (execOp a.eval o).run P w = r at *
  cases r with
  | ok x w' => cases x <;> exact h2
  | halt x w' => exact h2

theorem wpOpIn_inRound {F : Fence} {n l : Nat} {P : Program} {ops : Array Oper} {i : Nat} {a : Go.Act} {K : Go.Act → World → Prop} {Q : Exit → Go.Act → World → Prop} {w : World} (hd : ∀ (i : Nat) (o : Oper) c, ops[i]? = some o → o.op ≠ .defer c) (hro : F.round = none) (h : wpOpIn F n P ops Q i K a w) : wpOpIn (F.inRound l) n P ops Q i K a w := by
  unfold wpOpIn at *
  cases ho : ops[i]? with
  | none => simpa [ho] using h
  | some o =>
    simp only [ho] at h ⊢
    split
    · rename_i hw
      simp only [hw, if_true] at h
      exact wpIn_inRound (fun c => hd i o c ho) hro h
    · rename_i hw
      simp only [hw] at h
      exact h

theorem wpAnyIn_inRound {F : Fence} {n l : Nat} {P : Program} {md : Region.Mode} {ops : Array Oper} {Q : Exit → Go.Act → World → Prop} (hd : ∀ (i : Nat) (o : Oper) c, ops[i]? = some o → o.op ≠ .defer c) (hro : F.round = none) : ∀ (fuel : Nat) (listed : Array Bool) (a : Go.Act) (w : World), wpAnyIn F n P md ops Q fuel listed a w → wpAnyIn (F.inRound l) n P md ops Q fuel listed a w
  | 0, _, _, _, h => h
  | fuel + 1, _, _, _, h => ⟨h.1, fun i hi => wpOpIn_mono (fun a' w' => wpAnyIn_inRound hd hro fuel _ a' w') (wpOpIn_inRound hd hro (h.2 i hi))⟩

/-- A quiet region in a round. -/
theorem region_quiet_round {F : Fence} {n lr : Nat} {P : Program} {id : Nat} {Q : Exit → Go.Act → World → Prop} {a : Go.Act} {w : World} {l : List Oper} (hro : F.round = none) (hm : P.follows .mixedOrders = true) (hB : Region.lexB .any l.toArray = true) (hd : l.all (fun o => match o.op with | .defer _ => false | _ => true) = true)
    (h : wpQuietIn F n P l.toArray (fun w' => ∃ n, w' = w.drewN n) (fun a' => ∀ w', (∃ n, w' = w.drewN n) → Q .normal a' w') l a) : (Code.region id l.toArray true).wpIn (F.inRound lr) n P Q a w := by
  have hd' : ∀ (i : Nat) (o : Oper) c, l.toArray[i]? = some o → o.op ≠ .defer c := by
    intro i o c ho hc
    have hm : o ∈ l := by
      have := List.mem_of_getElem? (by simpa using ho : l[i]? = some o)
      exact this
    have := List.all_eq_true.1 hd o hm
    rw [hc] at this
    exact Bool.noConfusion this
  simp only [Region.lexB, Bool.and_eq_true] at hB
  refine wpIn_region_any hm (wpAnyIn_inRound hd' hro _ _ _ _ (wpAnyIn_of_quiet (C := fun w' => ∃ n, w' = w.drewN n) (Q := fun a' => ∀ w', (∃ n, w' = w.drewN n) → Q .normal a' w') hro (fun _ w' hw' h => h w' hw') _ _ _ _ ⟨1, rfl⟩ ?_))
  have := wpAnyQIn_lex (F := F) (n := n) (C := fun w' => ∃ n, w' = w.drewN n) (md := .any) hB.1 l 0 (Array.replicate l.toArray.size false) a (by simp) (by simpa using hB.2) (by simpa using h)
  simpa using this

/-- What is left of a turn behind its loop. -/
structure RE (wn W : World) (tb kb D tn k : Nat) : Prop where
  bel : Below wn.heap.size wn W
  tbx : Boxed W tb 3 (.int .i64 tn)
  kbx : Boxed W kb 3 (.int .i64 k)
  dfr : W.heap[D]? = some (.deferred (some []))
  ord : wn.heap.size ≤ tb ∧ tb < kb ∧ kb < D

theorem RB.done {wn W : World} {tb kb ab D l : Nat} {r : Loop} {tn k t : Nat} (h : RB wn W tb kb ab D l r tn k t) (o : Obj) : RE wn (W.putObj l o) tb kb D tn k := by
  have ho := h.ord
  have hr := rest_putObj W l o
  exact ⟨h.bel.trans (hr.toBelow wn.heap.size (by have := h.lt; omega) (fun i hi e => by omega)), boxed_rest h.tbx hr (fun e => by omega), boxed_rest h.kbx hr (fun e => by omega), (hr.block D (Array.getElem?_eq_some_iff.1 h.rec_.dfr).1 (fun e => by omega)).trans h.rec_.dfr, by omega⟩

theorem add_at (g t j : Nat) : (⟨g, t, none⟩ : Addr).add j = ⟨g, t + j, none⟩ := by
  by_cases h0 : j = 0
  · subst h0; simp [Addr.add]
  · simp [Addr.add, h0]

/-- The loop of the first turn is not left before its k-th piece. -/
def Goes (many : Int) (k : Nat) : Prop := k = 0 ∨ (k : Int) < many

/-- How many pieces the first turn takes. -/
def endNum (pn : Nat) (many : Int) : Int := (if ((pn : Nat) : Int) ≤ (if (1 : Int) ≤ many then many else 1) then ((pn : Nat) : Int) else (if (1 : Int) ≤ many then many else 1))

theorem goes_end {many : Int} {k pn : Nat} (h : Goes many k) (hk : k = pn) : endNum pn many = ((k : Nat) : Int) := by
  subst hk
  unfold Goes at h
  unfold endNum
  split <;> split at * <;> omega

theorem goes_left {many : Int} {k pn : Nat} (h : Goes many k) (hk : k < pn) (hm : many ≤ ((k + 1 : Nat) : Int)) : endNum pn many = ((k + 1 : Nat) : Int) := by
  unfold Goes at h
  unfold endNum
  split <;> split at * <;> omega

/-- The first turn goes on. -/
def GoesT (many : Int) (tn k : Nat) : Prop := tn = 0 → Goes many k

theorem end_two {pn k : Nat} {many : Int} (h : endNum pn many = ((k : Nat) : Int)) : ∃ M : Int, (if (1 : Int) < many then many else 1) = M ∧ (if many < (1 : Int) then 1 else many) = M ∧ (if M < ((pn : Nat) : Int) then M else ((pn : Nat) : Int)) = ((k : Nat) : Int) := by
  unfold endNum at h
  refine ⟨if (1 : Int) < many then many else 1, rfl, ?_, ?_⟩
  · split <;> split <;> omega
  · rw [← h]
    by_cases h1 : (1 : Int) < many
    · rw [if_pos h1, if_pos (show (1 : Int) ≤ many by omega)]
      split <;> split <;> omega
    · rw [if_neg h1]
      by_cases h2 : (1 : Int) ≤ many
      · rw [if_pos h2]; split <;> split <;> omega
      · rw [if_neg h2]; split <;> split <;> omega

/-- A turn between two pieces. -/
def JN (many : Int) (m len : Nat) (wn : World) (tb kb D l : Nat) (r : Loop) (tn t : Nat) (W : World) : Prop :=
  ∃ k, NumAt k m t len ∧ GoesT many tn k ∧ RB wn W tb kb (kb + 1) D l r tn k t
/-- The first turn, left early. -/
def JX (pn : Nat) (many : Int) (wn : World) (tb kb D l : Nat) (r : Loop) (W : World) : Prop :=
  ∃ k t, RB wn W tb kb (kb + 1) D l r 0 k t ∧ endNum pn many = ((k : Nat) : Int)

/-- The statement, where leaving the loop early and coming to its end go on in one way. -/
theorem open_joined {n : Nat} {g : Operand} {ps : Array Tmp} {assign body : Code} {Q : Exit → Go.Act → World → Prop} {a : Go.Act} {w : World} (h1 : 1 ≤ n) {gf : Nat} {lb : Array Value} (hg : a.eval g = .func (.func gf) #[] lb) (eg : ∀ args w, (callFunc gf args).run Try.prog w = .ok (.enter gf args) w) (G : World → Prop) (c0 : Code)
    (h : ∀ W1 rr, (∃ fn, rr = recOf fn a.tmps ps assign body w.heap.size) → Below w.heap.size w W1 → W1.heap.size = w.heap.size + 2 → RecAt W1 (w.heap.size + 1) w.heap.size (rr .ready none) →
      CallsIn Fence.wide (n - 1) Try.prog gf (#[.func (.yield (w.heap.size + 1)) #[] #[]] ++ lb) W1 fun e W2 => (∃ v, e = .returned v) ∧
        ((RecAt W2 (w.heap.size + 1) w.heap.size (rr .ready none) ∧ ∀ o, G (W2.putObj (w.heap.size + 1) o)) ∨
          (RecAt W2 (w.heap.size + 1) w.heap.size (rr .done (some c0)) ∧ ∀ o, G (W2.putObj (w.heap.size + 1) o))))
    (hq : ∀ fr W, Q .normal fr W → c0.wpIn Fence.wide n Try.prog Q fr W)
    (hn : ∀ W, G W → Q .normal { a with defers := { target := .collected w.heap.size, args := #[] } :: a.defers } W) :
    (Code.rangeFunc g ps assign body).wpIn Fence.wide n Try.prog Q a w := by
  refine named_open h1 hg eg (fun fn W1 rr hrr hb hs hR => (h W1 rr ⟨fn, hrr⟩ hb hs hR).mono ?_)
  rintro e W2 ⟨hv, (⟨h2, h3⟩ | ⟨h2, h3⟩)⟩
  · exact ⟨hv, .inl ⟨h2, fun o => hn _ (h3 o)⟩⟩
  · exact ⟨hv, .inr ⟨c0, h2, fun o => hq _ _ (hn _ (h3 o))⟩⟩
end Go.Proofs.Ytociidinfdbaeaa
