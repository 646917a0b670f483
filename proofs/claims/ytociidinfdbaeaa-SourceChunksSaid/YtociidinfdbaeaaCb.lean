/- Boxes, the loop's record and a piece's row beside each other, and the number of pieces. No conditions: plain facts on memory and numbers. -/
import Derived.Test.YtociidinfdbaeaaCk
import Derived.Deep.CutRange
namespace Go.Proofs.Ytociidinfdbaeaa
open Go.RowKit Go.Shelf

theorem rest_putObj (W : World) (l : Nat) (o : Obj) : Rest (fun i => i = l) W (W.putObj l o) :=
  (Rest.refl (fun i => i = l) W).grown (grownBy_putObj' W l o) (fun k e _ => by cases e; rfl)

theorem boxed_rest {W W' : World} {S : Nat → Prop} {b t : Nat} {v : Value} (h : Boxed W b t v) (hr : Rest S W W') (hs : ¬ S b) : Boxed W' b t v := (hr.block b h.lt hs).trans h

section
variable {n : Nat}
/-- A round, with the record's other parts under one name. -/
theorem named_round {fn : FuncId} {tmps : Array Value} {ps : Array Tmp} {assign body : Code} {l D : Nat} {rr : LoopState → Option Code → Loop} (hrr : rr = recOf fn tmps ps assign body D) {x : Array Value} {W : World} (hR : RecAt W l D (rr .ready none)) (hps : x.size = ps.size) {R : Ending → World → Prop} (a₁ : Go.Act)
    (hassign : ∀ K : Go.Act → World → Prop, K a₁ W → assign.wpIn (Fence.wide.inRound l) n Try.prog (Exit.then K (fun _ _ _ => False)) { tmps := (ps.zip x).foldl (fun t (p, v) => t.setIfInBounds p v) tmps, defers := [] } W)
    (hbody : ∀ W2, W2 = W.putObj l (.loop (rr .busy none)) → body.wpIn (Fence.wide.inRound l) n Try.prog
      (fun e _ W3 => match e with
        | .normal => RecAt W3 l D (rr .busy none) ∧ R (.returned (.bool true)) (W3.putObj l (.loop (rr .ready none)))
        | .ret => RecAt W3 l D (rr .busy none) ∧ R (.returned (.bool false)) (W3.putObj l (.loop (rr .done (some .ret))))
        | .exit id => RecAt W3 l D (rr .busy none) ∧ R (.returned (.bool false)) (W3.putObj l (.loop (rr .done (some (.exit id)))))
        | .goto t => RecAt W3 l D (rr .busy none) ∧ R (.returned (.bool false)) (W3.putObj l (.loop (rr .done (some (.goto t)))))
        | .panic _ => False
        | .outgrown => False) a₁ W2) :
    YieldAt Fence.wide n Try.prog l x W R := by
  subst hrr
  exact range_round hR hps a₁ hassign hbody

/-- The statement, with the record's other parts under one name. -/
theorem named_open {g : Operand} {ps : Array Tmp} {assign body : Code} {Q : Exit → Go.Act → World → Prop} {a : Go.Act} {w : World} (h1 : 1 ≤ n) {gf : Nat} {lb : Array Value} (hg : a.eval g = .func (.func gf) #[] lb) (eg : ∀ args w, (callFunc gf args).run Try.prog w = .ok (.enter gf args) w)
    (h : ∀ fn W1 rr, rr = recOf fn a.tmps ps assign body w.heap.size → Below w.heap.size w W1 → W1.heap.size = w.heap.size + 2 → RecAt W1 (w.heap.size + 1) w.heap.size (rr .ready none) →
      CallsIn Fence.wide (n - 1) Try.prog gf (#[.func (.yield (w.heap.size + 1)) #[] #[]] ++ lb) W1 fun e W2 => (∃ v, e = .returned v) ∧
        ((RecAt W2 (w.heap.size + 1) w.heap.size (rr .ready none) ∧ ∀ o, Q .normal { a with defers := { target := .collected w.heap.size, args := #[] } :: a.defers } (W2.putObj (w.heap.size + 1) o)) ∨
          ∃ c, RecAt W2 (w.heap.size + 1) w.heap.size (rr .done (some c)) ∧ ∀ o, c.wpIn Fence.wide n Try.prog Q { a with defers := { target := .collected w.heap.size, args := #[] } :: a.defers } (W2.putObj (w.heap.size + 1) o))) :
    (Code.rangeFunc g ps assign body).wpIn Fence.wide n Try.prog Q a w :=
  range_open h1 hg eg (fun fn W1 hb hs hR => h fn W1 _ rfl hb hs hR)
end

/-- How many pieces of at most m bytes len bytes have. -/
def numP (m len : Nat) : Nat := (len + m - 1) / m

/-- Behind k pieces, t bytes are taken. -/
structure NumAt (k m t len : Nat) : Prop where
  pos : 1 ≤ m
  le : t ≤ len
  up : t ≤ k * m
  dn : k * m < t + m
  eq : t < len → t = k * m

theorem numAt_zero (m len : Nat) (hm : 1 ≤ m) : NumAt 0 m 0 len := ⟨hm, Nat.zero_le _, Nat.zero_le _, by omega, fun _ => by omega⟩
theorem NumAt.lt {k m t len : Nat} (h : NumAt k m t len) (ht : t < len) : k < numP m len := by
  have he := h.eq ht
  have hp := h.pos
  unfold numP
  rw [Nat.lt_iff_add_one_le, Nat.le_div_iff_mul_le (by omega), Nat.add_mul]
  omega
theorem NumAt.full {k m len : Nat} (h : NumAt k m len len) : k = numP m len := by
  have hp := h.pos
  have h1 := h.up
  have h2 := h.dn
  unfold numP
  symm
  rw [Nat.div_eq_iff (by omega)]
  omega
theorem NumAt.next {k m t len : Nat} (h : NumAt k m t len) (ht : t < len) {j : Nat} (hj : j = min m (len - t)) : NumAt (k + 1) m (t + j) len := by
  have he := h.eq ht
  have hp := h.pos
  have hm : (k + 1) * m = k * m + m := by rw [Nat.add_mul]; omega
  refine ⟨hp, by omega, by omega, by omega, fun hl => by omega⟩
theorem NumAt.small {k m t len : Nat} (h : NumAt k m t len) : k ≤ t := by
  have h2 := h.dn
  have hp := h.pos
  by_cases hk : k = 0
  · omega
  · obtain ⟨j, rfl⟩ := Nat.exists_eq_succ_of_ne_zero hk
    have hm : (j + 1) * m = j * m + m := by rw [Nat.add_mul]; omega
    have : j ≤ j * m := Nat.le_mul_of_pos_right j hp
    simp only [Nat.succ_eq_add_one] at *
    omega

theorem numP_zero (m : Nat) (h : 1 ≤ m) : numP m 0 = 0 := by
  unfold numP
  exact Nat.div_eq_of_lt (by omega)
theorem numP_pos (m len : Nat) (h : 1 ≤ m) (hl : 1 ≤ len) : numP m len = 1 + (len - 1) / m := by
  unfold numP
  rw [show len + m - 1 = len - 1 + m by omega, Nat.add_div_right _ (by omega)]
  omega

/-- A round's memory: what was there at the start, the boxes of the turn, of the number of pieces and of the place, and the loop's record. -/
structure RB (wn W : World) (tb kb ab D l : Nat) (r : Loop) (tn k t : Nat) : Prop where
  bel : Below wn.heap.size wn W
  tbx : Boxed W tb 3 (.int .i64 tn)
  kbx : Boxed W kb 3 (.int .i64 k)
  abx : Boxed W ab 3 (.int .i64 t)
  rec_ : RecAt W l D r
  ord : wn.heap.size ≤ tb ∧ tb < kb ∧ kb < ab ∧ ab < D ∧ D < l

section
variable {wn W W' : World} {tb kb ab D l : Nat} {r : Loop} {tn k t : Nat}
theorem RB.lt (h : RB wn W tb kb ab D l r tn k t) : l < W.heap.size := (Array.getElem?_eq_some_iff.1 h.rec_.rec_).1
theorem RB.rest {S : Nat → Prop} (h : RB wn W tb kb ab D l r tn k t) (hr : Rest S W W') (hS : ∀ i, S i → l < i) : RB wn W' tb kb ab D l r tn k t := by
  have ho := h.ord
  have hl := h.lt
  exact ⟨h.bel.trans (hr.toBelow wn.heap.size (by omega) (fun i hi e => by have := hS i e; omega)), boxed_rest h.tbx hr (fun e => by have := hS _ e; omega), boxed_rest h.kbx hr (fun e => by have := hS _ e; omega), boxed_rest h.abx hr (fun e => by have := hS _ e; omega), h.rec_.rest hr (fun e => by have := hS _ e; omega) (fun e => by have := hS _ e; omega), ho⟩
theorem RB.later (h : RB wn W tb kb ab D l r tn k t) {n : Nat} (hb : Below n W W') (hn : l < n) : RB wn W' tb kb ab D l r tn k t := by
  have ho := h.ord
  exact ⟨h.bel.trans (hb.mono (by omega)), boxed_below h.tbx hb (by omega), boxed_below h.kbx hb (by omega), boxed_below h.abx hb (by omega), h.rec_.below hb hn (by omega), ho⟩
theorem RB.setAb (h : RB wn W tb kb ab D l r tn k t) (t' : Nat) : RB wn (W.setCell ⟨ab, 0, none⟩ (.int .i64 t')) tb kb ab D l r tn k t' := by
  have ho := h.ord
  exact ⟨h.bel.setCell (p := ⟨ab, 0, none⟩) (by show wn.heap.size ≤ ab; omega) _, h.tbx.other (by omega) _, h.kbx.other (by omega) _, h.abx.set _, h.rec_.rest ((Rest.refl (fun i => i = ab) W).setCell (p := ⟨ab, 0, none⟩) (fun _ => rfl) _) (fun e => by omega) (fun e => by omega), ho⟩
theorem RB.setKb (h : RB wn W tb kb ab D l r tn k t) (k' : Nat) : RB wn (W.setCell ⟨kb, 0, none⟩ (.int .i64 k')) tb kb ab D l r tn k' t := by
  have ho := h.ord
  exact ⟨h.bel.setCell (p := ⟨kb, 0, none⟩) (by show wn.heap.size ≤ kb; omega) _, h.tbx.other (by omega) _, h.kbx.set _, h.abx.other (by omega) _, h.rec_.rest ((Rest.refl (fun i => i = kb) W).setCell (p := ⟨kb, 0, none⟩) (fun _ => rfl) _) (fun e => by omega) (fun e => by omega), ho⟩
theorem RB.put (h : RB wn W tb kb ab D l r tn k t) (r' : Loop) : RB wn (W.putObj l (.loop r')) tb kb ab D l r' tn k t := by
  have ho := h.ord
  have hr := rest_putObj W l (.loop r')
  exact ⟨h.bel.trans (hr.toBelow wn.heap.size (by have := h.lt; omega) (fun i hi e => by omega)), boxed_rest h.tbx hr (fun e => by omega), boxed_rest h.kbx hr (fun e => by omega), boxed_rest h.abx hr (fun e => by omega), h.rec_.put (by omega) r', ho⟩
end

/-- A round with its piece: the iterator's own variable, and the bytes from s on. -/
structure RQ (wn W : World) (tb kb ab D l : Nat) (r : Loop) (tn k t b g cap s : Nat) (v : Value) (B : List Nat) : Prop where
  rb : RB wn W tb kb ab D l r tn k t
  box : W.heap[b]? = some (.cells #[v] 55 (0, 0))
  tail : Tail W g cap s B
  far : l < b ∧ l < g ∧ g ≠ b

section
variable {wn W W' : World} {tb kb ab D l : Nat} {r : Loop} {tn k t b g cap s : Nat} {v : Value} {B : List Nat}
theorem RQ.below (h : RQ wn W tb kb ab D l r tn k t b g cap s v B) (hb : Below W.heap.size W W') : RQ wn W' tb kb ab D l r tn k t b g cap s v B :=
  ⟨h.rb.later hb h.rb.lt, (hb.block b (Array.getElem?_eq_some_iff.1 h.box).1).trans h.box, h.tail.rest (S := fun _ => False) (Rest.below hb) (fun e => e), h.far⟩
theorem RQ.setAb (h : RQ wn W tb kb ab D l r tn k t b g cap s v B) (t' : Nat) : RQ wn (W.setCell ⟨ab, 0, none⟩ (.int .i64 t')) tb kb ab D l r tn k t' b g cap s v B := by
  have ho := h.rb.ord
  have hf := h.far
  have hr := (Rest.refl (fun i => i = ab) W).setCell (p := ⟨ab, 0, none⟩) (fun _ => rfl) (.int .i64 t')
  exact ⟨h.rb.setAb t', (hr.block b (Array.getElem?_eq_some_iff.1 h.box).1 (fun e => by omega)).trans h.box, h.tail.rest hr (fun e => by omega), hf⟩
theorem RQ.setKb (h : RQ wn W tb kb ab D l r tn k t b g cap s v B) (k' : Nat) : RQ wn (W.setCell ⟨kb, 0, none⟩ (.int .i64 k')) tb kb ab D l r tn k' t b g cap s v B := by
  have ho := h.rb.ord
  have hf := h.far
  have hr := (Rest.refl (fun i => i = kb) W).setCell (p := ⟨kb, 0, none⟩) (fun _ => rfl) (.int .i64 k')
  exact ⟨h.rb.setKb k', (hr.block b (Array.getElem?_eq_some_iff.1 h.box).1 (fun e => by omega)).trans h.box, h.tail.rest hr (fun e => by omega), hf⟩
theorem RQ.put (h : RQ wn W tb kb ab D l r tn k t b g cap s v B) (r' : Loop) : RQ wn (W.putObj l (.loop r')) tb kb ab D l r' tn k t b g cap s v B := by
  have hf := h.far
  have hr := rest_putObj W l (.loop r')
  exact ⟨h.rb.put r', (hr.block b (Array.getElem?_eq_some_iff.1 h.box).1 (fun e => by omega)).trans h.box, h.tail.rest hr (fun e => by omega), hf⟩
theorem RQ.write (h : RQ wn W tb kb ab D l r tn k t b g cap s v B) (u : Value) : RQ wn (W.setCell ⟨g, s, none⟩ u) tb kb ab D l r tn k t b g cap (s + 1) v B := by
  have hf := h.far
  have hr := (Rest.refl (fun i => i = g) W).setCell (p := ⟨g, s, none⟩) (fun _ => rfl) u
  exact ⟨h.rb.rest hr (fun i e => by omega), (hr.block b (Array.getElem?_eq_some_iff.1 h.box).1 (fun e => hf.2.2 e.symm)).trans h.box, (h.tail.later (Nat.le_succ s)).write (Nat.lt_succ_self s) u, hf⟩
end

/-- What stays through both turns: the boxes of the size, of the number, of the result, of all bytes and of the right number of pieces, and these bytes. -/
structure CM (W : World) (bz bm br ba bp : Nat) (size many : Int) (A : Option Addr) (len cA pn : Nat) (B : List Nat) : Prop where
  z : Boxed W bz 3 (.int .i64 size)
  m : Boxed W bm 3 (.int .i64 many)
  r : Boxed W br 4 (.bool false)
  a : Boxed W ba 29 (.slice A len cA)
  p : Boxed W bp 3 (.int .i64 pn)
  src : SrcAt W (.slice A len cA) B

theorem CM.later {W W1 : World} {bz bm br ba bp : Nat} {size many : Int} {A : Option Addr} {len cA pn : Nat} {B : List Nat} (h : CM W bz bm br ba bp size many A len cA pn B) (hb : Below W.heap.size W W1) : CM W1 bz bm br ba bp size many A len cA pn B :=
  ⟨boxed_below h.z hb h.z.lt, boxed_below h.m hb h.m.lt, boxed_below h.r hb h.r.lt, boxed_below h.a hb h.a.lt, boxed_below h.p hb h.p.lt, h.src.below hb h.src.lt⟩
end Go.Proofs.Ytociidinfdbaeaa
