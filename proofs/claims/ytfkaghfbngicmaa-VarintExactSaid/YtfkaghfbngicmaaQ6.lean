/- The memory of VarintForms. No conditions: plain facts on memory. -/
import Derived.Test.YtfkaghfbngicmaaQz
import Derived.Test.YtfkaghfbngicmaaQo
import Derived.Test.YtfkaghfbngicmaaQ1
import Derived.Sort.CutIn
namespace Go.Proofs.Ytfkaghfbngicmaa
open Go.RowKit Go.Shelf

theorem equalIn_func_nilQ {P : Program} (w : World) (d : Nat) (t : TypeId) (f : Fn) (fi ca : Array Value) (h : ∃ ps rs v, P.underlying t = some (.func ps rs v)) :
    (Op.equalIn (d + 1) t (.func f fi ca) .nilFunc).run P w = .ok false w := by
  obtain ⟨ps, rs, v, h⟩ := h
  simp [Op.equalIn, run_underlying h]
theorem eqlSeqQ (w : World) (f : Fn) (fi ca : Array Value) : (binOp .eql 38 (.func f fi ca) .nilFunc).run Try.prog w = .ok (.bool false) w := by
  simp only [binOp]
  simp [Op.equal, Op.maxDepth, equalIn_func_nilQ w 9999 38 f fi ca ⟨_, _, _, Try.underlying38⟩]

/-- The bound, the result, the integer. -/
structure VS (W : World) (b : Nat) (v many : Int) : Prop where
  mb : Boxed W b 3 (.int .i64 many)
  rb : Boxed W (b + 1) 4 (.bool false)
  vb : Boxed W (b + 2) 3 (.int .i64 v)
theorem VS.later {W W' : World} {b : Nat} {v many : Int} (h : VS W b v many) (hb : Below W.heap.size W W') : VS W' b v many :=
  ⟨boxed_below h.mb hb h.mb.lt, boxed_below h.rb hb h.rb.lt, boxed_below h.vb hb h.vb.lt⟩
/-- Beside them the wanted forms. -/
structure VT (W : World) (b wb : Nat) (v many : Int) (base gs cs : Nat) (L : List (List Nat)) (vs : List Value) : Prop where
  s : VS W b v many
  wbx : Boxed W wb 40 (.slice (some ⟨gs, 0, none⟩) L.length cs)
  ll : LL W base (.slice (some ⟨gs, 0, none⟩) L.length cs) L vs
theorem VT.later {W W' : World} {b wb : Nat} {v many : Int} {base gs cs : Nat} {L : List (List Nat)} {vs : List Value} (h : VT W b wb v many base gs cs L vs) (hb : Below W.heap.size W W') : VT W' b wb v many base gs cs L vs :=
  ⟨h.s.later hb, boxed_below h.wbx hb h.wbx.lt, h.ll.below hb⟩
/-- Beside them a slice of that length: no forms. -/
structure VTB (W : World) (b wb : Nat) (v many : Int) (A : Option Addr) (pn C : Nat) : Prop where
  s : VS W b v many
  wbx : Boxed W wb 40 (.slice A pn C)
theorem VTB.later {W W' : World} {b wb : Nat} {v many : Int} {A : Option Addr} {pn C : Nat} (h : VTB W b wb v many A pn C) (hb : Below W.heap.size W W') : VTB W' b wb v many A pn C :=
  ⟨h.s.later hb, boxed_below h.wbx hb h.wbx.lt⟩

/-- Between two forms: how many there were, which turn it is. -/
structure VJ (w0 W : World) (tb nb lr Dd : Nat) (r : Loop) (t : Int) (k : Nat) : Prop where
  bel : Below w0.heap.size w0 W
  kbx : Boxed W nb 3 (.int .i64 ((k : Nat) : Int))
  tbx : Boxed W tb 3 (.int .i64 t)
  rec_ : RecAt W lr Dd r
  o1 : w0.heap.size = tb
  o2 : tb < nb
  o3 : nb < Dd
  o4 : Dd < lr
section
variable {w0 W W' : World} {tb nb lr Dd : Nat} {r : Loop} {t : Int} {k : Nat}
theorem VJ.lt (h : VJ w0 W tb nb lr Dd r t k) : lr < W.heap.size := (Array.getElem?_eq_some_iff.1 h.rec_.rec_).1
theorem VJ.rest {S : Nat → Prop} (h : VJ w0 W tb nb lr Dd r t k) (hr : Rest S W W') (hS : ∀ i, i ≤ lr → ¬ S i) : VJ w0 W' tb nb lr Dd r t k := by
  have h1 := h.o1
  have h2 := h.o2
  have h3 := h.o3
  have h4 := h.o4
  have hl := h.lt
  exact ⟨h.bel.trans (hr.toBelow w0.heap.size (by omega) (fun i hi => hS i (by omega))), boxed_rest h.kbx hr (hS _ (by omega)), boxed_rest h.tbx hr (hS _ (by omega)), h.rec_.rest hr (hS _ (Nat.le_refl _)) (hS _ (by omega)), h1, h2, h3, h4⟩
theorem VJ.later (h : VJ w0 W tb nb lr Dd r t k) (hb : Below W.heap.size W W') : VJ w0 W' tb nb lr Dd r t k :=
  h.rest (S := fun _ => False) (Rest.below hb) (fun _ _ e => e)
theorem VJ.setG (h : VJ w0 W tb nb lr Dd r t k) (g j : Nat) (u : Value) (hg : lr < g) : VJ w0 (W.setCell ⟨g, j, none⟩ u) tb nb lr Dd r t k :=
  h.rest (S := fun i => i = g) ((Rest.refl (fun i => i = g) W).setCell (S := fun i => i = g) (p := ⟨g, j, none⟩) (fun _ => rfl) _) (fun i hi e => by omega)
theorem VJ.put (h : VJ w0 W tb nb lr Dd r t k) (r' : Loop) : VJ w0 (W.putObj lr (.loop r')) tb nb lr Dd r' t k := by
  have h1 := h.o1
  have h2 := h.o2
  have h3 := h.o3
  have h4 := h.o4
  have hl := h.lt
  exact ⟨h.bel.trans ((rest_putObj W lr (.loop r')).toBelow w0.heap.size (by omega) (fun i hi e => by omega)), boxed_put h.kbx _ (by omega), boxed_put h.tbx _ (by omega), h.rec_.put (by omega) r', h1, h2, h3, h4⟩
theorem VJ.setK (h : VJ w0 W tb nb lr Dd r t k) (k' : Nat) : VJ w0 (W.setCell ⟨nb, 0, none⟩ (.int .i64 ((k' : Nat) : Int))) tb nb lr Dd r t k' := by
  have h1 := h.o1
  have h2 := h.o2
  have h3 := h.o3
  have h4 := h.o4
  exact ⟨h.bel.setCell (p := ⟨nb, 0, none⟩) (show w0.heap.size ≤ nb by omega) _, Boxed.set _ h.kbx, boxed_setQ h.tbx _ _ _ (by omega), h.rec_.rest (S := fun i => i = nb) ((Rest.refl (fun i => i = nb) W).setCell (S := fun i => i = nb) (p := ⟨nb, 0, none⟩) (fun _ => rfl) _) (by omega) (by omega), h1, h2, h3, h4⟩
/-- Behind the forms. -/
structure VG (w0 : World) (tb nb Dd : Nat) (t : Int) (k : Nat) (W : World) : Prop where
  bel : Below w0.heap.size w0 W
  kbx : Boxed W nb 3 (.int .i64 ((k : Nat) : Int))
  tbx : Boxed W tb 3 (.int .i64 t)
  dfr : W.heap[Dd]? = some (.deferred (some []))
theorem VJ.go (h : VJ w0 W tb nb lr Dd r t k) (o : Obj) : VG w0 tb nb Dd t k (W.putObj lr o) := by
  have h1 := h.o1
  have h2 := h.o2
  have h3 := h.o3
  have h4 := h.o4
  have hl := h.lt
  exact ⟨h.bel.trans ((rest_putObj W lr o).toBelow w0.heap.size (by omega) (fun i hi e => by omega)), boxed_put h.kbx _ (by omega), boxed_put h.tbx _ (by omega), (World.putObj_heap_other (by omega)).trans h.rec_.dfr⟩
end

theorem room_of_heap {W : World} {g : Nat} {D : List Nat} (h : W.heap[g]? = some (.cells (u8s D).toArray 5 (0, 0))) : Room W g D := by
  refine ⟨fun j hj => ?_, fun j hj => by simp [World.frozen?, h], (Array.getElem?_eq_some_iff.1 h).1⟩
  simp [World.cell?, h, u8s, hj]

theorem end_twoQ {pn k : Nat} {many : Int} (h : min ((pn : Nat) : Int) (max 1 many) = ((k : Nat) : Int)) : ∃ M : Int, (if (1 : Int) < many then many else 1) = M ∧ (if many < (1 : Int) then 1 else many) = M ∧ (if M < ((pn : Nat) : Int) then M else ((pn : Nat) : Int)) = ((k : Nat) : Int) := by
  refine ⟨max 1 many, ?_, ?_, ?_⟩
  · split <;> omega
  · split <;> omega
  · split <;> omega
end Go.Proofs.Ytfkaghfbngicmaa
