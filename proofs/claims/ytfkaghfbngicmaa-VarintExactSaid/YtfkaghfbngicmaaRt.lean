/- A region in whatever order whose last operation is a call that ends in a panic. No conditions beyond those named. -/
import Derived.Test.YtfkaghfbngicmaaRp
namespace Go.Proofs.Ytfkaghfbngicmaa
open Go.RowKit

section
variable {P : Program} {ops : Array Oper} {Q : Exit → Act → World → Prop}
theorem wpOp_fall {i : Nat} {o : Oper} {K : Act → World → Prop} {a : Act} {w : World} {f : FuncId} {args : Array Value} (ho : ops[i]? = some o) (hg : o.guard = none) (h : (execOp a.eval o).run P w = .ok (.enter f args) w) (hc : Calls P f args w fun e w' => ∃ ch, e = .panicked ch ∧ Q (.panic ch) a w') : wpOp P ops Q i K a w := by
  unfold wpOp
  rw [ho]
  simp only [Region.wanted, hg, if_true]
  refine .inl ?_
  unfold Oper.wp
  rw [h, Oper.upon_enter]
  refine hc.mono fun e w' ⟨ch, he, hr⟩ => ?_
  subst he
  exact hr

/-- A frame as it was, but for some slots. -/
structure FrF (ds : List Nat) (a0 a : Act) : Prop where
  size : a.tmps.size = a0.tmps.size
  df : a.defers = a0.defers
  low : ∀ j, j ∉ ds → a.tmps[j]? = a0.tmps[j]?
structure FallI (n : Nat) (ops : Array Oper) (a0 : Act) (W0 : World) (ds : List Nat) (vs : Nat → Value) (l : Array Bool) (a : Act) (w : World) : Prop where
  sz : l.size = ops.size
  fr : FrF ds a0 a
  nl : l.getD n false = false
  bw : Below W0.heap.size W0 w
  got : ∀ (i d : Nat), l.getD i false = true → ds[i]? = some d → a.tmps[d]? = some (vs i)

theorem fput (a : Act) (d : Nat) (v : Value) (i : Nat) : (a.put (some d) v).tmps[i]? = if d = i then (if d < a.tmps.size then some v else none) else a.tmps[i]? := Array.getElem?_setIfInBounds
theorem fset {l : Array Bool} {i j : Nat} (h : i < l.size) : (l.setIfInBounds i true).getD j false = if i = j then true else l.getD j false := by
  rw [Array.getD_eq_getD_getElem?, Array.getElem?_setIfInBounds, Array.getD_eq_getD_getElem?]
  by_cases e : i = j
  · rw [if_pos e, if_pos e, if_pos h]; rfl
  · rw [if_neg e, if_neg e]
theorem FallI.put {n : Nat} {a0 : Act} {W0 : World} {ds : List Nat} {vs : Nat → Value} {l : Array Bool} {a : Act} {w : World} (h : FallI n ops a0 W0 ds vs l a w) {i d : Nat} (hi : i < ops.size) (hin : i ≠ n) (hd : ds[i]? = some d) (hnd : ∀ i, i < ds.length → ∀ j, j < ds.length → ds[i]? = ds[j]? → i = j) (hlt : ∀ d ∈ ds, d < a0.tmps.size) {w' : World} (hb : Below w.heap.size w w') : FallI n ops a0 W0 ds vs (l.setIfInBounds i true) (a.put (some d) (vs i)) w' := by
  have hdm : d ∈ ds := List.mem_of_getElem? hd
  have hl : i < l.size := by rw [h.sz]; exact hi
  refine ⟨by simpa using h.sz, ⟨by rw [show (a.put (some d) (vs i)).tmps.size = a.tmps.size from Array.size_setIfInBounds]; exact h.fr.size, h.fr.df, fun j hj => by rw [fput, if_neg (fun e => by subst e; exact hj hdm)]; exact h.fr.low j hj⟩, by rw [fset hl, if_neg hin]; exact h.nl, h.bw.trans (hb.mono h.bw.size), fun j e hj he => ?_⟩
  rw [fset hl] at hj
  rw [fput]
  by_cases hij : i = j
  · subst hij
    rw [hd] at he
    cases he
    rw [if_pos rfl, if_pos (by rw [h.fr.size]; exact hlt d hdm)]
  · rw [if_neg hij] at hj
    have hne : d ≠ e := fun hde => by
      subst hde
      exact hij (hnd i (List.getElem?_eq_some_iff.1 hd).1 j (List.getElem?_eq_some_iff.1 he).1 (hd.trans he.symm))
    rw [if_neg hne]
    exact h.got j e hj he

theorem fall_region {id : Nat} {a0 : Act} {W0 : World} (n : Nat) (ds : List Nat) (vs : Nat → Value) (hsz : ops.size = n + 1) (hds : ds.length = n) (hnd : ∀ i, i < ds.length → ∀ j, j < ds.length → ds[i]? = ds[j]? → i = j) (hlt : ∀ d ∈ ds, d < a0.tmps.size) (hm : P.follows .mixedOrders = true)
    (ht : ∀ (i : Nat) (o : Oper), ops[i]? = some o → ∀ e ∈ o.after, e.on < i)
    (hstep : ∀ (i : Nat) (o : Oper) (d : Nat), ops[i]? = some o → ds[i]? = some d → o.guard = none ∧ o.dst = some d ∧ ∀ a w, FrF ds a0 a → Below W0.heap.size W0 w → (∀ e ∈ o.after, Region.binds .any e = true → ∀ d', ds[e.on]? = some d' → a.tmps[d']? = some (vs e.on)) →
      (execOp a.eval o).run P w = .ok (.value (vs i)) w ∨ ∃ f args, (execOp a.eval o).run P w = .ok (.enter f args) w ∧ Calls P f args w fun e w' => e = .returned (vs i) ∧ Below w.heap.size w w')
    (hlast : ∀ o, ops[n]? = some o → o.guard = none ∧ ∀ a w, FrF ds a0 a → Below W0.heap.size W0 w → (∀ e ∈ o.after, Region.binds .any e = true → ∀ d', ds[e.on]? = some d' → a.tmps[d']? = some (vs e.on)) →
      ∃ f args, (execOp a.eval o).run P w = .ok (.enter f args) w ∧ Calls P f args w fun e w' => ∃ ch, e = .panicked ch ∧ ∀ a', a'.defers = a0.defers → Q (.panic ch) a' w') :
    (Code.region id ops true).wp P Q a0 W0 := by
  refine wp_region_inv (FallI n ops a0 W0 ds vs) hm (fun l a w h => h.sz) ?_ ?_ ?_
  · refine ⟨by simp, ⟨rfl, rfl, fun _ _ => rfl⟩, by rw [Array.getD_eq_getD_getElem?]; simp [hsz], ⟨rfl, rfl, rfl, Nat.le_refl _, fun _ _ => rfl⟩, fun i d h => ?_⟩
    rw [Array.getD_eq_getD_getElem?, Array.getElem?_replicate] at h
    split at h <;> simp at h
  · intro l a w i h hi
    obtain ⟨h1, h2, h3⟩ := ready_get hi
    have ho : ops[i]? = some ops[i] := Array.getElem?_eq_getElem h1
    have haft : ∀ e ∈ ops[i].after, Region.binds .any e = true → ∀ d', ds[e.on]? = some d' → a.tmps[d']? = some (vs e.on) := fun e he hb d' hd' => h.got _ _ (h3 _ ho e he hb) hd'
    by_cases hin : i = n
    · subst hin
      obtain ⟨hg, hl⟩ := hlast _ ho
      obtain ⟨f, args, hr, hc⟩ := hl a w h.fr h.bw haft
      exact wpOp_fall ho hg hr (hc.mono fun e w' ⟨ch, he, hq⟩ => ⟨ch, he, hq a h.fr.df⟩)
    · have hlt2 : i < ds.length := by omega
      have hd : ds[i]? = some ds[i] := List.getElem?_eq_getElem hlt2
      obtain ⟨hg, hdst, hs⟩ := hstep i _ _ ho hd
      rcases hs a w h.fr h.bw haft with hr | ⟨f, args, hr, hc⟩
      · refine wpOp_val ho hg hr ?_
        rw [hdst]
        exact h.put h1 hin hd hnd hlt (Below.refl _ _)
      · refine wpOp_call (R := fun v w' => v = vs i ∧ Below w.heap.size w w') ho hg hr (hc.mono fun e w' ⟨he, hb⟩ => ⟨_, he, rfl, hb⟩) (fun v w' hv => ?_)
        obtain ⟨rfl, hb⟩ := hv
        rw [hdst]
        exact h.put h1 hin hd hnd hlt hb
  · intro l a w h hn
    have := ready_nil hn h.sz ht n (by omega)
    rw [h.nl] at this
    cases this
end
end Go.Proofs.Ytfkaghfbngicmaa
