/- A region of two loads, two calls, two new variables and two stores, in whatever order. No conditions beyond those named. -/
import Derived.Test.YtfkaghfbngicmaaM
import Derived.Orders
namespace Go.Proofs.Ytfkaghfbngicmaa
open Go.RowKit

section
variable {P : Program} {ops : Array Oper} {Q : Exit → Act → World → Prop} {md : Region.Mode}

theorem ready_get {l : Array Bool} {i : Nat} (h : i ∈ Region.ready md ops l) : i < ops.size ∧ l.getD i true = false ∧ ∀ o, ops[i]? = some o → ∀ e ∈ o.after, Region.binds md e = true → l.getD e.on false = true := by
  unfold Region.ready at h
  rw [List.mem_filter, List.mem_range] at h
  obtain ⟨h1, h2⟩ := h
  rw [Bool.and_eq_true] at h2
  obtain ⟨h3, h4⟩ := h2
  refine ⟨h1, by simpa using h3, fun o ho e he hb => ?_⟩
  rw [ho] at h4
  simp only [Option.map_some, Option.getD_some, Array.all_eq_true_iff_forall_mem] at h4
  have := h4 e he
  rw [hb] at this
  simpa using this

theorem ready_nil {l : Array Bool} (hn : Region.ready md ops l = []) (hl : l.size = ops.size) (ht : ∀ (i : Nat) (o : Oper), ops[i]? = some o → ∀ e ∈ o.after, e.on < i) : ∀ i, i < ops.size → l.getD i false = true := by
  intro i
  induction i using Nat.strongRecOn with
  | _ i ih =>
    intro hi
    by_cases hc : l.getD i false = true
    · exact hc
    · exfalso
      have hli : i < l.size := by omega
      have hc2 : l.getD i true = false := by
        rw [Array.getD_eq_getD_getElem?, Array.getElem?_eq_getElem hli] at hc ⊢
        simpa using hc
      have hm : i ∈ Region.ready md ops l := by
        unfold Region.ready
        rw [List.mem_filter, List.mem_range]
        refine ⟨hi, ?_⟩
        rw [hc2, Array.getElem?_eq_getElem hi]
        simp only [Option.map_some, Option.getD_some, Bool.not_false, Bool.true_and, Array.all_eq_true_iff_forall_mem]
        intro e he
        have he2 := ht i _ (Array.getElem?_eq_getElem hi) e he
        rw [ih e.on he2 (by omega), Bool.or_true]
      rw [hn] at hm
      simp at hm

/-- How many are not listed. -/
def unl (l : Array Bool) : Nat := l.count false
theorem unl_set {l : Array Bool} {i : Nat} (hi : i < l.size) (h : l.getD i true = false) : unl (l.setIfInBounds i true) + 1 = unl l := by
  have hg : l[i] = false := by
    rw [Array.getD_eq_getD_getElem?, Array.getElem?_eq_getElem hi] at h
    simpa using h
  unfold unl
  rw [Array.setIfInBounds_def, dif_pos hi, Array.count_set hi, hg]
  have hpos : 0 < Array.count false l := Array.count_pos_iff.2 (by rw [← hg]; exact Array.getElem_mem hi)
  simp
  omega

theorem wpAny_inv (I : Array Bool → Act → World → Prop) (hsz : ∀ l a w, I l a w → l.size = ops.size)
    (step : ∀ l a w i, I l a w → i ∈ Region.ready md ops l → wpOp P ops Q i (fun a' w' => I (l.setIfInBounds i true) a' w') a w)
    (fin : ∀ l a w, I l a w → Region.ready md ops l = [] → Q .normal a w) : ∀ (fuel : Nat) (l : Array Bool) (a : Act) (w : World), unl l ≤ fuel → I l a w → wpAny P md ops Q fuel l a w
  | 0, l, a, w, hf, hi => by
    have hr : Region.ready md ops l = [] := by
      rw [List.eq_nil_iff_forall_not_mem]
      intro i hm
      obtain ⟨h1, h2, _⟩ := ready_get hm
      have := unl_set (l := l) (i := i) (by rw [hsz l a w hi]; exact h1) h2
      omega
    exact ⟨hr, fin l a w hi hr⟩
  | fuel + 1, l, a, w, hf, hi => ⟨fin l a w hi, fun i hm => wpOp_mono (fun a' w' hI => by
      obtain ⟨h1, h2, _⟩ := ready_get hm
      have := unl_set (l := l) (i := i) (by rw [hsz l a w hi]; exact h1) h2
      exact wpAny_inv I hsz step fin fuel _ a' w' (by omega) hI) (step l a w i hi hm)⟩

theorem wp_region_inv {id : Nat} {a : Act} {w : World} (I : Array Bool → Act → World → Prop) (hm : P.follows .mixedOrders = true) (hsz : ∀ l a w, I l a w → l.size = ops.size)
    (h0 : I (Array.replicate ops.size false) a { w with drawn := w.drawn + 1 })
    (step : ∀ l a w i, I l a w → i ∈ Region.ready .any ops l → wpOp P ops Q i (fun a' w' => I (l.setIfInBounds i true) a' w') a w)
    (fin : ∀ l a w, I l a w → Region.ready .any ops l = [] → Q .normal a w) : (Code.region id ops true).wp P Q a w :=
  wp_region_any hm (wpAny_inv I hsz step fin _ _ _ _ (by unfold unl; simp [Array.count_replicate]) h0)

theorem wpOp_val {i : Nat} {o : Oper} {K : Act → World → Prop} {a : Act} {w : World} {v : Value} {w' : World} (ho : ops[i]? = some o) (hg : o.guard = none) (h : (execOp a.eval o).run P w = .ok (.value v) w') (k : K (a.put o.dst v) w') : wpOp P ops Q i K a w := by
  unfold wpOp
  rw [ho]
  simp only [Region.wanted, hg, if_true]
  refine .inl ?_
  unfold Oper.wp
  rw [h]
  exact k
theorem wpOp_none {i : Nat} {o : Oper} {K : Act → World → Prop} {a : Act} {w : World} {w' : World} (ho : ops[i]? = some o) (hg : o.guard = none) (h : (execOp a.eval o).run P w = .ok .skip w') (k : K (a.put o.dst undef) w') : wpOp P ops Q i K a w := by
  unfold wpOp
  rw [ho]
  simp only [Region.wanted, hg, if_true]
  refine .inl ?_
  unfold Oper.wp
  rw [h]
  exact k
theorem wpOp_call {i : Nat} {o : Oper} {K : Act → World → Prop} {a : Act} {w : World} {f : FuncId} {args : Array Value} {R : Value → World → Prop} (ho : ops[i]? = some o) (hg : o.guard = none) (h : (execOp a.eval o).run P w = .ok (.enter f args) w) (hc : Calls P f args w fun e w' => ∃ v, e = .returned v ∧ R v w') (k : ∀ v w', R v w' → K (a.put o.dst v) w') : wpOp P ops Q i K a w := by
  unfold wpOp
  rw [ho]
  simp only [Region.wanted, hg, if_true]
  refine .inl ?_
  unfold Oper.wp
  rw [h, Oper.upon_enter]
  refine hc.mono fun e w' ⟨v, he, hr⟩ => ?_
  subst he
  exact k v w' hr
end
end Go.Proofs.Ytfkaghfbngicmaa
