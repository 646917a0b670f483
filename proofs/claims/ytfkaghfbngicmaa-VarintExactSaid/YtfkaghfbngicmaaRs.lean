/- A region in whatever order whose operations read, make memory and call: what is said of each value holds till its killer comes. Also inside a fence and a round. No conditions beyond those named. -/
import Derived.Test.YtfkaghfbngicmaaRu
import Derived.OrdersIn
import Derived.OwnWalkIn
namespace Go.Proofs.Ytfkaghfbngicmaa
open Go.RowKit

section
variable {F : Fence} {n : Nat} {P : Program} {ops : Array Oper} {Q : Exit → Act → World → Prop} {md : Region.Mode}

theorem ready_nilB {l : Array Bool} (hn : Region.ready md ops l = []) (hl : l.size = ops.size) (ht : ∀ (i : Nat) (o : Oper), ops[i]? = some o → ∀ e ∈ o.after, Region.binds md e = true → e.on < i) : ∀ i, i < ops.size → l.getD i false = true := by
  intro i
  induction i using Nat.strongRecOn with
  | _ i ih =>
    intro hi
    by_cases hc : l.getD i false = true
    · exact hc
    · exfalso
      have hli : i < l.size := by omega
      have hc2 : l.getD i true = false := by
        rw [Array.getD_eq_getD_getElem?, Array.getElem?_eq_getElem hli] at hc ⊢
        simpa using hc
      have hm : i ∈ Region.ready md ops l := by
        unfold Region.ready
        rw [List.mem_filter, List.mem_range]
        refine ⟨hi, ?_⟩
        rw [hc2, Array.getElem?_eq_getElem hi]
        simp only [Option.map_some, Option.getD_some, Bool.not_false, Bool.true_and, Array.all_eq_true_iff_forall_mem]
        intro e he
        cases hb : Region.binds md e with
        | false => rfl
        | true =>
          have he2 := ht i _ (Array.getElem?_eq_getElem hi) e he hb
          rw [ih e.on he2 (by omega), Bool.or_true]
      rw [hn] at hm
      simp at hm

theorem wpAnyIn_inv (I : Array Bool → Act → World → Prop) (hsz : ∀ l a w, I l a w → l.size = ops.size)
    (step : ∀ l a w i, I l a w → i ∈ Region.ready md ops l → wpOpIn F n P ops Q i (fun a' w' => I (l.setIfInBounds i true) a' w') a w)
    (fin : ∀ l a w, I l a w → Region.ready md ops l = [] → Q .normal a w) : ∀ (fuel : Nat) (l : Array Bool) (a : Act) (w : World), unl l ≤ fuel → I l a w → wpAnyIn F n P md ops Q fuel l a w
  | 0, l, a, w, hf, hi => by
    have hr : Region.ready md ops l = [] := by
      rw [List.eq_nil_iff_forall_not_mem]
      intro i hm
      obtain ⟨h1, h2, _⟩ := ready_get hm
      have := unl_set (l := l) (i := i) (by rw [hsz l a w hi]; exact h1) h2
      omega
    exact ⟨hr, fin l a w hi hr⟩
  | fuel + 1, l, a, w, hf, hi => ⟨fin l a w hi, fun i hm => wpOpIn_mono (fun a' w' hI => by
      obtain ⟨h1, h2, _⟩ := ready_get hm
      have := unl_set (l := l) (i := i) (by rw [hsz l a w hi]; exact h1) h2
      exact wpAnyIn_inv I hsz step fin fuel _ a' w' (by omega) hI) (step l a w i hi hm)⟩

theorem wpIn_region_inv {id : Nat} {a : Act} {w : World} (I : Array Bool → Act → World → Prop) (hm : P.follows .mixedOrders = true) (hsz : ∀ l a w, I l a w → l.size = ops.size)
    (h0 : I (Array.replicate ops.size false) a { w with drawn := w.drawn + 1 })
    (step : ∀ l a w i, I l a w → i ∈ Region.ready .any ops l → wpOpIn F n P ops Q i (fun a' w' => I (l.setIfInBounds i true) a' w') a w)
    (fin : ∀ l a w, I l a w → Region.ready .any ops l = [] → Q .normal a w) : (Code.region id ops true).wpIn F n P Q a w :=
  wpIn_region_any hm (wpAnyIn_inv I hsz step fin _ _ _ _ (by unfold unl; simp [Array.count_replicate]) h0)

theorem wpOpIn_val {i : Nat} {o : Oper} {K : Act → World → Prop} {a : Act} {w : World} {v : Value} {w' : World} (hfn : ∀ f, F.fn f) (ho : ops[i]? = some o) (hg : o.guard = none) (hd : ∀ c, o.op ≠ .defer c) (h : (execOp a.eval o).run P w = .ok (.value v) w') (k : K (a.put o.dst v) w') : wpOpIn F n P ops Q i K a w := by
  unfold wpOpIn
  rw [ho]
  simp only [Region.wanted, hg, if_true]
  refine ⟨fun f _ => hfn f, ?_⟩
  rw [Oper.semAt_plain F _ _ hd, h]
  exact k
theorem wpOpIn_call {i : Nat} {o : Oper} {K : Act → World → Prop} {a : Act} {w : World} {f : FuncId} {args : Array Value} {R : Value → World → Prop} (hfn : ∀ f, F.fn f) (hdep : F.depth.isSome = true → 1 ≤ n) (ho : ops[i]? = some o) (hg : o.guard = none) (hd : ∀ c, o.op ≠ .defer c) (h : (execOp a.eval o).run P w = .ok (.enter f args) w) (hc : CallsIn F (n - 1) P f args w fun e w' => ∃ v, e = .returned v ∧ R v w') (k : ∀ v w', R v w' → K (a.put o.dst v) w') : wpOpIn F n P ops Q i K a w := by
  unfold wpOpIn
  rw [ho]
  simp only [Region.wanted, hg, if_true]
  refine ⟨fun f _ => hfn f, ?_⟩
  rw [Oper.semAt_plain F _ _ hd, h]
  refine ⟨hdep, hc.mono fun e w' ⟨v, he, hr⟩ => ?_⟩
  subst he
  exact k v w' hr

/-- How a value and a world follow one operation. -/
def RNext (R : Nat → Value → World → Prop) (kill : Nat → Nat) (live : Nat → Nat → Bool) (i : Nat) (W0 w : World) (v : Value) (w' : World) : Prop :=
  R i v w' ∧ Below W0.heap.size W0 w' ∧ ∀ j u, j ≠ i → kill j ≠ i → live i j = true → R j u w → R j u w'
theorem RNext.same {R : Nat → Value → World → Prop} {kill : Nat → Nat} {live : Nat → Nat → Bool} {i : Nat} {W0 w : World} {v : Value} (h : R i v w) (hb : Below W0.heap.size W0 w) : RNext R kill live i W0 w v w := ⟨h, hb, fun _ _ _ _ _ h => h⟩

/-- One operation waits for another one. -/
def waitsB (ops : Array Oper) (j i : Nat) : Bool := (ops[j]?).elim false fun o => o.after.any fun e => e.on == i && Region.binds .any e
theorem waitsB_spec {ops : Array Oper} {j i : Nat} (h : waitsB ops j i = true) : ∃ o, ops[j]? = some o ∧ ∃ e ∈ o.after, e.on = i ∧ Region.binds .any e = true := by
  unfold waitsB at h
  cases ho : ops[j]? with
  | none => rw [ho] at h; cases h
  | some o =>
    rw [ho] at h
    obtain ⟨e, he, h5⟩ := Array.any_eq_true'.1 h
    rw [Bool.and_eq_true] at h5
    exact ⟨o, rfl, e, he, by simpa using h5.1, h5.2⟩
/-- What need not be kept: the value is not there yet, or is not looked at any more. -/
def liveB (ops : Array Oper) (kill : Nat → Nat) (live : Nat → Nat → Bool) : Bool := (List.range ops.size).all fun i => (List.range ops.size).all fun j => live i j || waitsB ops j i || waitsB ops i (kill j)
theorem liveB_spec {ops : Array Oper} {kill : Nat → Nat} {live : Nat → Nat → Bool} (h : liveB ops kill live = true) {i j : Nat} (hi : i < ops.size) (hj : j < ops.size) (hn : live i j = false) : waitsB ops j i = true ∨ waitsB ops i (kill j) = true := by
  have h1 := List.all_eq_true.1 (List.all_eq_true.1 h i (List.mem_range.2 hi)) j (List.mem_range.2 hj)
  rw [hn] at h1
  simpa using h1

structure RelI (R : Nat → Value → World → Prop) (kill : Nat → Nat) (ops : Array Oper) (a0 : Act) (W0 : World) (ds : List Nat) (l : Array Bool) (a : Act) (w : World) (V : Nat → Value) : Prop where
  sz : l.size = ops.size
  fr : FrF ds a0 a
  bw : Below W0.heap.size W0 w
  got : ∀ (i d : Nat), l.getD i false = true → ds[i]? = some d → a.tmps[d]? = some (V i) ∧ (l.getD (kill i) false = false → R i (V i) w)
  down : DownC ops l

theorem rel_region {id : Nat} {a0 : Act} {W0 : World} (R : Nat → Value → World → Prop) (kill : Nat → Nat) (live : Nat → Nat → Bool) (ds : List Nat) (hds : ds.length = ops.size) (hnd : ds.Nodup) (hlt : ∀ d ∈ ds, d < a0.tmps.size) (hm : P.follows .mixedOrders = true) (hfn : ∀ f, F.fn f) (hdep : F.depth.isSome = true → 1 ≤ n)
    (ht : ∀ (i : Nat) (o : Oper), ops[i]? = some o → ∀ e ∈ o.after, Region.binds .any e = true → e.on < i)
    (hkill : ∀ i, i < ops.size → kill i ≠ i) (hlive : liveB ops kill live = true)
    (hstep : ∀ (i : Nat) (o : Oper) (d : Nat), ops[i]? = some o → ds[i]? = some d → o.guard = none ∧ o.dst = some d ∧ (∀ c, o.op ≠ .defer c) ∧ ∀ a w, FrF ds a0 a → Below W0.heap.size W0 w →
      (∀ e ∈ o.after, Region.binds .any e = true → ∀ d', ds[e.on]? = some d' → ∃ v, a.tmps[d']? = some v ∧ (kill e.on = i ∨ ops.size ≤ kill e.on → R e.on v w)) →
      (∃ v w', (execOp a.eval o).run P w = .ok (.value v) w' ∧ RNext R kill live i W0 w v w') ∨
      ∃ f args, (execOp a.eval o).run P w = .ok (.enter f args) w ∧ CallsIn F (n - 1) P f args w fun e w' => ∃ v, e = .returned v ∧ RNext R kill live i W0 w v w')
    (hfin : ∀ (V : Nat → Value) w, Below W0.heap.size W0 w → (∀ i, i < ops.size → ops.size ≤ kill i → R i (V i) w) → Q .normal (putFrom V 0 ds a0) w) :
    (Code.region id ops true).wpIn F n P Q a0 W0 := by
  have out : ∀ (l : Array Bool) j, l.size = ops.size → ops.size ≤ j → l.getD j false = false := fun l j hs hj => by
    rw [Array.getD_eq_getD_getElem?, Array.getElem?_eq_none (by omega)]; rfl
  refine wpIn_region_inv (fun l a w => ∃ V, RelI R kill ops a0 W0 ds l a w V) hm (fun l a w h => by obtain ⟨V, h⟩ := h; exact h.sz) ?_ ?_ ?_
  · refine ⟨fun _ => undef, by simp, ⟨rfl, rfl, fun _ _ => rfl⟩, ⟨rfl, rfl, rfl, Nat.le_refl _, fun _ _ => rfl⟩, fun i d h => ?_, fun j o h => ?_⟩
    · rw [Array.getD_eq_getD_getElem?, Array.getElem?_replicate] at h
      split at h <;> simp at h
    · rw [Array.getD_eq_getD_getElem?, Array.getElem?_replicate] at h
      split at h <;> simp at h
  · rintro l a w i ⟨V, h⟩ hi
    obtain ⟨h1, h2, h3⟩ := ready_get hi
    have ho : ops[i]? = some ops[i] := Array.getElem?_eq_getElem h1
    have hl : i < l.size := by rw [h.sz]; exact h1
    have hli : l.getD i false = false := by
      rw [Array.getD_eq_getD_getElem?] at h2 ⊢
      cases e : l[i]? with
      | none => rw [e] at h2; cases h2
      | some b => rw [e] at h2; simpa using h2
    have hd : ds[i]? = some ds[i] := List.getElem?_eq_getElem (by omega)
    obtain ⟨hg, hdst, hdf, hs⟩ := hstep i _ _ ho hd
    have haft : ∀ e ∈ ops[i].after, Region.binds .any e = true → ∀ d', ds[e.on]? = some d' → ∃ v, a.tmps[d']? = some v ∧ (kill e.on = i ∨ ops.size ≤ kill e.on → R e.on v w) := fun e he hb d' hd' => by
      obtain ⟨g1, g2⟩ := h.got _ _ (h3 _ ho e he hb) hd'
      exact ⟨_, g1, fun hk => g2 (by
        rcases hk with hk | hk
        · rw [hk]; exact hli
        · exact out l _ h.sz hk)⟩
    have next : ∀ v w', RNext R kill live i W0 w v w' → ∃ V', RelI R kill ops a0 W0 ds (l.setIfInBounds i true) (a.put (some ds[i]) v) w' V' := fun v w' ⟨r1, r2, r3⟩ => by
      refine ⟨fun j => if j = i then v else V j, by simpa using h.sz, ⟨by rw [show (a.put (some ds[i]) v).tmps.size = a.tmps.size from Array.size_setIfInBounds]; exact h.fr.size, h.fr.df, fun j hj => ?_⟩, r2, fun j d hj hjd => ?_, fun j o hj hjo e he hb => ?_⟩
      · have hne : ds[i] ≠ j := fun e => hj (by rw [← e]; exact List.getElem_mem _)
        rw [fput, if_neg hne]
        exact h.fr.low j hj
      · rw [fset hl] at hj
        by_cases hji : j = i
        · subst hji
          rw [hd] at hjd
          cases hjd
          refine ⟨by rw [fput, if_pos rfl, if_pos (by rw [h.fr.size]; exact hlt _ (List.getElem_mem _))]; simp, fun _ => by simpa using r1⟩
        · rw [if_neg (fun e => hji e.symm)] at hj
          obtain ⟨g1, g2⟩ := h.got j d hj hjd
          have hne : ds[i] ≠ d := fun e => hji (by
            have e1 : ds[j]? = ds[i]? := by rw [hjd, hd, e]
            exact (List.getElem?_inj (List.getElem?_eq_some_iff.1 hjd).1 hnd).1 e1)
          refine ⟨by rw [fput, if_neg hne]; simpa [hji] using g1, fun hk => ?_⟩
          rw [fset hl] at hk
          by_cases hki : i = kill j
          · rw [if_pos hki] at hk; cases hk
          · rw [if_neg hki] at hk
            simp only [hji, if_false]
            refine r3 j _ hji (fun e => hki e.symm) ?_ (g2 hk)
            cases hlv : live i j with
            | true => rfl
            | false =>
              exfalso
              have hjs : j < ops.size := by have := (List.getElem?_eq_some_iff.1 hjd).1; omega
              rcases liveB_spec hlive h1 hjs hlv with hw | hw
              · obtain ⟨o, ho2, e, he, heq, hb⟩ := waitsB_spec hw
                have := h.down j o hj ho2 e he hb
                rw [heq, hli] at this
                cases this
              · obtain ⟨o, ho2, e, he, heq, hb⟩ := waitsB_spec hw
                have := h3 o ho2 e he hb
                rw [heq, hk] at this
                cases this
      · rw [fset hl] at hj ⊢
        by_cases hij : i = j
        · subst hij
          rw [ho] at hjo
          cases hjo
          have := h3 _ ho e he hb
          by_cases hie : i = e.on
          · rw [if_pos hie]
          · rw [if_neg hie]; exact this
        · rw [if_neg hij] at hj
          by_cases hie : i = e.on
          · rw [if_pos hie]
          · rw [if_neg hie]; exact h.down j o hj hjo e he hb
    rcases hs a w h.fr h.bw haft with ⟨v, w', hr, hn⟩ | ⟨f, args, hr, hc⟩
    · refine wpOpIn_val hfn ho hg hdf hr ?_
      rw [hdst]
      exact next v w' hn
    · refine wpOpIn_call (R := fun v w' => RNext R kill live i W0 w v w') hfn hdep ho hg hdf hr hc (fun v w' hn => ?_)
      rw [hdst]
      exact next v w' hn
  · rintro l a w ⟨V, h⟩ hn
    have hall := ready_nilB hn h.sz ht
    have haeq : a = putFrom V 0 ds a0 := by
      obtain ⟨s1, s2⟩ := putFrom_size V ds 0 a0
      have hteq : ∀ j : Nat, a.tmps[j]? = (putFrom V 0 ds a0).tmps[j]? := fun j => by
        by_cases hj : j ∈ ds
        · obtain ⟨m, hmlt, hmj⟩ := List.mem_iff_getElem.1 hj
          have hmj2 : ds[m]? = some j := by rw [List.getElem?_eq_getElem hmlt, hmj]
          rw [(h.got m j (hall m (by omega)) hmj2).1, putFrom_at V ds 0 a0 m j hnd hmj2 (hlt j hj), Nat.zero_add]
        · rw [h.fr.low j hj, putFrom_low V ds 0 a0 j hj]
      have hd : a.defers = (putFrom V 0 ds a0).defers := h.fr.df.trans s2.symm
      generalize putFrom V 0 ds a0 = b at hteq hd
      obtain ⟨ta, da⟩ := a
      obtain ⟨tb, db⟩ := b
      dsimp only at hd hteq
      subst hd
      congr 1
      exact Array.ext_getElem? hteq
    have := hfin V w h.bw (fun i hi hk => (h.got i ds[i] (hall i hi) (List.getElem?_eq_getElem (by omega))).2 (out l _ h.sz hk))
    rwa [← haeq] at this
end

/-- What an operand reads in such a frame. -/
theorem eval_low {ds : List Nat} {a0 a : Act} (h : FrF ds a0 a) {j : Nat} (hj : j ∉ ds) : a.eval (.tmp j) = a0.eval (.tmp j) := by
  unfold Act.eval
  simp only [Array.getD_eq_getD_getElem?, h.low j hj]
theorem eval_got {a : Act} {j : Nat} {v : Value} (h : a.tmps[j]? = some v) : a.eval (.tmp j) = v := by
  unfold Act.eval
  simp [Array.getD_eq_getD_getElem?, h]
theorem topoB {ops : Array Oper} (h : (List.range ops.size).all (fun i => (ops[i]?).all fun o => o.after.all fun e => !Region.binds .any e || decide (e.on < i)) = true) : ∀ (i : Nat) (o : Oper), ops[i]? = some o → ∀ e ∈ o.after, Region.binds .any e = true → e.on < i := by
  intro i o ho e he hb
  have hi : i < ops.size := (Array.getElem?_eq_some_iff.1 ho).1
  have := List.all_eq_true.1 h i (List.mem_range.2 hi)
  rw [ho] at this
  simp only [Option.all_some, Array.all_eq_true_iff_forall_mem] at this
  have := this e he
  rw [hb] at this
  simpa using this
end Go.Proofs.Ytfkaghfbngicmaa
