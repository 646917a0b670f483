/- A region in whatever order, of reads and calls that change nothing of what was there, whose last operation writes. No conditions beyond those named. -/
import Derived.Test.YtfkaghfbngicmaaRt
namespace Go.Proofs.Ytfkaghfbngicmaa
open Go.RowKit

section
variable {P : Program} {ops : Array Oper} {Q : Exit → Act → World → Prop}

/-- The values of the first operations in their slots. -/
def putFrom (vs : Nat → Value) : Nat → List Nat → Act → Act
  | _, [], a => a
  | i, d :: ds, a => putFrom vs (i + 1) ds (a.put (some d) (vs i))
theorem putFrom_size (vs : Nat → Value) : ∀ (ds : List Nat) (i : Nat) (a : Act), (putFrom vs i ds a).tmps.size = a.tmps.size ∧ (putFrom vs i ds a).defers = a.defers
  | [], _, _ => ⟨rfl, rfl⟩
  | d :: ds, i, a => by
    obtain ⟨h1, h2⟩ := putFrom_size vs ds (i + 1) (a.put (some d) (vs i))
    exact ⟨h1.trans Array.size_setIfInBounds, h2⟩
theorem putFrom_low (vs : Nat → Value) : ∀ (ds : List Nat) (i : Nat) (a : Act) (j : Nat), j ∉ ds → (putFrom vs i ds a).tmps[j]? = a.tmps[j]?
  | [], _, _, _, _ => rfl
  | d :: ds, i, a, j, h => by
    have h1 : j ≠ d := fun e => h (by simp [e])
    have h2 : j ∉ ds := fun e => h (by simp [e])
    show (putFrom vs (i + 1) ds (a.put (some d) (vs i))).tmps[j]? = _
    rw [putFrom_low vs ds (i + 1) _ j h2, fput, if_neg (fun e => h1 e.symm)]
theorem putFrom_at (vs : Nat → Value) : ∀ (ds : List Nat) (i : Nat) (a : Act) (m d : Nat), ds.Nodup → ds[m]? = some d → d < a.tmps.size → (putFrom vs i ds a).tmps[d]? = some (vs (i + m))
  | [], _, _, _, _, _, h, _ => by simp at h
  | e :: ds, i, a, m, d, hn, hm, hd => by
    obtain ⟨hn1, hn2⟩ := List.nodup_cons.1 hn
    show (putFrom vs (i + 1) ds (a.put (some e) (vs i))).tmps[d]? = _
    match m, hm with
    | 0, hm =>
      simp only [List.getElem?_cons_zero, Option.some.injEq] at hm
      subst hm
      rw [putFrom_low vs ds (i + 1) _ e hn1, fput, if_pos rfl, if_pos hd]
      rfl
    | m + 1, hm =>
      simp only [List.getElem?_cons_succ] at hm
      rw [putFrom_at vs ds (i + 1) _ m d hn2 hm (by rw [show (a.put (some e) (vs i)).tmps.size = a.tmps.size from Array.size_setIfInBounds]; exact hd), show i + 1 + m = i + (m + 1) by omega]

/-- Nothing that is listed waits. -/
def DownC (ops : Array Oper) (l : Array Bool) : Prop := ∀ j o, l.getD j false = true → ops[j]? = some o → ∀ e ∈ o.after, Region.binds .any e = true → l.getD e.on false = true
/-- Every operation ahead of the last one is waited for. -/
def waitedB (ops : Array Oper) (n : Nat) : Bool := (List.range n).all fun i => (List.range (n + 1)).any fun k => decide (i < k) && ((ops[k]?).elim false fun o => o.after.any fun e => e.on == i && Region.binds .any e)
theorem waited_spec {n : Nat} (h : waitedB ops n = true) {i : Nat} (hi : i < n) : ∃ k o, i < k ∧ k ≤ n ∧ ops[k]? = some o ∧ ∃ e ∈ o.after, e.on = i ∧ Region.binds .any e = true := by
  have h1 := List.all_eq_true.1 h i (List.mem_range.2 hi)
  obtain ⟨k, hk, h2⟩ := List.any_eq_true.1 h1
  rw [Bool.and_eq_true, decide_eq_true_eq] at h2
  obtain ⟨h3, h4⟩ := h2
  cases ho : ops[k]? with
  | none => rw [ho] at h4; cases h4
  | some o =>
    rw [ho] at h4
    obtain ⟨e, he, h5⟩ := Array.any_eq_true'.1 h4
    rw [Bool.and_eq_true] at h5
    exact ⟨k, o, h3, by have := List.mem_range.1 hk; omega, ho, e, he, by simpa using h5.1, h5.2⟩

theorem tail_region {id : Nat} {a0 : Act} {W0 : World} (n : Nat) (ds : List Nat) (vs : Nat → Value) (hsz : ops.size = n + 1) (hds : ds.length = n) (hnd : ds.Nodup) (hnd2 : ∀ i, i < ds.length → ∀ j, j < ds.length → ds[i]? = ds[j]? → i = j) (hlt : ∀ d ∈ ds, d < a0.tmps.size) (hm : P.follows .mixedOrders = true)
    (ht : ∀ (i : Nat) (o : Oper), ops[i]? = some o → ∀ e ∈ o.after, e.on < i) (hw : waitedB ops n = true)
    (hstep : ∀ (i : Nat) (o : Oper) (d : Nat), ops[i]? = some o → ds[i]? = some d → o.guard = none ∧ o.dst = some d ∧ ∀ a w, FrF ds a0 a → Below W0.heap.size W0 w → (∀ e ∈ o.after, Region.binds .any e = true → ∀ d', ds[e.on]? = some d' → a.tmps[d']? = some (vs e.on)) →
      (execOp a.eval o).run P w = .ok (.value (vs i)) w ∨ ∃ f args, (execOp a.eval o).run P w = .ok (.enter f args) w ∧ Calls P f args w fun e w' => e = .returned (vs i) ∧ Below w.heap.size w w')
    (hlast : ∀ o, ops[n]? = some o → o.guard = none ∧ o.dst = none ∧ ∀ w, Below W0.heap.size W0 w → ∃ w', (execOp (putFrom vs 0 ds a0).eval o).run P w = .ok .skip w' ∧ Q .normal (putFrom vs 0 ds a0) w') :
    (Code.region id ops true).wp P Q a0 W0 := by
  refine wp_region_inv (fun l a w => (FallI n ops a0 W0 ds vs l a w ∧ DownC ops l) ∨ (l.size = ops.size ∧ (∀ i, i < ops.size → l.getD i false = true) ∧ Q .normal a w)) hm (fun l a w h => by rcases h with h | h; exact h.1.sz; exact h.1) ?_ ?_ ?_
  · refine .inl ⟨⟨by simp, ⟨rfl, rfl, fun _ _ => rfl⟩, by rw [Array.getD_eq_getD_getElem?]; simp [hsz], ⟨rfl, rfl, rfl, Nat.le_refl _, fun _ _ => rfl⟩, fun i d h => ?_⟩, fun j o h => ?_⟩
    · rw [Array.getD_eq_getD_getElem?, Array.getElem?_replicate] at h
      split at h <;> simp at h
    · rw [Array.getD_eq_getD_getElem?, Array.getElem?_replicate] at h
      split at h <;> simp at h
  · intro l a w i h hi
    obtain ⟨h1, h2, h3⟩ := ready_get hi
    rcases h with ⟨h, hdc⟩ | ⟨hs, hall, _⟩
    · have ho : ops[i]? = some ops[i] := Array.getElem?_eq_getElem h1
      have hl : i < l.size := by rw [h.sz]; exact h1
      have haft : ∀ e ∈ ops[i].after, Region.binds .any e = true → ∀ d', ds[e.on]? = some d' → a.tmps[d']? = some (vs e.on) := fun e he hb d' hd' => h.got _ _ (h3 _ ho e he hb) hd'
      have hdc2 : DownC ops (l.setIfInBounds i true) := fun j o hj hjo e he hb => by
        rw [fset hl] at hj ⊢
        by_cases hij : i = j
        · subst hij
          rw [ho] at hjo
          cases hjo
          have := h3 _ ho e he hb
          by_cases hie : i = e.on
          · rw [if_pos hie]
          · rw [if_neg hie]; exact this
        · rw [if_neg hij] at hj
          by_cases hie : i = e.on
          · rw [if_pos hie]
          · rw [if_neg hie]; exact hdc j o hj hjo e he hb
      by_cases hin : i = n
      · subst hin
        obtain ⟨hg, hdst, hlq⟩ := hlast _ ho
        have hlisted : ∀ m j, i - j ≤ m → j < i → l.getD j false = true := fun m => by
          induction m with
          | zero => intro j hj hji; omega
          | succ m ih =>
            intro j hj hji
            obtain ⟨k, o, hjk, hki, hko, e, he, heq, hb⟩ := waited_spec hw hji
            by_cases hkn : k = i
            · subst hkn
              have := h3 o hko e he hb
              rwa [heq] at this
            · have hk := ih k (by omega) (by omega)
              have := hdc k o hk hko e he hb
              rwa [heq] at this
        have haeq : a = putFrom vs 0 ds a0 := by
          obtain ⟨s1, s2⟩ := putFrom_size vs ds 0 a0
          have hteq : ∀ j : Nat, a.tmps[j]? = (putFrom vs 0 ds a0).tmps[j]? := fun j => by
            by_cases hj : j ∈ ds
            · obtain ⟨m, hmlt, hmj⟩ := List.mem_iff_getElem.1 hj
              have hmj2 : ds[m]? = some j := by rw [List.getElem?_eq_getElem hmlt, hmj]
              rw [h.got m j (hlisted _ m (Nat.le_refl _) (by omega)) hmj2, putFrom_at vs ds 0 a0 m j hnd hmj2 (hlt j hj), Nat.zero_add]
            · rw [h.fr.low j hj, putFrom_low vs ds 0 a0 j hj]
          have hd : a.defers = (putFrom vs 0 ds a0).defers := h.fr.df.trans s2.symm
          generalize putFrom vs 0 ds a0 = b at hteq hd
          obtain ⟨ta, da⟩ := a
          obtain ⟨tb, db⟩ := b
          dsimp only at hd hteq
          subst hd
          congr 1
          exact Array.ext_getElem? hteq
        obtain ⟨w', hr, hq⟩ := hlq w h.bw
        rw [← haeq] at hr hq
        refine wpOp_none ho hg hr ?_
        rw [hdst]
        refine .inr ⟨by simpa using h.sz, fun j hj => ?_, hq⟩
        rw [fset hl]
        by_cases hij : i = j
        · rw [if_pos hij]
        · rw [if_neg hij]
          exact hlisted _ j (Nat.le_refl _) (by omega)
      · have hlt2 : i < ds.length := by omega
        have hd : ds[i]? = some ds[i] := List.getElem?_eq_getElem hlt2
        obtain ⟨hg, hdst, hs⟩ := hstep i _ _ ho hd
        rcases hs a w h.fr h.bw haft with hr | ⟨f, args, hr, hc⟩
        · refine wpOp_val ho hg hr ?_
          rw [hdst]
          exact .inl ⟨h.put h1 hin hd hnd2 hlt (Below.refl _ _), hdc2⟩
        · refine wpOp_call (R := fun v w' => v = vs i ∧ Below w.heap.size w w') ho hg hr (hc.mono fun e w' ⟨he, hb⟩ => ⟨_, he, rfl, hb⟩) (fun v w' hv => ?_)
          obtain ⟨rfl, hb⟩ := hv
          rw [hdst]
          exact .inl ⟨h.put h1 hin hd hnd2 hlt hb, hdc2⟩
    · exfalso
      have := hall i h1
      rw [Array.getD_eq_getD_getElem?] at this h2
      cases hl : l[i]? with
      | none => rw [hl] at this; cases this
      | some v => rw [hl] at this h2; simp_all
  · intro l a w h hn
    rcases h with ⟨h, _⟩ | ⟨_, _, hq⟩
    · have := ready_nil hn h.sz ht n (by omega)
      rw [h.nl] at this
      cases this
    · exact hq
end
end Go.Proofs.Ytfkaghfbngicmaa
