/- A valid definition with an equal further message; the depths of the messages to which one refers. Plain facts. Names that occur once: the ranges of numbers, found by the first field with a name. Plain facts. -/
import Derived.Test.YtbpkppmbbpoohaaGreatVl
namespace Go.Proofs.YtbpkppmbbpoohaaGreat
open Go.RowKit Go.Shelf

theorem casesR_mono {E F : Nats} (h : Knows E F) (hi : Int) : ∀ (C : List CaseD) (l : Int), casesR E hi l C = none → casesR F hi l C = none
  | [], _, _ => rfl
  | c :: C, l, hn => by
    obtain ⟨h1, h2⟩ := orR_none hn
    obtain ⟨h3, h4⟩ := orR_none h2
    simp only [casesR]
    rw [h1, h.has (ifR_none h3), casesR_mono h hi C _ h4]
    rfl
theorem nestedR_mono {E F : Nats} (h : Knows E F) {d : FieldD} (hn : nestedR E d = none) : nestedR F d = none := by
  unfold nestedR at hn ⊢
  rw [h.has (ifR_none hn)]
  rfl
theorem strict_has {E : Nats} {s : List UInt8} (h : ((getN E s).getD (0, false)).2 = true) : ∃ v, getN E s = some v := by
  cases e : getN E s with
  | none => rw [e] at h; cases h
  | some v => exact ⟨v, rfl⟩
theorem viewR_mono {E F : Nats} (h : Knows E F) {d : FieldD} {R : Option Int} (hn : viewR E d R = none) : viewR F d R = none := by
  obtain ⟨h1, h2⟩ := orR_none hn
  obtain ⟨h3, h4⟩ := orR_none h2
  have h5 := ifR_none h3
  obtain ⟨v, hv⟩ := strict_has h5
  rw [hv] at h5
  unfold viewR
  rw [h1, h _ _ hv, h5, h4]
  rfl
theorem choiceR_mono {E F : Nats} (h : Knows E F) {B : List FieldD} {d : FieldD} (hn : choiceR E B d = none) : choiceR F B d = none := by
  obtain ⟨h1, h2⟩ := orR_none hn
  obtain ⟨h3, h4⟩ := orR_none h2
  unfold choiceR
  rw [h1, h3, casesR_mono h _ _ _ h4]
  rfl
theorem condR_mono {E F : Nats} (h : Knows E F) {B : List FieldD} {d : FieldD} (hn : condR E B d = none) : condR F B d = none := by
  by_cases h1 : d.kind = 1
  · simp only [condR, h1] at hn ⊢; exact hn
  by_cases h2 : d.kind = 2
  · simp only [condR, h2] at hn ⊢; exact hn
  by_cases h3 : d.kind = 3
  · simp only [condR, h3] at hn ⊢; exact hn
  by_cases h4 : d.kind = 4
  · simp only [condR, h4] at hn ⊢; exact hn
  by_cases h5 : d.kind = 5
  · simp only [condR, h5] at hn ⊢; exact hn
  by_cases h6 : d.kind = 6
  · simp only [condR, h6] at hn ⊢; exact hn
  by_cases h7 : d.kind = 7
  · simp only [condR, h7] at hn ⊢
    obtain ⟨a, b⟩ := orR_none hn
    show orR (nestedR F d) (sizeAllR B d) = none
    rw [nestedR_mono h a]
    exact b
  by_cases h8 : d.kind = 8
  · simp only [condR, h8] at hn ⊢; exact nestedR_mono h hn
  by_cases h9 : d.kind = 9
  · simp only [condR, h9] at hn ⊢; exact choiceR_mono h hn
  by_cases h10 : d.kind = 10
  · simp only [condR, h10] at hn ⊢; exact hn
  by_cases h11 : d.kind = 11
  · simp only [condR, h11] at hn ⊢; exact hn
  · simp only [condR, h1, h2, h3, h4, h5, h6, h7, h8, h9, h10, h11, if_false] at hn ⊢
    exact viewR_mono h hn
theorem fieldAllR_mono {E F : Nats} (h : Knows E F) {B : List FieldD} {d : FieldD} (hn : fieldAllR E B d = none) : fieldAllR F B d = none := by
  obtain ⟨h1, h2⟩ := orR_none hn
  obtain ⟨h3, h4⟩ := orR_none h2
  obtain ⟨h5, h6⟩ := orR_none h4
  obtain ⟨h7, h8⟩ := orR_none h6
  unfold fieldAllR
  rw [h1, h3, h5, h7, condR_mono h h8]
  rfl
theorem fieldsR_mono {E F : Nats} (h : Knows E F) (D : List FieldD) : ∀ (G : List FieldD) (k : Nat), fieldsR (frA E D) k G = none → fieldsR (frA F D) k G = none
  | [], _, _ => rfl
  | d :: G, k, hn => by
    obtain ⟨h1, h2⟩ := orM_none hn
    have hd : frA E D k d = none := by
      cases hf : frA E D k d with
      | none => rfl
      | some c => rw [hf] at h1; cases h1
    simp only [fieldsR]
    rw [fieldsR_mono h D G (k + 1) h2, show frA F D k d = none from fieldAllR_mono h hd]
    rfl
theorem casesR_has {E : Nats} {hi : Int} : ∀ (C : List CaseD) (l : Int), casesR E hi l C = none → ∀ c ∈ C, hasN E c.of_ = true
  | [], _, _, c, hc => by simp at hc
  | e :: C, l, hn, c, hc => by
    obtain ⟨_, h2⟩ := orR_none hn
    obtain ⟨h3, h4⟩ := orR_none h2
    rcases List.mem_cons.1 hc with rfl | hc
    · exact ifR_none h3
    · exact casesR_has C _ h4 c hc
/-- What a field that passes refers to is known. -/
theorem targ_has {E : Nats} {B : List FieldD} {d : FieldD} (h : fieldAllR E B d = none) : ∀ s ∈ targB d, hasN E s = true := by
  intro s hs
  have hc := (orR_none (orR_none (orR_none (orR_none h).2).2).2).2
  unfold targB at hs
  split at hs
  · rename_i h9
    have h9 : d.kind = 9 := by simpa using h9
    simp only [condR, h9] at hc
    obtain ⟨c, hcm, rfl⟩ := List.mem_map.1 hs
    exact casesR_has _ _ (orR_none (orR_none hc).2).2 c hcm
  · split at hs
    · rename_i hk
      simp only [List.mem_cons, List.not_mem_nil, or_false] at hs
      subst hs
      have hk : d.kind = 7 ∨ d.kind = 8 ∨ d.kind = 12 := by simpa [or_assoc] using hk
      rcases hk with hk | hk | hk
      · simp only [condR, hk] at hc
        exact ifR_none (orR_none hc).1
      · simp only [condR, hk] at hc
        exact ifR_none hc
      · simp only [condR, hk] at hc
        obtain ⟨v, hv⟩ := strict_has (ifR_none (orR_none (orR_none hc).2).1)
        unfold hasN
        rw [hv]
        rfl
    · simp at hs
theorem addN_mem {N : List (List UInt8)} {s t : List UInt8} (h : t ∈ addN N s) : t ∈ N ∨ t = s := by
  unfold addN at h
  split at h
  · exact .inl h
  · simpa using h
theorem addAll_mem : ∀ (L N : List (List UInt8)) (t : List UInt8), t ∈ addAll N L → t ∈ N ∨ t ∈ L
  | [], _, _, h => .inl h
  | s :: L, N, t, h => by
    rcases addAll_mem L (addN N s) t h with h | h
    · rcases addN_mem h with h | h
      · exact .inl h
      · exact .inr (by simp [h])
    · exact .inr (by simp [h])
theorem refs_has {E : Nats} {D : List FieldD} (h : fieldsR (frA E D) 0 D = none) : ∀ s ∈ refsN D, hasN E s = true := by
  intro s hs
  rcases addAll_mem _ _ _ hs with h1 | h1
  · simp at h1
  · obtain ⟨d, hd, hsd⟩ := List.mem_flatMap.1 h1
    obtain ⟨i, hi, rfl⟩ := List.mem_iff_getElem.1 hd
    exact targ_has (fieldsR_none _ _ _ h i _ (List.getElem?_eq_getElem hi)) s hsd
theorem natF_mono {E F : Nats} (h : Knows E F) : ∀ (N : List (List UInt8)) (n : Int × Bool), (∀ s ∈ N, hasN E s = true) → natF F n N = natF E n N
  | [], _, _ => rfl
  | s :: N, n, hs => by
    have h1 : getN F s = getN E s := by
      obtain ⟨v, hv⟩ := Option.isSome_iff_exists.1 (hs s (by simp))
      rw [hv, h s v hv]
    show natF F (natStep F n s) N = natF E (natStep E n s) N
    rw [show natStep F n s = natStep E n s by unfold natStep; rw [h1]]
    exact natF_mono h N _ (fun t ht => hs t (by simp [ht]))
theorem natS_mono {E F : Nats} (h : Knows E F) {D : List FieldD} (hp : fieldsR (frA E D) 0 D = none) : natS F D = natS E D := natF_mono h _ _ (refs_has hp)

/-- A valid definition with an equal further message with a new name. -/
theorem valid_more {nm st s : List UInt8} {D : List MsgD} {k : Nat} {mm : MsgD} (h : defAllR nm st D = none) (hk : D[k]? = some mm) (hn : D.length ≤ 59) (hs : nameB s = true) (hnew : D.any (fun m => m.name == s) = false) : defAllR nm st (D ++ [{ mm with name := s }]) = none := by
  have hp := validD_parts h
  obtain ⟨h1, h2, _⟩ := msgsR_each D [] 0 hp.msgs k mm hk
  have hone : hasN (defE D) s = false := by
    rw [defE_has, ← hnew]
    congr 1
    funext m
    by_cases h : m.name = s <;> simp [h]
  have hmr : mrA (defE D) (0 + D.length) { mm with name := s } = none := msg_of_parts ⟨hs, hone, h1.few, fieldsR_mono h2 _ _ 0 h1.fields, by
    show (natS (defE D) mm.fields).1 ≤ 16
    rw [show natS (defE D) mm.fields = _ from natS_mono h2 h1.fields]
    exact h1.depth⟩
  refine validD_of ⟨hp.name, by simp, by simp; omega, ?_, ?_⟩
  · rw [msgsR_app, hp.msgs]
    show orD ((mrA (defE D) (0 + D.length) { mm with name := s }).map _) none = none
    rw [hmr]
    rfl
  · rw [defE_snoc]
    exact (Knows.step hone).has hp.start

theorem natF_above (E : Nats) : ∀ (N : List (List UInt8)) (n : Int × Bool) (s : List UInt8), s ∈ N → 1 + ((getN E s).getD (0, false)).1 ≤ (natF E n N).1
  | [], _, _, h => by simp at h
  | t :: N, n, s, h => by
    rcases List.mem_cons.1 h with rfl | h
    · exact Int.le_trans (Int.le_max_right _ _) (natF_ge E N (natStep E n s))
    · exact natF_above E N (natStep E n t) s h
/-- What is told of a message of a valid definition. -/
theorem nature_of {nm st : List UInt8} {D : List MsgD} {k : Nat} {mm : MsgD} (h : defAllR nm st D = none) (hk : D[k]? = some mm) : ((getN (defE D) mm.name).getD (0, false)).1 = (natS (defE (D.take k)) mm.fields).1 ∧ 1 ≤ (natS (defE (D.take k)) mm.fields).1 ∧ (natS (defE (D.take k)) mm.fields).1 ≤ 16 := by
  obtain ⟨h1, _, h3⟩ := msgsR_each D [] 0 (validD_parts h).msgs k mm hk
  refine ⟨by rw [show getN (defE D) mm.name = _ from h3]; rfl, natF_ge _ _ _, h1.depth⟩
theorem first_idx {α : Type} (p : α → Bool) : ∀ (D : List α) (i : Nat) (d : α), D[i]? = some d → p d = true → ∃ (j : Nat) (e : α), j ≤ i ∧ D[j]? = some e ∧ p e = true ∧ ∀ x ∈ D.take j, p x = false
  | [], _, _, h, _ => by simp at h
  | a :: D, i, d, h, hp => by
    cases ha : p a with
    | true => exact ⟨0, a, Nat.zero_le _, rfl, ha, by simp⟩
    | false =>
      match i, h with
      | 0, h =>
        simp only [List.getElem?_cons_zero, Option.some.injEq] at h
        subst h
        rw [ha] at hp
        cases hp
      | i + 1, h =>
        simp only [List.getElem?_cons_succ] at h
        obtain ⟨j, e, hj, hg, hpe, hb⟩ := first_idx p D i d h hp
        refine ⟨j + 1, e, by omega, by simpa using hg, hpe, fun x hx => ?_⟩
        rw [List.take_succ_cons] at hx
        rcases List.mem_cons.1 hx with rfl | hx
        · exact ha
        · exact hb x hx
/-- The messages to which one refers come before it and are less deep. -/
theorem refs_below {nm st : List UInt8} {D : List MsgD} {k : Nat} {mm : MsgD} (h : defAllR nm st D = none) (hk : D[k]? = some mm) {s : List UInt8} (hs : s ∈ refsN mm.fields) : ∃ (i : Nat) (me : MsgD), D[i]? = some me ∧ i < k ∧ me.name = s ∧ idxOf (fun d : MsgD => d.name == s) D = ((i : Nat) : Int) ∧ ((getN (defE D) s).getD (0, false)).1 < (natS (defE (D.take k)) mm.fields).1 := by
  obtain ⟨h1, h2, _⟩ := msgsR_each D [] 0 (validD_parts h).msgs k mm hk
  have hh := refs_has h1.fields s hs
  have hany : (D.take k).any (fun m => decide (m.name = s)) = true := by
    rw [← defE_has]
    exact hh
  have hab := natF_above (defE (D.take k)) (refsN mm.fields) (1, !(mm.fields.any (·.loose))) s hs
  have hge : getN (defE D) s = getN (defE (D.take k)) s := by
    obtain ⟨v, hv⟩ := Option.isSome_iff_exists.1 hh
    rw [show getN (defE (D.take k)) s = some v from hv]
    exact h2 s v hv
  have hidx : ∃ (i : Nat) (me : MsgD), D[i]? = some me ∧ i < k ∧ me.name = s ∧ ∀ x ∈ D.take i, (x.name == s) = false := by
    obtain ⟨me, hme, hns⟩ := List.any_eq_true.1 hany
    obtain ⟨i, hi, rfl⟩ := List.mem_iff_getElem.1 hme
    have hik : i < k := by rw [List.length_take] at hi; omega
    have hget := List.getElem?_eq_getElem hi
    rw [List.getElem?_take, if_pos hik] at hget
    obtain ⟨j, me, hj, hgj, hpj, hbj⟩ := first_idx (fun m : MsgD => m.name == s) D i _ hget (by simpa using hns)
    exact ⟨j, me, hgj, by omega, by simpa using hpj, hbj⟩
  obtain ⟨i, me, hi, hik, hne, hb⟩ := hidx
  refine ⟨i, me, hi, hik, hne, idx_hit hi hb (by simp [hne]), ?_⟩
  rw [hge]
  have : (natS (defE (D.take k)) mm.fields).1 = (natF (defE (D.take k)) (1, !(mm.fields.any (·.loose))) (refsN mm.fields)).1 := rfl
  omega
end Go.Proofs.YtbpkppmbbpoohaaGreat

namespace Go.Proofs.YtbpkppmbbpoohaaGreat
open Go.RowKit

/-- No two fields have the same name. -/
def Once (B : List FieldD) : Prop := ∀ i d, B[i]? = some d → ∀ x ∈ B.take i, (x.name == d.name) = false
theorem once_of {E : Nats} {D : List FieldD} {n : Nat} (h : fieldsR (frA E D) 0 (D.take n) = none) : Once (D.take n) := by
  intro i d hd x hx
  have h1 := fieldsR_none _ _ _ h i d hd
  have hi : i < n := by
    have := (List.getElem?_eq_some_iff.1 hd).1
    rw [List.length_take] at this
    omega
  rw [Nat.zero_add] at h1
  have h2 : (!((D.take i).any (fun e => e.name == d.name))) = true := ifR_none (orR_none (orR_none h1).2).1
  rw [List.take_take, Nat.min_eq_left (by omega)] at hx
  cases e : (x.name == d.name) with
  | false => rfl
  | true =>
    have : (D.take i).any (fun e => e.name == d.name) = true := List.any_eq_true.2 ⟨x, hx, e⟩
    rw [this] at h2
    cases h2
theorem ran_none {B : List FieldD} {nm : List UInt8} : ∀ n, (∀ x ∈ B.take n, (x.name == nm) = false) → getP (ransP (B.take n)) nm = none
  | 0, _ => by simp [ransP, getP]
  | n + 1, h => by
    cases hd : B[n]? with
    | none =>
      have hl : B.length ≤ n := by rwa [List.getElem?_eq_none_iff] at hd
      have ih := ran_none (B := B) (nm := nm) n (fun x hx => h x (by rw [List.take_of_length_le (by omega)]; rwa [List.take_of_length_le hl] at hx))
      rw [List.take_of_length_le (by omega)]
      rwa [List.take_of_length_le hl] at ih
    | some d =>
      rw [(drop_of hd).2] at h ⊢
      have ih := ran_none (B := B) (nm := nm) n (fun x hx => h x (by simp [hx]))
      have hn := h d (by simp)
      rw [ransP_snoc]
      split
      · rw [getP_setP, if_neg (by simpa using hn)]
        exact ih
      · exact ih
theorem ran_at {B : List FieldD} {nm : List UInt8} {i : Nat} {d : FieldD} (ho : Once B) (hi : B[i]? = some d) (hd : d.name = nm) : ∀ n, i < n → getP (ransP (B.take n)) nm = if numB d then some (ranP d) else none
  | 0, h => by omega
  | n + 1, h => by
    by_cases he : n = i
    · subst he
      have hb : ∀ x ∈ B.take n, (x.name == nm) = false := fun x hx => by
        rw [← hd]
        exact ho n d hi x hx
      rw [(drop_of hi).2, ransP_snoc]
      split
      · rw [getP_setP, if_pos hd]
      · exact ran_none n hb
    · have ih := ran_at ho hi hd n (by omega)
      cases hx : B[n]? with
      | none =>
        have hl : B.length ≤ n := by rwa [List.getElem?_eq_none_iff] at hx
        rw [List.take_of_length_le (by omega)]
        rwa [List.take_of_length_le hl] at ih
      | some e =>
        have hmem : d ∈ B.take n := List.mem_of_getElem? (by rw [List.getElem?_take, if_pos (by omega)]; exact hi : (B.take n)[i]? = some d)
        have hne := ho n e hx d hmem
        rw [(drop_of hx).2, ransP_snoc]
        split
        · rw [getP_setP, if_neg (fun e2 => by rw [hd, e2] at hne; simp at hne)]
          exact ih
        · exact ih
/-- What is found of a name: nothing, or the first field with it. -/
theorem ran_idx {B : List FieldD} (ho : Once B) (nm : List UInt8) : (idxOf (fun d : FieldD => d.name == nm) B = -1 ∧ getP (ransP B) nm = none) ∨ ∃ (i : Nat) (d : FieldD), B[i]? = some d ∧ idxOf (fun d : FieldD => d.name == nm) B = ((i : Nat) : Int) ∧ getP (ransP B) nm = if numB d then some (ranP d) else none := by
  by_cases h : ∃ x ∈ B, (x.name == nm) = true
  · obtain ⟨x, hx, hn⟩ := h
    obtain ⟨i, hi, rfl⟩ := List.mem_iff_getElem.1 hx
    obtain ⟨j, e, _, hj, hp, hb⟩ := first_idx (fun d : FieldD => d.name == nm) B i _ (List.getElem?_eq_getElem hi) hn
    refine .inr ⟨j, e, hj, idx_hit hj hb hp, ?_⟩
    have := ran_at ho hj (by simpa using hp) B.length (List.getElem?_eq_some_iff.1 hj).1
    rwa [List.take_length] at this
  · have hb : ∀ x ∈ B, (x.name == nm) = false := fun x hx => by
      cases e : (x.name == nm) with
      | false => rfl
      | true => exact absurd ⟨x, hx, e⟩ h
    refine .inl ⟨idx_miss hb, ?_⟩
    have := ran_none (B := B) (nm := nm) B.length (by rwa [List.take_length])
    rwa [List.take_length] at this
theorem any_idx {B : List FieldD} (nm : List UInt8) : B.any (fun d => d.name == nm) = decide (0 ≤ idxOf (fun d : FieldD => d.name == nm) B) := by
  rw [Bool.eq_iff_iff, decide_eq_true_eq]
  exact (idx_nonneg _ B 0).symm

/-- What is found of a message's name among those ahead. -/
theorem nat_idx {D : List MsgD} {n : Nat} (h : msgsR mrA [] 0 (D.take n) = none) (s : List UInt8) : (idxOf (fun d : MsgD => d.name == s) (D.take n) = -1 ∧ getN (defE (D.take n)) s = none) ∨ ∃ (i : Nat) (m : MsgD), D[i]? = some m ∧ i < n ∧ m.name = s ∧ idxOf (fun d : MsgD => d.name == s) (D.take n) = ((i : Nat) : Int) ∧ getN (defE (D.take n)) s = some (natS (defE (D.take i)) m.fields) := by
  by_cases hx : ∃ x ∈ D.take n, (x.name == s) = true
  · obtain ⟨x, hx, hn⟩ := hx
    obtain ⟨i, hi, rfl⟩ := List.mem_iff_getElem.1 hx
    obtain ⟨j, e, _, hj, hp, hb⟩ := first_idx (fun d : MsgD => d.name == s) (D.take n) i _ (List.getElem?_eq_getElem hi) hn
    have hjl := (List.getElem?_eq_some_iff.1 hj).1
    rw [List.length_take] at hjl
    have hp2 : e.name = s := by simpa using hp
    have hj2 : D[j]? = some e := by rwa [List.getElem?_take, if_pos (by omega)] at hj
    obtain ⟨_, _, h3⟩ := msgsR_each _ _ _ h j e hj
    refine .inr ⟨j, e, hj2, by omega, hp2, idx_hit hj hb hp, ?_⟩
    rw [List.take_take, Nat.min_eq_left (by omega), hp2] at h3
    exact h3
  · have hb : ∀ x ∈ D.take n, (x.name == s) = false := fun x hy => by
      cases e : (x.name == s) with
      | false => rfl
      | true => exact absurd ⟨x, hy, e⟩ hx
    refine .inl ⟨idx_miss hb, ?_⟩
    have h1 := defE_has (D.take n) s
    have h2 : (D.take n).any (fun m => decide (m.name = s)) = false := by
      rw [List.any_eq_false]
      intro x hy
      have := hb x hy
      simpa using this
    rw [h2] at h1
    unfold hasN at h1
    cases e : getN (defE (D.take n)) s with
    | none => rfl
    | some v => rw [e] at h1; cases h1
theorem natF_snoc (E : Nats) (n : Int × Bool) (N : List (List UInt8)) (s : List UInt8) : natF E n (N ++ [s]) = natStep E (natF E n N) s := by simp [natF, List.foldl_append]
end Go.Proofs.YtbpkppmbbpoohaaGreat
