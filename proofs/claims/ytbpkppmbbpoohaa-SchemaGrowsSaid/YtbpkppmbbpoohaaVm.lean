/- What an examination finds doesn't hang on where things lie. Plain facts. What a valid definition stays when messages come or go. Plain facts. A valid definition with an equal further message; the depths of the messages to which one refers. Plain facts. -/
import Derived.Test.YtbpkppmbbpoohaaVk
import Derived.Test.YtbpkppmbbpoohaaCd
namespace Go.Proofs.Ytbpkppmbbpoohaa
open Go.RowKit Go.Shelf

/-- A field, a message without places. -/
def normF (d : FieldD) : FieldD := { d with ta := none, tc := 0, ca := none, cc := 0 }
def normM (m : MsgD) : MsgD := { name := m.name, fa := none, fc := 0, fields := m.fields.map normF }

set_option linter.unusedSimpArgs false in
theorem clrD_norm (d : FieldD) : clrD (normF d) = normF (clrD d) := by
  unfold clrD normF
  simp only
  by_cases h1 : d.kind = 1
  · simp only [h1, if_true]
  by_cases h2 : d.kind = 2
  · simp only [h1, h2, if_true, if_false]; rfl
  by_cases h3 : d.kind = 3
  · simp only [h1, h2, h3, if_true, if_false]; rfl
  by_cases h4 : d.kind = 4
  · simp only [h1, h2, h3, h4, if_true, if_false]; rfl
  by_cases h5 : d.kind = 5
  · simp only [h1, h2, h3, h4, h5, if_true, if_false]; rfl
  by_cases h6 : d.kind = 6
  · simp only [h1, h2, h3, h4, h5, h6, if_true, if_false]; rfl
  by_cases h7 : d.kind = 7
  · simp only [h1, h2, h3, h4, h5, h6, h7, if_true, if_false]; rfl
  by_cases h8 : d.kind = 8
  · simp only [h1, h2, h3, h4, h5, h6, h7, h8, if_true, if_false]; rfl
  by_cases h9 : d.kind = 9
  · simp only [h1, h2, h3, h4, h5, h6, h7, h8, h9, if_true, if_false]; rfl
  by_cases h10 : d.kind = 10
  · simp only [h1, h2, h3, h4, h5, h6, h7, h8, h9, h10, if_true, if_false]; rfl
  by_cases h11 : d.kind = 11
  · simp only [h1, h2, h3, h4, h5, h6, h7, h8, h9, h10, h11, if_true, if_false]; rfl
  by_cases h12 : d.kind = 12
  · simp only [h1, h2, h3, h4, h5, h6, h7, h8, h9, h10, h11, h12, if_true, if_false]; rfl
  · simp only [h1, h2, h3, h4, h5, h6, h7, h8, h9, h10, h11, h12, if_false]
theorem spareB_norm (d : FieldD) : spareB (normF d) = spareB d := by
  unfold spareB
  rw [clrD_norm]
  exact congrArg (fun b => !b) (decide_eq_decide.2 Iff.rfl)
theorem ransP_norm (B : List FieldD) : ransP (B.map normF) = ransP B := by
  unfold ransP
  rw [List.foldl_map]
  rfl
theorem any_norm (B : List FieldD) (s : List UInt8) : (B.map normF).any (fun e => e.name == s) = B.any (fun e => e.name == s) := by
  rw [List.any_map]
  rfl
theorem condR_norm (E : Nats) (B : List FieldD) (d : FieldD) : condR E (B.map normF) (normF d) = condR E B d := by
  have h1 : sizeAllR (B.map normF) (normF d) = sizeAllR B d := by
    unfold sizeAllR sizeR
    rw [ransP_norm]
    rfl
  have h2 : choiceR E (B.map normF) (normF d) = choiceR E B d := by
    unfold choiceR
    rw [ransP_norm, List.any_map]
    rfl
  have h3 : checkR (B.map normF) (normF d) = checkR B d := by
    unfold checkR
    rw [any_norm]
    rfl
  unfold condR
  rw [h1, h2, h3]
  rfl
theorem fieldAllR_norm (E : Nats) (B : List FieldD) (d : FieldD) : fieldAllR E (B.map normF) (normF d) = fieldAllR E B d := by
  unfold fieldAllR
  rw [condR_norm, spareB_norm, any_norm]
  rfl
theorem fieldsR_norm (E : Nats) (D : List FieldD) : fieldsR (frA E (D.map normF)) 0 (D.map normF) = fieldsR (frA E D) 0 D := by
  suffices h : ∀ (F : List FieldD) (k : Nat), fieldsR (frA E (D.map normF)) k (F.map normF) = fieldsR (frA E D) k F from h D 0
  intro F
  induction F with
  | nil => intro k; rfl
  | cons d F ih =>
    intro k
    simp only [List.map_cons, fieldsR, ih]
    congr 1
    unfold frA
    rw [← List.map_take, fieldAllR_norm]
theorem refsN_norm (D : List FieldD) : refsN (D.map normF) = refsN D := by
  unfold refsN
  congr 1
  rw [List.flatMap_map]
  rfl
theorem natS_norm (E : Nats) (D : List FieldD) : natS E (D.map normF) = natS E D := by
  unfold natS
  rw [refsN_norm, List.any_map]
  rfl
theorem mrA_norm (E : Nats) (i : Nat) (mm : MsgD) : mrA E i (normM mm) = mrA E i mm := by
  unfold mrA msgR normM
  simp only [fieldsR_norm, natS_norm, List.length_map]
theorem stepN_norm (E : Nats) (mm : MsgD) : stepN E (normM mm) = stepN E mm := by
  unfold stepN normM
  simp only [natS_norm]
theorem foldN_norm : ∀ (D : List MsgD) (E : Nats), (D.map normM).foldl stepN E = D.foldl stepN E
  | [], _ => rfl
  | m :: D, E => by
    simp only [List.map_cons, List.foldl_cons, stepN_norm]
    exact foldN_norm D _
theorem defE_norm (D : List MsgD) : defE (D.map normM) = defE D := foldN_norm D []
theorem msgsR_norm : ∀ (D : List MsgD) (E : Nats) (k : Nat), msgsR mrA E k (D.map normM) = msgsR mrA E k D
  | [], _, _ => rfl
  | m :: D, E, k => by
    simp only [List.map_cons, msgsR, mrA_norm, stepN_norm, msgsR_norm D]
theorem defAllR_norm (nm st : List UInt8) (D : List MsgD) : defAllR nm st (D.map normM) = defAllR nm st D := by
  unfold defAllR defR
  rw [msgsR_norm, defE_norm, List.length_map]
/-- Definitions that differ by places alone. -/
theorem defAllR_like {nm st : List UInt8} {D D' : List MsgD} (h : D'.map normM = D.map normM) : defAllR nm st D' = defAllR nm st D := by
  rw [← defAllR_norm nm st D', h, defAllR_norm]
theorem copF_norm {lo : Nat} {W : World} {d d' : FieldD} (h : CopF lo W d d') : normF d' = normF d := by
  rw [h.same]
  rfl
theorem copM_norm {lo : Nat} {W : World} {m m' : MsgD} (h : CopM lo W m m') : normM m' = normM m := by
  unfold normM
  have h1 : m'.fields.map normF = m.fields.map normF := by
    apply List.ext_getElem?
    intro i
    rw [List.getElem?_map, List.getElem?_map]
    by_cases hi : i < m.fields.length
    · have hi' : i < m'.fields.length := by rw [h.len]; exact hi
      rw [List.getElem?_eq_getElem hi, List.getElem?_eq_getElem hi']
      simp only [Option.map_some]
      rw [copF_norm (h.cop i _ _ (List.getElem?_eq_getElem hi) (List.getElem?_eq_getElem hi'))]
    · have hi' : ¬ i < m'.fields.length := by rw [h.len]; exact hi
      rw [List.getElem?_eq_none (by omega), List.getElem?_eq_none (by omega)]
  rw [h1, h.name]
theorem copD_norm {lo : Nat} {W : World} {D D' : List MsgD} {A : Option Addr} (h : CopD lo W D A D') : D'.map normM = D.map normM := by
  apply List.ext_getElem?
  intro i
  rw [List.getElem?_map, List.getElem?_map]
  by_cases hi : i < D.length
  · have hi' : i < D'.length := by rw [h.len]; exact hi
    rw [List.getElem?_eq_getElem hi, List.getElem?_eq_getElem hi']
    simp only [Option.map_some]
    rw [copM_norm (h.cop i _ _ (List.getElem?_eq_getElem hi) (List.getElem?_eq_getElem hi'))]
  · have hi' : ¬ i < D'.length := by rw [h.len]; exact hi
    rw [List.getElem?_eq_none (by omega), List.getElem?_eq_none (by omega)]
end Go.Proofs.Ytbpkppmbbpoohaa

namespace Go.Proofs.Ytbpkppmbbpoohaa
open Go.RowKit Go.Shelf

theorem ifD_none {b : Bool} {c : Int} (h : ifD b c = none) : b = true := by
  cases b with
  | false => cases h
  | true => rfl
structure ValidD (st : List UInt8) (nm : List UInt8) (D : List MsgD) : Prop where
  name : nameB nm = true
  least : 1 ≤ D.length
  most : D.length ≤ 60
  msgs : msgsR mrA [] 0 D = none
  start : hasN (defE D) st = true
theorem validD_parts {nm st : List UInt8} {D : List MsgD} (h : defAllR nm st D = none) : ValidD st nm D := by
  obtain ⟨h1, h2⟩ := orD_none h
  obtain ⟨h3, h4⟩ := orD_none h2
  obtain ⟨h5, h6⟩ := orD_none h4
  have : 1 ≤ (D.length : Int) ∧ (D.length : Int) ≤ 60 := by simpa [inB] using ifD_none h3
  exact ⟨ifD_none h1, by omega, by omega, h5, ifD_none h6⟩
theorem validD_of {nm st : List UInt8} {D : List MsgD} (h : ValidD st nm D) : defAllR nm st D = none := by
  unfold defAllR defR
  have h3 : inB (D.length : Int) 1 60 = true := by
    have := h.least
    have := h.most
    simp [inB]
    omega
  rw [h.name, h3, h.msgs, h.start]
  rfl

/-- A flaw in a message stays the first one when a message is added. -/
theorem flaw_stays {nm st : List UInt8} {D : List MsgD} {x : MsgD} {p : Int × Int × Int} (h : defAllR nm st D = some p) (hp : 0 ≤ p.1) (hn : D.length ≤ 59) : defAllR nm st (D ++ [x]) = some p := by
  unfold defAllR defR at h ⊢
  cases h1 : nameB nm with
  | false =>
    rw [h1] at h
    cases h
    exact absurd hp (by decide)
  | true =>
    rw [h1] at h
    cases h2 : inB (D.length : Int) 1 60 with
    | false =>
      rw [h2] at h
      cases h
      exact absurd hp (by decide)
    | true =>
      rw [h2] at h
      have h3 : inB ((D ++ [x]).length : Int) 1 60 = true := by
        have : 1 ≤ (D.length : Int) ∧ (D.length : Int) ≤ 60 := by simpa [inB] using h2
        simp [inB]
        omega
      rw [h3, msgsR_app]
      cases h4 : msgsR mrA [] 0 D with
      | none =>
        rw [h4] at h
        cases h5 : hasN (defE D) st with
        | false =>
          rw [h5] at h
          cases h
          exact absurd hp (by decide)
        | true =>
          rw [h5] at h
          cases h
      | some q =>
        rw [h4] at h
        exact h

/-- What is known stays known. -/
def Knows (E F : Nats) : Prop := ∀ n v, getN E n = some v → getN F n = some v
theorem Knows.refl (E : Nats) : Knows E E := fun _ _ h => h
theorem Knows.trans {E F G : Nats} (h : Knows E F) (k : Knows F G) : Knows E G := fun n v e => k n v (h n v e)
theorem Knows.has {E F : Nats} (h : Knows E F) {s : List UInt8} (hs : hasN E s = true) : hasN F s = true := by
  unfold hasN at hs ⊢
  obtain ⟨v, hv⟩ := Option.isSome_iff_exists.1 hs
  rw [h s v hv]
  rfl
theorem hasN_set (E : Nats) (k : List UInt8) (v : Int × Bool) (n : List UInt8) : hasN (setN E k v) n = (decide (k = n) || hasN E n) := by
  unfold hasN
  rw [getN_set]
  by_cases h : k = n
  · rw [if_pos h]; simp [h]
  · rw [if_neg h]; simp [h]
theorem Knows.step {E : Nats} {mm : MsgD} (h : hasN E mm.name = false) : Knows E (stepN E mm) := by
  intro n v hv
  unfold stepN
  rw [getN_set, if_neg (fun e => by
    subst e
    unfold hasN at h
    rw [hv] at h
    cases h)]
  exact hv
structure MsgOkR (E : Nats) (mm : MsgD) : Prop where
  name : nameB mm.name = true
  once : hasN E mm.name = false
  few : inB (mm.fields.length : Int) 1 40 = true
  fields : fieldsR (frA E mm.fields) 0 mm.fields = none
  depth : (natS E mm.fields).1 ≤ 16
theorem msg_parts {E : Nats} {i : Nat} {mm : MsgD} (h : mrA E i mm = none) : MsgOkR E mm := by
  obtain ⟨h1, h2⟩ := orM_none h
  obtain ⟨h3, h4⟩ := orM_none h2
  obtain ⟨h5, h6⟩ := orM_none h4
  obtain ⟨h7, h8⟩ := orM_none h6
  exact ⟨ifM_none h1, by simpa using ifM_none h3, ifM_none h5, h7, by simpa using ifM_none h8⟩
theorem msg_of_parts {E : Nats} {i : Nat} {mm : MsgD} (h : MsgOkR E mm) : mrA E i mm = none := by
  unfold mrA msgR
  have h5 : decide ((natS E mm.fields).1 ≤ 16) = true := by simpa using h.depth
  rw [h.name, h.once, h.few, h.fields, h5]
  rfl
/-- Every message of those that pass passes where it stands. -/
theorem msgsR_each : ∀ (D : List MsgD) (E : Nats) (k : Nat), msgsR mrA E k D = none → ∀ i mm, D[i]? = some mm → MsgOkR ((D.take i).foldl stepN E) mm ∧ Knows ((D.take i).foldl stepN E) (D.foldl stepN E) ∧ getN (D.foldl stepN E) mm.name = some (natS ((D.take i).foldl stepN E) mm.fields)
  | [], _, _, _, i, mm, h => by simp at h
  | m :: D, E, k, hn, i, mm, h => by
    obtain ⟨h1, h2⟩ := orD_none hn
    have hm : mrA E k m = none := by
      cases hf : mrA E k m with
      | none => rfl
      | some c => rw [hf] at h1; cases h1
    have hp := msg_parts hm
    have hall := msgsR_each D (stepN E m) (k + 1) h2
    have hkn : Knows (stepN E m) (D.foldl stepN (stepN E m)) := by
      cases D with
      | nil => exact Knows.refl _
      | cons e D => exact (hall 0 e rfl).2.1
    match i, h with
    | 0, h =>
      simp only [List.getElem?_cons_zero, Option.some.injEq] at h
      subst h
      refine ⟨hp, (Knows.step hp.once).trans hkn, hkn _ _ ?_⟩
      show getN (stepN E m) m.name = some (natS E m.fields)
      unfold stepN
      exact getN_setN _ _ _
    | i + 1, h =>
      simp only [List.getElem?_cons_succ] at h
      exact hall i mm h
theorem fold_has : ∀ (D : List MsgD) (E : Nats) (s : List UInt8), hasN (D.foldl stepN E) s = (D.any (fun m => decide (m.name = s)) || hasN E s)
  | [], _, _ => by simp
  | m :: D, E, s => by
    rw [List.foldl_cons, fold_has D, List.any_cons]
    unfold stepN
    rw [hasN_set]
    cases decide (m.name = s) <;> cases D.any (fun m => decide (m.name = s)) <;> simp
theorem defE_has (D : List MsgD) (s : List UInt8) : hasN (defE D) s = D.any (fun m => decide (m.name = s)) := by
  unfold defE
  rw [fold_has]
  simp [hasN, getN]

/-- A valid definition without its last message, which is not the start. -/
theorem valid_less {nm st : List UInt8} {L : List MsgD} {z : MsgD} (h : defAllR nm st (L ++ [z]) = none) (hz : z.name ≠ st) : defAllR nm st L = none := by
  have hp := validD_parts h
  have h1 := hp.msgs
  rw [msgsR_app] at h1
  have hst := hp.start
  rw [defE_has, List.any_append] at hst
  have hst2 : L.any (fun m => decide (m.name = st)) = true := by simpa [hz] using hst
  refine validD_of ⟨hp.name, ?_, ?_, (orD_none h1).1, ?_⟩
  · cases L with
    | nil => simp at hst2
    | cons _ _ => simp
  · have := hp.most
    rw [List.length_append] at this
    omega
  · rw [defE_has]
    exact hst2
end Go.Proofs.Ytbpkppmbbpoohaa

namespace Go.Proofs.Ytbpkppmbbpoohaa
open Go.RowKit Go.Shelf

theorem casesR_mono {E F : Nats} (h : Knows E F) (hi : Int) : ∀ (C : List CaseD) (l : Int), casesR E hi l C = none → casesR F hi l C = none
  | [], _, _ => rfl
  | c :: C, l, hn => by
    obtain ⟨h1, h2⟩ := orR_none hn
    obtain ⟨h3, h4⟩ := orR_none h2
    simp only [casesR]
    rw [h1, h.has (ifR_none h3), casesR_mono h hi C _ h4]
    rfl
theorem nestedR_mono {E F : Nats} (h : Knows E F) {d : FieldD} (hn : nestedR E d = none) : nestedR F d = none := by
  unfold nestedR at hn ⊢
  rw [h.has (ifR_none hn)]
  rfl
theorem strict_has {E : Nats} {s : List UInt8} (h : ((getN E s).getD (0, false)).2 = true) : ∃ v, getN E s = some v := by
  cases e : getN E s with
  | none => rw [e] at h; cases h
  | some v => exact ⟨v, rfl⟩
theorem viewR_mono {E F : Nats} (h : Knows E F) {d : FieldD} {R : Option Int} (hn : viewR E d R = none) : viewR F d R = none := by
  obtain ⟨h1, h2⟩ := orR_none hn
  obtain ⟨h3, h4⟩ := orR_none h2
  have h5 := ifR_none h3
  obtain ⟨v, hv⟩ := strict_has h5
  rw [hv] at h5
  unfold viewR
  rw [h1, h _ _ hv, h5, h4]
  rfl
theorem choiceR_mono {E F : Nats} (h : Knows E F) {B : List FieldD} {d : FieldD} (hn : choiceR E B d = none) : choiceR F B d = none := by
  obtain ⟨h1, h2⟩ := orR_none hn
  obtain ⟨h3, h4⟩ := orR_none h2
  unfold choiceR
  rw [h1, h3, casesR_mono h _ _ _ h4]
  rfl
theorem condR_mono {E F : Nats} (h : Knows E F) {B : List FieldD} {d : FieldD} (hn : condR E B d = none) : condR F B d = none := by
  by_cases h1 : d.kind = 1
  · simp only [condR, h1] at hn ⊢; exact hn
  by_cases h2 : d.kind = 2
  · simp only [condR, h2] at hn ⊢; exact hn
  by_cases h3 : d.kind = 3
  · simp only [condR, h3] at hn ⊢; exact hn
  by_cases h4 : d.kind = 4
  · simp only [condR, h4] at hn ⊢; exact hn
  by_cases h5 : d.kind = 5
  · simp only [condR, h5] at hn ⊢; exact hn
  by_cases h6 : d.kind = 6
  · simp only [condR, h6] at hn ⊢; exact hn
  by_cases h7 : d.kind = 7
  · simp only [condR, h7] at hn ⊢
    obtain ⟨a, b⟩ := orR_none hn
    show orR (nestedR F d) (sizeAllR B d) = none
    rw [nestedR_mono h a]
    exact b
  by_cases h8 : d.kind = 8
  · simp only [condR, h8] at hn ⊢; exact nestedR_mono h hn
  by_cases h9 : d.kind = 9
  · simp only [condR, h9] at hn ⊢; exact choiceR_mono h hn
  by_cases h10 : d.kind = 10
  · simp only [condR, h10] at hn ⊢; exact hn
  by_cases h11 : d.kind = 11
  · simp only [condR, h11] at hn ⊢; exact hn
  · simp only [condR, h1, h2, h3, h4, h5, h6, h7, h8, h9, h10, h11, if_false] at hn ⊢
    exact viewR_mono h hn
theorem fieldAllR_mono {E F : Nats} (h : Knows E F) {B : List FieldD} {d : FieldD} (hn : fieldAllR E B d = none) : fieldAllR F B d = none := by
  obtain ⟨h1, h2⟩ := orR_none hn
  obtain ⟨h3, h4⟩ := orR_none h2
  obtain ⟨h5, h6⟩ := orR_none h4
  obtain ⟨h7, h8⟩ := orR_none h6
  unfold fieldAllR
  rw [h1, h3, h5, h7, condR_mono h h8]
  rfl
theorem fieldsR_mono {E F : Nats} (h : Knows E F) (D : List FieldD) : ∀ (G : List FieldD) (k : Nat), fieldsR (frA E D) k G = none → fieldsR (frA F D) k G = none
  | [], _, _ => rfl
  | d :: G, k, hn => by
    obtain ⟨h1, h2⟩ := orM_none hn
    have hd : frA E D k d = none := by
      cases hf : frA E D k d with
      | none => rfl
      | some c => rw [hf] at h1; cases h1
    simp only [fieldsR]
    rw [fieldsR_mono h D G (k + 1) h2, show frA F D k d = none from fieldAllR_mono h hd]
    rfl
theorem casesR_has {E : Nats} {hi : Int} : ∀ (C : List CaseD) (l : Int), casesR E hi l C = none → ∀ c ∈ C, hasN E c.of_ = true
  | [], _, _, c, hc => by simp at hc
  | e :: C, l, hn, c, hc => by
    obtain ⟨_, h2⟩ := orR_none hn
    obtain ⟨h3, h4⟩ := orR_none h2
    rcases List.mem_cons.1 hc with rfl | hc
    · exact ifR_none h3
    · exact casesR_has C _ h4 c hc
/-- What a field that passes refers to is known. -/
theorem targ_has {E : Nats} {B : List FieldD} {d : FieldD} (h : fieldAllR E B d = none) : ∀ s ∈ targB d, hasN E s = true := by
  intro s hs
  have hc := (orR_none (orR_none (orR_none (orR_none h).2).2).2).2
  unfold targB at hs
  split at hs
  · rename_i h9
    have h9 : d.kind = 9 := by simpa using h9
    simp only [condR, h9] at hc
    obtain ⟨c, hcm, rfl⟩ := List.mem_map.1 hs
    exact casesR_has _ _ (orR_none (orR_none hc).2).2 c hcm
  · split at hs
    · rename_i hk
      simp only [List.mem_cons, List.not_mem_nil, or_false] at hs
      subst hs
      have hk : d.kind = 7 ∨ d.kind = 8 ∨ d.kind = 12 := by simpa [or_assoc] using hk
      rcases hk with hk | hk | hk
      · simp only [condR, hk] at hc
        exact ifR_none (orR_none hc).1
      · simp only [condR, hk] at hc
        exact ifR_none hc
      · simp only [condR, hk] at hc
        obtain ⟨v, hv⟩ := strict_has (ifR_none (orR_none (orR_none hc).2).1)
        unfold hasN
        rw [hv]
        rfl
    · simp at hs
theorem addN_mem {N : List (List UInt8)} {s t : List UInt8} (h : t ∈ addN N s) : t ∈ N ∨ t = s := by
  unfold addN at h
  split at h
  · exact .inl h
  · simpa using h
theorem addAll_mem : ∀ (L N : List (List UInt8)) (t : List UInt8), t ∈ addAll N L → t ∈ N ∨ t ∈ L
  | [], _, _, h => .inl h
  | s :: L, N, t, h => by
    rcases addAll_mem L (addN N s) t h with h | h
    · rcases addN_mem h with h | h
      · exact .inl h
      · exact .inr (by simp [h])
    · exact .inr (by simp [h])
theorem refs_has {E : Nats} {D : List FieldD} (h : fieldsR (frA E D) 0 D = none) : ∀ s ∈ refsN D, hasN E s = true := by
  intro s hs
  rcases addAll_mem _ _ _ hs with h1 | h1
  · simp at h1
  · obtain ⟨d, hd, hsd⟩ := List.mem_flatMap.1 h1
    obtain ⟨i, hi, rfl⟩ := List.mem_iff_getElem.1 hd
    exact targ_has (fieldsR_none _ _ _ h i _ (List.getElem?_eq_getElem hi)) s hsd
theorem natF_mono {E F : Nats} (h : Knows E F) : ∀ (N : List (List UInt8)) (n : Int × Bool), (∀ s ∈ N, hasN E s = true) → natF F n N = natF E n N
  | [], _, _ => rfl
  | s :: N, n, hs => by
    have h1 : getN F s = getN E s := by
      obtain ⟨v, hv⟩ := Option.isSome_iff_exists.1 (hs s (by simp))
      rw [hv, h s v hv]
    show natF F (natStep F n s) N = natF E (natStep E n s) N
    rw [show natStep F n s = natStep E n s by unfold natStep; rw [h1]]
    exact natF_mono h N _ (fun t ht => hs t (by simp [ht]))
theorem natS_mono {E F : Nats} (h : Knows E F) {D : List FieldD} (hp : fieldsR (frA E D) 0 D = none) : natS F D = natS E D := natF_mono h _ _ (refs_has hp)

/-- A valid definition with an equal further message with a new name. -/
theorem valid_more {nm st s : List UInt8} {D : List MsgD} {k : Nat} {mm : MsgD} (h : defAllR nm st D = none) (hk : D[k]? = some mm) (hn : D.length ≤ 59) (hs : nameB s = true) (hnew : D.any (fun m => m.name == s) = false) : defAllR nm st (D ++ [{ mm with name := s }]) = none := by
  have hp := validD_parts h
  obtain ⟨h1, h2, _⟩ := msgsR_each D [] 0 hp.msgs k mm hk
  have hone : hasN (defE D) s = false := by
    rw [defE_has, ← hnew]
    congr 1
    funext m
    by_cases h : m.name = s <;> simp [h]
  have hmr : mrA (defE D) (0 + D.length) { mm with name := s } = none := msg_of_parts ⟨hs, hone, h1.few, fieldsR_mono h2 _ _ 0 h1.fields, by
    show (natS (defE D) mm.fields).1 ≤ 16
    rw [show natS (defE D) mm.fields = _ from natS_mono h2 h1.fields]
    exact h1.depth⟩
  refine validD_of ⟨hp.name, by simp, by simp; omega, ?_, ?_⟩
  · rw [msgsR_app, hp.msgs]
    show orD ((mrA (defE D) (0 + D.length) { mm with name := s }).map _) none = none
    rw [hmr]
    rfl
  · rw [defE_snoc]
    exact (Knows.step hone).has hp.start

theorem natF_above (E : Nats) : ∀ (N : List (List UInt8)) (n : Int × Bool) (s : List UInt8), s ∈ N → 1 + ((getN E s).getD (0, false)).1 ≤ (natF E n N).1
  | [], _, _, h => by simp at h
  | t :: N, n, s, h => by
    rcases List.mem_cons.1 h with rfl | h
    · exact Int.le_trans (Int.le_max_right _ _) (natF_ge E N (natStep E n s))
    · exact natF_above E N (natStep E n t) s h
/-- What is told of a message of a valid definition. -/
theorem nature_of {nm st : List UInt8} {D : List MsgD} {k : Nat} {mm : MsgD} (h : defAllR nm st D = none) (hk : D[k]? = some mm) : ((getN (defE D) mm.name).getD (0, false)).1 = (natS (defE (D.take k)) mm.fields).1 ∧ 1 ≤ (natS (defE (D.take k)) mm.fields).1 ∧ (natS (defE (D.take k)) mm.fields).1 ≤ 16 := by
  obtain ⟨h1, _, h3⟩ := msgsR_each D [] 0 (validD_parts h).msgs k mm hk
  refine ⟨by rw [show getN (defE D) mm.name = _ from h3]; rfl, natF_ge _ _ _, h1.depth⟩
theorem first_idx {α : Type} (p : α → Bool) : ∀ (D : List α) (i : Nat) (d : α), D[i]? = some d → p d = true → ∃ (j : Nat) (e : α), j ≤ i ∧ D[j]? = some e ∧ p e = true ∧ ∀ x ∈ D.take j, p x = false
  | [], _, _, h, _ => by simp at h
  | a :: D, i, d, h, hp => by
    cases ha : p a with
    | true => exact ⟨0, a, Nat.zero_le _, rfl, ha, by simp⟩
    | false =>
      match i, h with
      | 0, h =>
        simp only [List.getElem?_cons_zero, Option.some.injEq] at h
        subst h
        rw [ha] at hp
        cases hp
      | i + 1, h =>
        simp only [List.getElem?_cons_succ] at h
        obtain ⟨j, e, hj, hg, hpe, hb⟩ := first_idx p D i d h hp
        refine ⟨j + 1, e, by omega, by simpa using hg, hpe, fun x hx => ?_⟩
        rw [List.take_succ_cons] at hx
        rcases List.mem_cons.1 hx with rfl | hx
        · exact ha
        · exact hb x hx
/-- The messages to which one refers come before it and are less deep. -/
theorem refs_below {nm st : List UInt8} {D : List MsgD} {k : Nat} {mm : MsgD} (h : defAllR nm st D = none) (hk : D[k]? = some mm) {s : List UInt8} (hs : s ∈ refsN mm.fields) : ∃ (i : Nat) (me : MsgD), D[i]? = some me ∧ i < k ∧ me.name = s ∧ idxOf (fun d : MsgD => d.name == s) D = ((i : Nat) : Int) ∧ ((getN (defE D) s).getD (0, false)).1 < (natS (defE (D.take k)) mm.fields).1 := by
  obtain ⟨h1, h2, _⟩ := msgsR_each D [] 0 (validD_parts h).msgs k mm hk
  have hh := refs_has h1.fields s hs
  have hany : (D.take k).any (fun m => decide (m.name = s)) = true := by
    rw [← defE_has]
    exact hh
  have hab := natF_above (defE (D.take k)) (refsN mm.fields) (1, !(mm.fields.any (·.loose))) s hs
  have hge : getN (defE D) s = getN (defE (D.take k)) s := by
    obtain ⟨v, hv⟩ := Option.isSome_iff_exists.1 hh
    rw [show getN (defE (D.take k)) s = some v from hv]
    exact h2 s v hv
  have hidx : ∃ (i : Nat) (me : MsgD), D[i]? = some me ∧ i < k ∧ me.name = s ∧ ∀ x ∈ D.take i, (x.name == s) = false := by
    obtain ⟨me, hme, hns⟩ := List.any_eq_true.1 hany
    obtain ⟨i, hi, rfl⟩ := List.mem_iff_getElem.1 hme
    have hik : i < k := by rw [List.length_take] at hi; omega
    have hget := List.getElem?_eq_getElem hi
    rw [List.getElem?_take, if_pos hik] at hget
    obtain ⟨j, me, hj, hgj, hpj, hbj⟩ := first_idx (fun m : MsgD => m.name == s) D i _ hget (by simpa using hns)
    exact ⟨j, me, hgj, by omega, by simpa using hpj, hbj⟩
  obtain ⟨i, me, hi, hik, hne, hb⟩ := hidx
  refine ⟨i, me, hi, hik, hne, idx_hit hi hb (by simp [hne]), ?_⟩
  rw [hge]
  have : (natS (defE (D.take k)) mm.fields).1 = (natF (defE (D.take k)) (1, !(mm.fields.any (·.loose))) (refsN mm.fields)).1 := rfl
  omega
end Go.Proofs.Ytbpkppmbbpoohaa
