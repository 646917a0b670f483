/- Any field in an examination, and the ranges of fields that pass. Conditions: the examination, the fields, the terms and the cases lie in memory; the ranges before are allowed. Any message and any definition in an examination: Check and Valid. Conditions: the definition lies in memory, apart from what is made anew. -/
import Derived.Test.YtbpkppmbbpoohaaJb
import Derived.Test.YtbpkppmbbpoohaaVa
import Derived.Test.YtbpkppmbbpoohaaVf
import Derived.Test.YtbpkppmbbpoohaaVg
import Derived.Test.YtbpkppmbbpoohaaVi
import Derived.Test.YtbpkppmbbpoohaaTa
import Derived.Test.YtbpkppmbbpoohaaJf
namespace Go.Proofs.Ytbpkppmbbpoohaa
open Go.RowKit Go.Shelf

theorem Try.enK1 : ∀ args w, (callFunc 81 args).run Try.prog w = .ok (.enter 81 args) w := enters_of Try.func81 (by kernel_rfl) rfl
theorem Try.enK2 : ∀ args w, (callFunc 82 args).run Try.prog w = .ok (.enter 82 args) w := enters_of Try.func82 (by kernel_rfl) rfl
theorem Try.enK3 : ∀ args w, (callFunc 83 args).run Try.prog w = .ok (.enter 83 args) w := enters_of Try.func83 (by kernel_rfl) rfl
theorem Try.enK4 : ∀ args w, (callFunc 84 args).run Try.prog w = .ok (.enter 84 args) w := enters_of Try.func84 (by kernel_rfl) rfl
theorem Try.enK5 : ∀ args w, (callFunc 85 args).run Try.prog w = .ok (.enter 85 args) w := enters_of Try.func85 (by kernel_rfl) rfl
theorem Try.enK6 : ∀ args w, (callFunc 86 args).run Try.prog w = .ok (.enter 86 args) w := enters_of Try.func86 (by kernel_rfl) rfl
theorem Try.enK7 : ∀ args w, (callFunc 87 args).run Try.prog w = .ok (.enter 87 args) w := enters_of Try.func87 (by kernel_rfl) rfl
theorem Try.enK8 : ∀ args w, (callFunc 88 args).run Try.prog w = .ok (.enter 88 args) w := enters_of Try.func88 (by kernel_rfl) rfl
theorem Try.enK9 : ∀ args w, (callFunc 89 args).run Try.prog w = .ok (.enter 89 args) w := enters_of Try.func89 (by kernel_rfl) rfl
theorem Try.enK10 : ∀ args w, (callFunc 90 args).run Try.prog w = .ok (.enter 90 args) w := enters_of Try.func90 (by kernel_rfl) rfl
theorem Try.enK11 : ∀ args w, (callFunc 91 args).run Try.prog w = .ok (.enter 91 args) w := enters_of Try.func91 (by kernel_rfl) rfl
theorem Try.enK12 : ∀ args w, (callFunc 92 args).run Try.prog w = .ok (.enter 92 args) w := enters_of Try.func92 (by kernel_rfl) rfl

/-- What the conditions of a field's kind find. -/
def condR (E : Nats) (B : List FieldD) (d : FieldD) : Option Int :=
  if d.kind = 1 then unsR d else if d.kind = 2 then unsR (conD d) else if d.kind = 3 then belowR 34359738368 d else if d.kind = 4 then sizeAllR B d else if d.kind = 5 then untilR d else if d.kind = 6 then headersR d
  else if d.kind = 7 then orR (nestedR E d) (sizeAllR B d) else if d.kind = 8 then nestedR E d else if d.kind = 9 then choiceR E B d else if d.kind = 10 then padR d else if d.kind = 11 then checkR B d else viewR E d (sizeAllR B d)
def fieldAllR (E : Nats) (B : List FieldD) (d : FieldD) : Option Int :=
  orR (ifR (nameB d.name) 1) (orR (ifR (!(B.any (fun e => e.name == d.name))) 2) (orR (ifR (inB d.kind 1 12) 4) (orR (ifR (!(spareB d)) 5) (condR E B d))))
/-- The ranges of numbers are allowed. -/
def AllowB (B : List FieldD) : Prop := ∀ nm p, getP (ransP B) nm = some p → allowP p = true

theorem fieldAll_of {E : Nats} {B : List FieldD} {d : FieldD} {R : Option Int} (h : inB d.kind 1 12 = true) (hR : condR E B d = R) : fieldAllR E B d = fieldR B d (spareB d) R := by
  unfold fieldAllR fieldR
  rw [h, hR]
  rfl

set_option maxHeartbeats 1600000 in
theorem field_all (x kr kk c : Nat) (m f : Int) (A : Option Addr) (B : List FieldD) (d : FieldD) (E : Nats) (S : Nat → Prop) (w : World) (hx : ExAt w x m f kr A B.length c kk) (hB : SlAt FieldD.cells 15 S w A c B) (hk : MapI w kk (condE (.pointer (some ⟨x, 0, none⟩)))) (hm : MapAt w kr (natE E))
    (hT : SlAt TermD.cells 2 S w d.ta d.tc d.terms) (hC : SlAt CaseD.cells 3 S w d.ca d.cc d.cases) (hal : AllowB B) :
    Calls Try.prog 114 #[.pointer (some ⟨x, 0, none⟩), d.agg] w fun e w' => e = doE (fieldAllR E B d) m f ∧ Below w.heap.size w w' := by
  have hX : ∀ wx, Below w.heap.size w wx → ExAt wx x m f kr A B.length c kk := fun wx hb => hx.below hb hx.lt
  have hM : ∀ wx, Below w.heap.size w wx → MapAt wx kr (natE E) := fun wx hb => hm.below hb hm.lt
  have hSz : ∀ wx, Below w.heap.size w wx → Calls Try.prog 84 #[.pointer (some ⟨x, 0, none⟩), d.agg] wx fun e w' => e = doE (sizeAllR B d) m f ∧ Below wx.heap.size wx w' := fun wx hb =>
    exSize_all x kr kk c m f A B d S wx (hX wx hb) (hB.below hb) (hT.below hb) (fun t _ p hp => hal t.f p hp)
  have K := fun F (eg : ∀ args w, (callFunc F args).run Try.prog w = .ok (.enter F args) w) hF R hR => field_any x kr kk c m f A B d S w hx hB hk F eg hF (spareB d) (fun wx => spare_any d wx) R hR
  by_cases h1 : d.kind = 1
  · rw [fieldAll_of (R := unsR d) (by rw [h1]; rfl) (by simp [condR, h1])]
    exact K _ Try.enK1 (by rw [h1]; rfl) _ (fun wx hb => unsigned_any x kr kk B.length c m f A d wx (hX wx hb))
  by_cases h2 : d.kind = 2
  · rw [fieldAll_of (R := unsR (conD d)) (by rw [h2]; rfl) (by simp [condR, h2])]
    exact K _ Try.enK2 (by rw [h2]; rfl) _ (fun wx hb => constant_any (hX wx hb))
  by_cases h3 : d.kind = 3
  · rw [fieldAll_of (R := belowR 34359738368 d) (by rw [h3]; rfl) (by simp [condR, h3])]
    exact K _ Try.enK3 (by rw [h3]; rfl) _ (fun wx hb => varint_any (hX wx hb))
  by_cases h4 : d.kind = 4
  · rw [fieldAll_of (R := sizeAllR B d) (by rw [h4]; rfl) (by simp [condR, h4])]
    exact K _ Try.enK4 (by rw [h4]; rfl) _ hSz
  by_cases h5 : d.kind = 5
  · rw [fieldAll_of (R := untilR d) (by rw [h5]; rfl) (by simp [condR, h5])]
    exact K _ Try.enK5 (by rw [h5]; rfl) _ (fun wx hb => until_any x kr kk B.length c m f A d wx (hX wx hb))
  by_cases h6 : d.kind = 6
  · rw [fieldAll_of (R := headersR d) (by rw [h6]; rfl) (by simp [condR, h6])]
    exact K _ Try.enK6 (by rw [h6]; rfl) _ (fun wx hb => headers_any x kr kk B.length c m f A d wx (hX wx hb))
  by_cases h7 : d.kind = 7
  · rw [fieldAll_of (R := orR (nestedR E d) (sizeAllR B d)) (by rw [h7]; rfl) (by simp [condR, h7])]
    exact K _ Try.enK7 (by rw [h7]; rfl) _ (fun wx hb => list_of E (sizeAllR B d) (hX wx hb) (hM wx hb) (fun _ wy hy => hSz wy (hb.trans (hy.mono hb.size))))
  by_cases h8 : d.kind = 8
  · rw [fieldAll_of (R := nestedR E d) (by rw [h8]; rfl) (by simp [condR, h8])]
    exact K _ Try.enK8 (by rw [h8]; rfl) _ (fun wx hb => nested_any x kr kk B.length c m f A d wx E (hX wx hb) (hM wx hb))
  by_cases h9 : d.kind = 9
  · rw [fieldAll_of (R := choiceR E B d) (by rw [h9]; rfl) (by simp [condR, h9])]
    exact K _ Try.enK9 (by rw [h9]; rfl) _ (fun wx hb => choice_any x kr kk c m f A B d E S wx (hX wx hb) (hB.below hb) (hM wx hb) (hC.below hb) (fun p hp => hal _ p hp))
  by_cases h10 : d.kind = 10
  · rw [fieldAll_of (R := padR d) (by rw [h10]; rfl) (by simp [condR, h10])]
    exact K _ Try.enK10 (by rw [h10]; rfl) _ (fun wx hb => pad_any x kr kk B.length c m f A d wx (hX wx hb))
  by_cases h11 : d.kind = 11
  · rw [fieldAll_of (R := checkR B d) (by rw [h11]; rfl) (by simp [condR, h11])]
    exact K _ Try.enK11 (by rw [h11]; rfl) _ (fun wx hb => checksum_any B S (hX wx hb) (hB.below hb))
  by_cases h12 : d.kind = 12
  · rw [fieldAll_of (R := viewR E d (sizeAllR B d)) (by rw [h12]; rfl) (by simp [condR, h12])]
    exact K _ Try.enK12 (by rw [h12]; rfl) _ (fun wx hb => view_of E (sizeAllR B d) (hX wx hb) (hM wx hb) (fun _ wy hy => hSz wy (hb.trans (hy.mono hb.size))))
  · have hn : inB d.kind 1 12 = false := by
      cases e : inB d.kind 1 12 with
      | false => rfl
      | true =>
        exfalso
        have : 1 ≤ d.kind ∧ d.kind ≤ 12 := by simpa [inB] using e
        omega
    have hz : fieldAllR E B d = orR (ifR (nameB d.name) 1) (orR (ifR (!(B.any (fun e => e.name == d.name))) 2) (some 4)) := by
      unfold fieldAllR
      rw [hn]
      rfl
    rw [hz]
    exact field_no x kr kk c m f A B d S w hx hB hk (by simp [condE, getI, Ne.symm h1, Ne.symm h2, Ne.symm h3, Ne.symm h4, Ne.symm h5, Ne.symm h6, Ne.symm h7, Ne.symm h8, Ne.symm h9, Ne.symm h10, Ne.symm h11, Ne.symm h12])

theorem orR_none {r s : Option Int} (h : orR r s = none) : r = none ∧ s = none := by
  cases r with
  | none => exact ⟨rfl, h⟩
  | some c => cases h
theorem ifR_none {b : Bool} {c : Int} (h : ifR b c = none) : b = true := by
  cases b with
  | false => cases h
  | true => rfl
theorem getP_setP (E : PEnts) (k : List UInt8) (v : Int × Int) (n : List UInt8) : getP (setP E k v) n = if k = n then some v else getP E n := by
  induction E with
  | nil => simp [setP, getP]
  | cons p E ih =>
    simp only [setP]
    split
    · rename_i h
      simp only [getP, h]
      split <;> rfl
    · rename_i h
      simp only [getP]
      split
      · rename_i h2
        rw [if_neg (fun e => h (h2.trans e.symm))]
      · exact ih
theorem below_allow {lim : Int} {d : FieldD} (h : belowR lim d = none) (hl : lim ≤ 34359738368) : allowP (d.low, d.high) = true := by
  have := ifR_none h
  simp only [Bool.and_eq_true, decide_eq_true_eq] at this
  unfold allowP
  simp only [Bool.and_eq_true, decide_eq_true_eq]
  omega
theorem uns_allow {d : FieldD} (h : unsR d = none) : allowP (d.low, d.high) = true := by
  obtain ⟨h1, h2⟩ := orR_none h
  obtain ⟨_, h3⟩ := orR_none h2
  have hb : 1 ≤ d.bits ∧ d.bits ≤ 32 := by simpa [inB] using ifR_none h1
  refine below_allow h3 ?_
  have h4 : d.bits.toNat ≤ 32 := by omega
  have h5 : (2 : Nat) ^ d.bits.toNat ≤ 2 ^ 32 := Nat.pow_le_pow_right (by omega) h4
  have h6 : ((2 : Int) ^ d.bits.toNat) = ((2 ^ d.bits.toNat : Nat) : Int) := by simp
  rw [h6]
  omega
theorem AllowB.nil : AllowB [] := fun nm p h => by cases h
/-- A field that passes keeps the ranges allowed. -/
theorem AllowB.snoc {E : Nats} {B : List FieldD} {d : FieldD} (h : AllowB B) (hd : fieldAllR E B d = none) : AllowB (B ++ [d]) := by
  intro nm p hp
  rw [ransP_snoc] at hp
  by_cases hn : numB d = true
  · rw [if_pos hn, getP_setP] at hp
    split at hp
    · cases hp
      have hc : condR E B d = none := (orR_none (orR_none (orR_none (orR_none hd).2).2).2).2
      have hk : d.kind = 1 ∨ d.kind = 2 ∨ d.kind = 3 := by simpa [numB, or_assoc] using hn
      unfold ranP
      rcases hk with hk | hk | hk
      · simp only [condR, hk] at hc ⊢
        exact uns_allow hc
      · simp only [condR, hk] at hc ⊢
        exact uns_allow (d := conD d) hc
      · simp only [condR, hk] at hc ⊢
        exact below_allow hc (by omega)
    · exact h nm p hp
  · rw [if_neg hn] at hp
    exact h nm p hp
end Go.Proofs.Ytbpkppmbbpoohaa

namespace Go.Proofs.Ytbpkppmbbpoohaa
open Go.RowKit Go.Shelf

theorem orM_none {r s : Option (Int × Int)} (h : orM r s = none) : r = none ∧ s = none := by
  cases r with
  | none => exact ⟨rfl, h⟩
  | some c => cases h
theorem orD_none {r s : Option (Int × Int × Int)} (h : orD r s = none) : r = none ∧ s = none := by
  cases r with
  | none => exact ⟨rfl, h⟩
  | some c => cases h
theorem fieldsR_none (fr : Nat → FieldD → Option Int) : ∀ (D : List FieldD) (k : Nat), fieldsR fr k D = none → ∀ i d, D[i]? = some d → fr (k + i) d = none
  | [], _, _, i, d, h => by simp at h
  | e :: D, k, hn, i, d, h => by
    obtain ⟨h1, h2⟩ := orM_none hn
    match i, h with
    | 0, h =>
      simp only [List.getElem?_cons_zero, Option.some.injEq] at h
      subst h
      cases hf : fr k e with
      | none => first | rfl | exact hf
      | some c => rw [hf] at h1; cases h1
    | i + 1, h =>
      simp only [List.getElem?_cons_succ] at h
      have := fieldsR_none fr D (k + 1) h2 i d h
      rwa [show k + 1 + i = k + (i + 1) by omega] at this
/-- What the examination of a field of a message finds. -/
def frA (E : Nats) (D : List FieldD) : Nat → FieldD → Option Int := fun i d => fieldAllR E (D.take i) d
theorem allow_take {E : Nats} {D : List FieldD} : ∀ n, (∀ i d, i < n → D[i]? = some d → frA E D i d = none) → AllowB (D.take n)
  | 0, _ => AllowB.nil
  | n + 1, h => by
    have ih := allow_take n (fun i d hi hd => h i d (by omega) hd)
    cases hd : D[n]? with
    | none =>
      have hl : D.length ≤ n := by rwa [List.getElem?_eq_none_iff] at hd
      rw [List.take_of_length_le (by omega)]
      rwa [List.take_of_length_le hl] at ih
    | some d =>
      rw [(drop_of hd).2]
      exact ih.snoc (h n d (by omega) hd)
theorem allow_of {E : Nats} {D : List FieldD} {n : Nat} (h : fieldsR (frA E D) 0 (D.take n) = none) : AllowB (D.take n) :=
  allow_take n (fun i d hi hd => by
    have := fieldsR_none _ _ _ h i d (by rw [List.getElem?_take, if_pos hi]; exact hd)
    rwa [Nat.zero_add] at this)
theorem cases_few {E : Nats} {D : List FieldD} (h : fieldsR (frA E D) 0 D = none) {d : FieldD} (hd : d ∈ D) (h9 : d.kind = 9) : d.cases.length ≤ 40 := by
  obtain ⟨i, hi, rfl⟩ := List.mem_iff_getElem.1 hd
  have h1 := fieldsR_none _ _ _ h i _ (List.getElem?_eq_getElem hi)
  have hc := (orR_none (orR_none (orR_none (orR_none h1).2).2).2).2
  simp only [condR, h9] at hc
  have h2 := (orR_none (orR_none hc).2).1
  have : 1 ≤ (D[i].cases.length : Int) ∧ (D[i].cases.length : Int) ≤ 40 := by simpa [inB] using ifR_none h2
  omega
theorem targ_few {d : FieldD} (h : d.kind = 9 → d.cases.length ≤ 40) : (targB d).length ≤ 40 := by
  unfold targB
  split
  · rename_i h9
    rw [List.length_map]
    exact h (by simpa using h9)
  · split <;> simp
theorem targs_few : ∀ (D : List FieldD), (∀ d ∈ D, (targB d).length ≤ 40) → (D.flatMap targB).length ≤ 40 * D.length
  | [], _ => by simp
  | d :: D, h => by
    have h1 := h d (by simp)
    have h2 := targs_few D (fun e he => h e (by simp [he]))
    simp only [List.flatMap_cons, List.length_append, List.length_cons]
    omega

/-- The depths that are known are small. -/
def NatsOk (E : Nats) : Prop := ∀ s, 0 ≤ ((getN E s).getD (0, false)).1 ∧ ((getN E s).getD (0, false)).1 ≤ 1000
theorem NatsOk.nil : NatsOk [] := fun s => by simp [getN]
theorem getN_set (E : Nats) (k : List UInt8) (v : Int × Bool) (n : List UInt8) : getN (setN E k v) n = if k = n then some v else getN E n := by
  induction E with
  | nil => simp [setN, getN]
  | cons p E ih =>
    simp only [setN]
    split
    · rename_i h
      simp only [getN, h]
      split <;> rfl
    · rename_i h
      simp only [getN]
      split
      · rename_i h2
        rw [if_neg (fun e => h (h2.trans e.symm))]
      · exact ih
theorem natF_ge (E : Nats) : ∀ (N : List (List UInt8)) (n : Int × Bool), n.1 ≤ (natF E n N).1
  | [], n => Int.le_refl _
  | s :: N, n => by
    have h1 := natF_ge E N (natStep E n s)
    have h2 : n.1 ≤ (natStep E n s).1 := Int.le_max_left _ _
    exact Int.le_trans h2 h1
/-- What the examination of a message finds. -/
def mrA : Nats → Nat → MsgD → Option (Int × Int) := fun E _ mm => msgR E (frA E mm.fields) mm.name mm.fields
theorem ifM_none {b : Bool} {f c : Int} (h : ifM b f c = none) : b = true := by
  cases b with
  | false => cases h
  | true => rfl
theorem NatsOk.step {E : Nats} {i : Nat} {mm : MsgD} (h : NatsOk E) (hr : mrA E i mm = none) : NatsOk (stepN E mm) := by
  intro s
  unfold stepN
  rw [getN_set]
  split
  · have h1 := ifM_none (orM_none (orM_none (orM_none (orM_none hr).2).2).2).2
    have h2 : (natS E mm.fields).1 ≤ 16 := by simpa using h1
    have h3 : 1 ≤ (natS E mm.fields).1 := natF_ge E (refsN mm.fields) (1, !(mm.fields.any (·.loose)))
    simp only [Option.getD_some]
    omega
  · exact h s
theorem msgsR_none : ∀ (D : List MsgD) (E : Nats) (k : Nat), msgsR mrA E k D = none → NatsOk E → NatsOk (D.foldl stepN E)
  | [], _, _, _, h => h
  | mm :: D, E, k, hn, h => by
    obtain ⟨h1, h2⟩ := orD_none hn
    have hm : mrA E k mm = none := by
      cases hf : mrA E k mm with
      | none => rfl
      | some c => rw [hf] at h1; cases h1
    exact msgsR_none D (stepN E mm) (k + 1) h2 (h.step hm)

set_option maxHeartbeats 1600000 in
theorem message_all (x kr kk n0 c0 : Nat) (m : Int) (A0 : Option Addr) (mm : MsgD) (S : Nat → Prop) (E : Nats) (w : World)
    (hx : ExAt w x m (-1) kr A0 n0 c0 kk) (hm : MapAt w kr (natE E)) (hk : MapI w kk (condE (.pointer (some ⟨x, 0, none⟩)))) (hxk : x ≠ kr) (hkx : kk ≠ x) (h : FieldsAt S w mm.fa mm.fc mm.fields) (hSx : S x) (hSk : S kr) (hE : NatsOk E) (i0 : Nat) :
    Calls Try.prog 95 #[.pointer (some ⟨x, 0, none⟩), mm.agg] w fun e w' => e = doM (mrA E i0 mm) m ∧ Rest (fun k => k = x ∨ k = kr) w w' ∧ (mrA E i0 mm = none → MapAt w' kr (natE (stepN E mm)) ∧ ∃ A' n' c', ExAt w' x m (-1) kr A' n' c' kk) := by
  refine message_any x kr kk n0 c0 m 0 A0 mm.name mm.fa mm.fc mm.fields S E (frA E mm.fields) w hx hm hxk h.1 hSx hSk hE (fun hn hr => ?_) (fun i d wx hd hp hr hex => ?_) (fun hp d hd wx hr => ?_)
  · have := targs_few mm.fields (fun d hd => targ_few (cases_few hr hd))
    omega
  · have hS := h.rest hr (fun k _ e => by rw [e]; exact hSx)
    have hi : i < mm.fields.length := (List.getElem?_eq_some_iff.1 hd).1
    have hlen : (mm.fields.take i).length = i := by rw [List.length_take]; omega
    have hex' : ExAt wx x m (i : Int) kr mm.fa (mm.fields.take i).length mm.fc kk := by rw [hlen]; exact hex
    have hok := hS.2 d (List.mem_of_getElem? hd)
    exact field_all x kr kk mm.fc m (i : Int) mm.fa (mm.fields.take i) d E S wx hex' (hS.1.take i mm.fc (by have := h.1.1; omega) h.1.2.1) (hk.rest hr hkx) (hm.rest hr (Ne.symm hxk)) hok.1 hok.2 (allow_of hp)
  · by_cases h9 : d.kind = 9
    · have hS := h.rest hr (fun k _ e => by rw [e]; exact hSx)
      exact targets_all d S wx (hS.2 d hd).2 (by have := cases_few hp hd h9; omega)
    · exact targets_any d wx h9

/-- The first flaw of a definition. -/
def defAllR (nm st : List UInt8) (D : List MsgD) : Option (Int × Int × Int) := defR mrA nm D st
set_option maxHeartbeats 1600000 in
theorem examine_all (nm st : List UInt8) (A : Option Addr) (c : Nat) (D : List MsgD) (S : Nat → Prop) (w : World) (h : MsgsAt S w A c D) (hS : ∀ k, w.heap.size ≤ k → S k) :
    Calls Try.prog 59 #[.agg #[.string (strL nm), .slice A D.length c, .string (strL st)]] w (ExPost (defAllR nm st D) (defE D) w) := by
  refine examine_any nm st A c D S mrA w h.1 (fun x kr kk hx hkr hxk i mm wx hd _ hp hb hex hm hki hkx hkk => ?_)
  obtain ⟨A', n', c', hex⟩ := hex
  have hE : NatsOk (defE (D.take i)) := msgsR_none _ _ _ hp NatsOk.nil
  exact message_all x kr kk n' c' _ A' mm S _ wx hex hm hki hxk hkx (FieldsAt.below (h.2 mm (List.mem_of_getElem? hd)) hb) (hS x hx) (hS kr hkr) hE i
theorem check_all (nm st : List UInt8) (A : Option Addr) (c : Nat) (D : List MsgD) (S : Nat → Prop) (w : World) (h : MsgsAt S w A c D) (hS : ∀ k, w.heap.size ≤ k → S k) :
    Calls Try.prog 34 #[.agg #[.string (strL nm), .slice A D.length c, .string (strL st)]] w fun e w' => e = .returned (.tuple #[.agg #[.int .i64 (flawT (defAllR nm st D)).1, .int .i64 (flawT (defAllR nm st D)).2.1, .int .i64 (flawT (defAllR nm st D)).2.2], .bool (defAllR nm st D).isSome]) ∧ Below w.heap.size w w' :=
  check_of nm st A D.length c _ (defE D) w (fun wx hb => examine_all nm st A c D S wx (h.below hb) (fun k hk => hS k (Nat.le_trans hb.size hk)))
theorem valid_all (nm st : List UInt8) (A : Option Addr) (c : Nat) (D : List MsgD) (S : Nat → Prop) (w : World) (h : MsgsAt S w A c D) (hS : ∀ k, w.heap.size ≤ k → S k) :
    Calls Try.prog 35 #[.agg #[.string (strL nm), .slice A D.length c, .string (strL st)]] w fun e w' => e = .returned (.bool (!(defAllR nm st D).isSome)) ∧ Below w.heap.size w w' :=
  valid_of nm st A D.length c _ (defE D) w (fun wx hb => examine_all nm st A c D S wx (h.below hb) (fun k hk => hS k (Nat.le_trans hb.size hk)))
end Go.Proofs.Ytbpkppmbbpoohaa
