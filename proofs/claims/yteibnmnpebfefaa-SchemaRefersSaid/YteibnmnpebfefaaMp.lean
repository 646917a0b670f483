/- Maps keyed by texts, with whatever elements: looking up and storing. Conditions: the map lies in memory. -/
import Derived.Test.YteibnmnpebfefaaSb
import Derived.WideMake
namespace Go.Proofs.Yteibnmnpebfefaa
open Go.RowKit Go.Shelf

/-- Entries, in the order in which they were laid. -/
abbrev Ents := List (List UInt8 × Value)
def getE : Ents → List UInt8 → Option Value
  | [], _ => none
  | p :: E, k => if p.1 = k then some p.2 else getE E k
def setE : Ents → List UInt8 → Value → Ents
  | [], k, v => [(k, v)]
  | p :: E, k, v => if p.1 = k then (k, v) :: E else p :: setE E k v
def hasE (E : Ents) (k : List UInt8) : Bool := (getE E k).isSome

def entOf (p : List UInt8 × Value) : Value × Value := (.string (strL p.1), p.2)
def MapAt (W : World) (r : Nat) (E : Ents) : Prop := ∃ es clock, W.heap[r]? = some (.map es clock) ∧ es.toList.map (fun e => (e.key, e.val)) = E.map entOf

theorem MapAt.lt {W : World} {r : Nat} {E : Ents} (h : MapAt W r E) : r < W.heap.size := by
  obtain ⟨es, c, h, _⟩ := h
  exact (Array.getElem?_eq_some_iff.1 h).1
theorem MapAt.below {W W' : World} {r n : Nat} {E : Ents} (h : MapAt W r E) (hb : Below n W W') (hn : r < n) : MapAt W' r E := by
  obtain ⟨es, c, h, h2⟩ := h
  exact ⟨es, c, (hb.block r hn).trans h, h2⟩
theorem MapAt.rest {S : Nat → Prop} {W W' : World} {r : Nat} {E : Ents} (h : MapAt W r E) (hr : Rest S W W') (hs : ¬ S r) : MapAt W' r E := by
  have hl := h.lt
  obtain ⟨es, c, h, h2⟩ := h
  exact ⟨es, c, (hr.block r hl hs).trans h, h2⟩
theorem MapAt.new (W : World) : MapAt (W.alloc (.map #[] 0)) W.heap.size [] := ⟨#[], 0, heap_alloc_new W _, rfl⟩

theorem strL_beq (a b : List UInt8) : (strL a == strL b) = (a == b) := by
  show (a.toArray == b.toArray) = _
  simp
theorem find_str (k : List UInt8) : ∀ (l : List MapEntry) (E : Ents) (i : Nat), l.map (fun e => (e.key, e.val)) = E.map entOf →
    (getE E k = none ∧ Instr.findNow .string (.string (strL k)) l i = some none ∧ setE E k = fun v => E ++ [(k, v)]) ∨
    ∃ j v, getE E k = some v ∧ Instr.findNow .string (.string (strL k)) l i = some (some (i + j, v)) ∧ j < l.length ∧ (∀ u, setE E k u = E.set j (k, u)) ∧ ∃ p, E[j]? = some p ∧ p.1 = k := by
  intro l
  induction l with
  | nil =>
    intro E i h
    have : E = [] := by cases E with
      | nil => rfl
      | cons p E => simp at h
    subst this
    exact .inl ⟨rfl, rfl, rfl⟩
  | cons e l ih =>
    intro E i h
    cases E with
    | nil => simp at h
    | cons p E =>
      simp only [List.map_cons, List.cons.injEq, entOf, Prod.mk.injEq] at h
      obtain ⟨⟨hk, hv⟩, ht⟩ := h
      by_cases hp : p.1 = k
      · refine .inr ⟨0, p.2, by simp [getE, hp], ?_, by simp, fun u => by simp [setE, hp], p, by simp, hp⟩
        unfold Instr.findNow
        rw [hk, hp]
        simp [Instr.sameNow, hv, strL_beq]
      · have hne : (strL k == strL p.1) = false := by
          rw [strL_beq]
          simpa using fun e : k = p.1 => hp e.symm
        rcases ih E (i + 1) ht with ⟨h1, h2, h3⟩ | ⟨j, v, h1, h2, h3, h4, q, h5, h6⟩
        · refine .inl ⟨by simp [getE, hp, h1], ?_, ?_⟩
          · unfold Instr.findNow
            rw [hk]
            simp [Instr.sameNow, hne, h2]
          · funext v
            simp [setE, hp, h3]
        · refine .inr ⟨j + 1, v, by simp [getE, hp, h1], ?_, by simpa using h3, fun u => by simp [setE, hp, h4], q, by simpa using h5, h6⟩
          unfold Instr.findNow
          rw [hk]
          simp [Instr.sameNow, hne, h2]
          omega

section
variable {P : Program} {mt kt et : TypeId}
theorem run_look {W : World} {r : Nat} {E : Ents} {z : Value} (hm : P.underlying mt = some (.map kt et)) (hk : P.underlying kt = some .string) (hz : (zeroValue et).run P W = .ok z W) (h : MapAt W r E) (k : List UInt8) :
    (Instr.lookup mt (.map (some r)) (.string (strL k)) false).run P W = .ok ((getE E k).getD z) W := by
  obtain ⟨es, clock, hb, he⟩ := h
  have hc : ∀ b, (Instr.checkKey b 10000 kt (.string (strL k))).run P W = .ok () W := fun b => MapKept.run_checkKey (k := .string (strL k)) hk (by simp [MapKept.IsKey]) b 9999
  rcases find_str k es.toList E 0 he with ⟨h1, h2, _⟩ | ⟨j, v, h1, h2, _⟩
  · simp [Instr.lookup, run_underlying hm, MapKept.run_getObj_map hb, hc, MapKept.run_findKey hk h2, hz, Result.andThen, h1]
  · simp [Instr.lookup, run_underlying hm, MapKept.run_getObj_map hb, hc, MapKept.run_findKey hk h2, Result.andThen, h1]
theorem run_look_ok {W : World} {r : Nat} {E : Ents} {z : Value} (hm : P.underlying mt = some (.map kt et)) (hk : P.underlying kt = some .string) (hz : (zeroValue et).run P W = .ok z W) (h : MapAt W r E) (k : List UInt8) :
    (Instr.lookup mt (.map (some r)) (.string (strL k)) true).run P W = .ok (.tuple #[(getE E k).getD z, .bool (hasE E k)]) W := by
  obtain ⟨es, clock, hb, he⟩ := h
  have hc : ∀ b, (Instr.checkKey b 10000 kt (.string (strL k))).run P W = .ok () W := fun b => MapKept.run_checkKey (k := .string (strL k)) hk (by simp [MapKept.IsKey]) b 9999
  rcases find_str k es.toList E 0 he with ⟨h1, h2, _⟩ | ⟨j, v, h1, h2, _⟩
  · simp [Instr.lookup, run_underlying hm, MapKept.run_getObj_map hb, hc, MapKept.run_findKey hk h2, hz, Result.andThen, h1, hasE]
  · simp [Instr.lookup, run_underlying hm, MapKept.run_getObj_map hb, hc, MapKept.run_findKey hk h2, Result.andThen, h1, hasE]

theorem map_set {es : Array MapEntry} {E : Ents} {j : Nat} {k : List UInt8} {u : Value} (he : es.toList.map (fun e => (e.key, e.val)) = E.map entOf) :
    (es.modify j fun e => { e with key := .string (strL k), val := u }).toList.map (fun e => (e.key, e.val)) = (E.set j (k, u)).map entOf := by
  rw [List.map_set, ← he]
  apply List.ext_getElem?
  intro i
  simp only [List.getElem?_map, List.getElem?_set, Array.getElem?_toList, Array.getElem?_modify]
  by_cases hij : j = i
  · subst hij
    cases hx : es[j]? with
    | none =>
      have hl : ¬ j < es.size := by
        rw [Array.getElem?_eq_none_iff] at hx; omega
      simp [hl]
    | some e =>
      have hl : j < es.size := (Array.getElem?_eq_some_iff.1 hx).1
      simp [hl, entOf]
  · simp [hij]

/-- A store: the map alone turns. -/
theorem run_store {W : World} {r : Nat} {E : Ents} (hm : P.underlying mt = some (.map kt et)) (hk : P.underlying kt = some .string) (h : MapAt W r E) (k : List UInt8) (u : Value) :
    ∃ W', (Instr.mapUpdate mt (.map (some r)) (.string (strL k)) u).run P W = .ok () W' ∧ MapAt W' r (setE E k u) ∧ Rest (fun i => i = r) W W' := by
  obtain ⟨es, clock, hb, he⟩ := h
  have hlt : r < W.heap.size := (Array.getElem?_eq_some_iff.1 hb).1
  have hc : ∀ b, (Instr.checkKey b 10000 kt (.string (strL k))).run P W = .ok () W := fun b => MapKept.run_checkKey (k := .string (strL k)) hk (by simp [MapKept.IsKey]) b 9999
  have hrest : ∀ o, Rest (fun i => i = r) W { W with heap := W.heap.setIfInBounds r o } := fun o => ⟨rfl, rfl, rfl, by simp, fun i _ hi => by simp [Ne.symm hi]⟩
  rcases find_str k es.toList E 0 he with ⟨h1, h2, h3⟩ | ⟨j, v, h1, h2, h3, h4, q, h5, h6⟩
  · refine ⟨_, ?_, ?_, hrest (.map (es.push { key := .string (strL k), val := u, born := clock }) (clock + 1))⟩
    · simp [Instr.mapUpdate, run_underlying hm, MapKept.run_getObj_map hb, hc, MapKept.run_findKey hk h2, MapKept.run_setObj_map _ hb, Result.andThen]
    · refine ⟨_, _, (MapKept.heap_set hb).1, ?_⟩
      rw [congrFun h3 u]
      simp [he, entOf]
  · have hj : ∃ e, es[j]? = some e := by
      have : j < es.size := by simpa using h3
      exact ⟨es[j], Array.getElem?_eq_getElem this⟩
    obtain ⟨e0, he0⟩ := hj
    have hke : e0.key = .string (strL k) := by
      have : (es.toList.map (fun e => (e.key, e.val)))[j]? = (E.map entOf)[j]? := by rw [he]
      simp only [List.getElem?_map, Array.getElem?_toList, he0, h5, Option.map_some, Option.some.injEq, entOf, Prod.mk.injEq] at this
      rw [this.1, h6]
    have hstay : (Instr.keyThatStays (((es[j]?).map (·.key)).getD (.string (strL k))) (.string (strL k))).run P W = .ok (.string (strL k)) W := by
      simp [he0, hke, Instr.keyThatStays, Instr.sameBits, strL_beq]
    have h2' : Instr.findNow .string (.string (strL k)) es.toList 0 = some (some (j, v)) := by rw [h2, Nat.zero_add]
    refine ⟨_, ?_, ?_, hrest (.map (es.modify j fun e => { e with key := .string (strL k), val := u }) clock)⟩
    · simp [Instr.mapUpdate, run_underlying hm, MapKept.run_getObj_map hb, hc, MapKept.run_findKey hk h2', MapKept.run_setObj_map _ hb, Result.andThen, hstay]
    · refine ⟨_, _, (MapKept.heap_set hb).1, ?_⟩
      rw [h4 u]
      exact map_set he
end
end Go.Proofs.Yteibnmnpebfefaa
