/- Maps keyed by numbers; the conditions of the kinds. Conditions: the map lies in memory. -/
import Derived.Test.YtbpkppmbbpoohaaGa
import Derived.WideMake
namespace Go.Proofs.Ytbpkppmbbpoohaa
open Go.RowKit Go.Shelf

/-- Entries keyed by numbers. -/
abbrev EntsI := List (Int × Value)
def getI : EntsI → Int → Option Value
  | [], _ => none
  | p :: E, k => if p.1 = k then some p.2 else getI E k
def entI (p : Int × Value) : Value × Value := (.int .i64 p.1, p.2)
def MapI (W : World) (r : Nat) (E : EntsI) : Prop := ∃ es clock, W.heap[r]? = some (.map es clock) ∧ es.toList.map (fun e => (e.key, e.val)) = E.map entI
theorem MapI.lt {W : World} {r : Nat} {E : EntsI} (h : MapI W r E) : r < W.heap.size := by
  obtain ⟨es, c, h, _⟩ := h
  exact (Array.getElem?_eq_some_iff.1 h).1
theorem MapI.below {W W' : World} {r n : Nat} {E : EntsI} (h : MapI W r E) (hb : Below n W W') (hn : r < n) : MapI W' r E := by
  obtain ⟨es, c, h, h2⟩ := h
  exact ⟨es, c, (hb.block r hn).trans h, h2⟩
theorem MapI.rest {S : Nat → Prop} {W W' : World} {r : Nat} {E : EntsI} (h : MapI W r E) (hr : Rest S W W') (hs : ¬ S r) : MapI W' r E := by
  have hl := h.lt
  obtain ⟨es, c, h, h2⟩ := h
  exact ⟨es, c, (hr.block r hl hs).trans h, h2⟩
theorem MapI.new (W : World) : MapI (W.alloc (.map #[] 0)) W.heap.size [] := ⟨#[], 0, heap_alloc_new W _, rfl⟩
theorem find_int (k : Int) : ∀ (l : List MapEntry) (E : EntsI) (i : Nat), l.map (fun e => (e.key, e.val)) = E.map entI →
    (getI E k = none ∧ Instr.findNow (.int .i64) (.int .i64 k) l i = some none) ∨
    ∃ j v, getI E k = some v ∧ Instr.findNow (.int .i64) (.int .i64 k) l i = some (some (j, v)) := by
  intro l
  induction l with
  | nil =>
    intro E i h
    have : E = [] := by cases E with
      | nil => rfl
      | cons p E => simp at h
    subst this
    exact .inl ⟨rfl, rfl⟩
  | cons e l ih =>
    intro E i h
    cases E with
    | nil => simp at h
    | cons p E =>
      simp only [List.map_cons, List.cons.injEq, entI, Prod.mk.injEq] at h
      obtain ⟨⟨hk, hv⟩, ht⟩ := h
      by_cases hp : p.1 = k
      · refine .inr ⟨i, p.2, by simp [getI, hp], ?_⟩
        unfold Instr.findNow
        rw [hk, hp]
        simp [Instr.sameNow, hv]
      · have hne : (k == p.1) = false := by simpa using fun e : k = p.1 => hp e.symm
        rcases ih E (i + 1) ht with ⟨h1, h2⟩ | ⟨j, v, h1, h2⟩
        · refine .inl ⟨by simp [getI, hp, h1], ?_⟩
          unfold Instr.findNow
          rw [hk]
          simp [Instr.sameNow, hne, h2]
        · refine .inr ⟨j, v, by simp [getI, hp, h1], ?_⟩
          unfold Instr.findNow
          rw [hk]
          simp [Instr.sameNow, hne, h2]
section
variable {P : Program} {mt kt et : TypeId}
theorem run_lookI {W : World} {r : Nat} {E : EntsI} {z : Value} (hm : P.underlying mt = some (.map kt et)) (hk : P.underlying kt = some (.int .i64)) (hz : (zeroValue et).run P W = .ok z W) (h : MapI W r E) (k : Int) :
    (Instr.lookup mt (.map (some r)) (.int .i64 k) true).run P W = .ok (.tuple #[(getI E k).getD z, .bool (getI E k).isSome]) W := by
  obtain ⟨es, clock, hb, he⟩ := h
  have hc : ∀ b, (Instr.checkKey b 10000 kt (.int .i64 k)).run P W = .ok () W := fun b => MapKept.run_checkKey (k := .int .i64 k) hk (by simp [MapKept.IsKey]) b 9999
  rcases find_int k es.toList E 0 he with ⟨h1, h2⟩ | ⟨j, v, h1, h2⟩
  · simp [Instr.lookup, run_underlying hm, MapKept.run_getObj_map hb, hc, MapKept.run_findKey hk h2, hz, Result.andThen, h1]
  · simp [Instr.lookup, run_underlying hm, MapKept.run_getObj_map hb, hc, MapKept.run_findKey hk h2, Result.andThen, h1]
/-- A store under a new number. -/
theorem run_storeI {W : World} {r : Nat} {E : EntsI} (hm : P.underlying mt = some (.map kt et)) (hk : P.underlying kt = some (.int .i64)) (h : MapI W r E) (k : Int) (u : Value) (hg : getI E k = none) :
    ∃ W', (Instr.mapUpdate mt (.map (some r)) (.int .i64 k) u).run P W = .ok () W' ∧ MapI W' r (E ++ [(k, u)]) ∧ Rest (fun i => i = r) W W' := by
  obtain ⟨es, clock, hb, he⟩ := h
  have hlt : r < W.heap.size := (Array.getElem?_eq_some_iff.1 hb).1
  have hc : ∀ b, (Instr.checkKey b 10000 kt (.int .i64 k)).run P W = .ok () W := fun b => MapKept.run_checkKey (k := .int .i64 k) hk (by simp [MapKept.IsKey]) b 9999
  have hrest : ∀ o, Rest (fun i => i = r) W { W with heap := W.heap.setIfInBounds r o } := fun o => ⟨rfl, rfl, rfl, by simp, fun i _ hi => by simp [Ne.symm hi]⟩
  rcases find_int k es.toList E 0 he with ⟨h1, h2⟩ | ⟨j, v, h1, h2⟩
  · refine ⟨_, ?_, ?_, hrest (.map (es.push { key := .int .i64 k, val := u, born := clock }) (clock + 1))⟩
    · simp [Instr.mapUpdate, run_underlying hm, MapKept.run_getObj_map hb, hc, MapKept.run_findKey hk h2, MapKept.run_setObj_map _ hb, Result.andThen]
    · exact ⟨_, _, (MapKept.heap_set hb).1, by simp [he, entI]⟩
  · rw [hg] at h1; cases h1
end

/-- A function bound to a receiver. -/
abbrev fnV (k : Nat) (v : Value) : Value := .func (.func k) #[v] #[]
/-- The conditions of the kinds, of an examination at v. -/
def condE (v : Value) : EntsI := [(1, fnV 81 v), (2, fnV 82 v), (3, fnV 83 v), (4, fnV 84 v), (5, fnV 85 v), (6, fnV 86 v), (7, fnV 87 v), (8, fnV 88 v), (9, fnV 89 v), (10, fnV 90 v), (11, fnV 91 v), (12, fnV 92 v)]
theorem Try.um122 : Try.prog.underlying 122 = some (.map 22 132) := by kernel_rfl
theorem Try.ukind : Try.prog.underlying 22 = some (.int .i64) := by kernel_rfl
theorem Try.zeroCond (w : World) : (zeroValue 132).run Try.prog w = .ok .nilFunc w := by kernel_rfl
set_option maxRecDepth 100000 in
set_option maxHeartbeats 3200000 in
theorem conditions_any (v : Value) (w : World) : Calls Try.prog 74 #[v] w fun e w' => e = .returned (.map (some w.heap.size)) ∧ MapI w' w.heap.size (condE v) ∧ Below w.heap.size w w' := by
  have hal := below_alloc w (.map #[] 0)
  have hm0 := MapI.new w
  have hmk := run_makeMap_plain (P := Try.prog) w 122
  obtain ⟨r, er⟩ : ∃ r, w.heap.size = r := ⟨_, rfl⟩
  obtain ⟨w0, hw0⟩ : ∃ w0, w.alloc (.map #[] 0) = w0 := ⟨_, rfl⟩
  rw [hw0] at hal hm0 hmk
  rw [er] at hm0 hmk
  have hr0 : Rest (fun i => i = r) w0 w0 := Rest.refl _ _
  obtain ⟨w1, hu1, hm1, hs1⟩ := run_storeI (P := Try.prog) Try.um122 Try.ukind hm0 1 (fnV 81 v) (by rfl)
  have hr1 := hr0.trans hs1 (fun _ _ e => e)
  clear hs1 hm0 hr0
  obtain ⟨w2, hu2, hm2, hs2⟩ := run_storeI (P := Try.prog) Try.um122 Try.ukind hm1 2 (fnV 82 v) (by rfl)
  have hr2 := hr1.trans hs2 (fun _ _ e => e)
  clear hs2 hm1 hr1
  obtain ⟨w3, hu3, hm3, hs3⟩ := run_storeI (P := Try.prog) Try.um122 Try.ukind hm2 3 (fnV 83 v) (by rfl)
  have hr3 := hr2.trans hs3 (fun _ _ e => e)
  clear hs3 hm2 hr2
  obtain ⟨w4, hu4, hm4, hs4⟩ := run_storeI (P := Try.prog) Try.um122 Try.ukind hm3 4 (fnV 84 v) (by rfl)
  have hr4 := hr3.trans hs4 (fun _ _ e => e)
  clear hs4 hm3 hr3
  obtain ⟨w5, hu5, hm5, hs5⟩ := run_storeI (P := Try.prog) Try.um122 Try.ukind hm4 5 (fnV 85 v) (by rfl)
  have hr5 := hr4.trans hs5 (fun _ _ e => e)
  clear hs5 hm4 hr4
  obtain ⟨w6, hu6, hm6, hs6⟩ := run_storeI (P := Try.prog) Try.um122 Try.ukind hm5 6 (fnV 86 v) (by rfl)
  have hr6 := hr5.trans hs6 (fun _ _ e => e)
  clear hs6 hm5 hr5
  obtain ⟨w7, hu7, hm7, hs7⟩ := run_storeI (P := Try.prog) Try.um122 Try.ukind hm6 7 (fnV 87 v) (by rfl)
  have hr7 := hr6.trans hs7 (fun _ _ e => e)
  clear hs7 hm6 hr6
  obtain ⟨w8, hu8, hm8, hs8⟩ := run_storeI (P := Try.prog) Try.um122 Try.ukind hm7 8 (fnV 88 v) (by rfl)
  have hr8 := hr7.trans hs8 (fun _ _ e => e)
  clear hs8 hm7 hr7
  obtain ⟨w9, hu9, hm9, hs9⟩ := run_storeI (P := Try.prog) Try.um122 Try.ukind hm8 9 (fnV 89 v) (by rfl)
  have hr9 := hr8.trans hs9 (fun _ _ e => e)
  clear hs9 hm8 hr8
  obtain ⟨w10, hu10, hm10, hs10⟩ := run_storeI (P := Try.prog) Try.um122 Try.ukind hm9 10 (fnV 90 v) (by rfl)
  have hr10 := hr9.trans hs10 (fun _ _ e => e)
  clear hs10 hm9 hr9
  obtain ⟨w11, hu11, hm11, hs11⟩ := run_storeI (P := Try.prog) Try.um122 Try.ukind hm10 11 (fnV 91 v) (by rfl)
  have hr11 := hr10.trans hs11 (fun _ _ e => e)
  clear hs11 hm10 hr10
  obtain ⟨w12, hu12, hm12, hs12⟩ := run_storeI (P := Try.prog) Try.um122 Try.ukind hm11 12 (fnV 92 v) (by rfl)
  have hr12 := hr11.trans hs12 (fun _ _ e => e)
  clear hs12 hm11 hr11
  have hbl : Below w.heap.size w w12 := ((Rest.below (S := fun i => i = r) hal).trans hr12 (fun _ _ e => e)).toBelow w.heap.size (Nat.le_refl _) (fun i hi e => by omega)
  have HM := Lib.hid hm12
  have HB := Lib.hid hbl
  have W0 := Lib.hid hw0
  have ER := Lib.hid er
  clear hm12 hr12 hbl hal hw0
  unfold fnV at *
  rw [ER.out]
  clear er
  go_enter Try.func74, Try.ntmps74
  go_wp2
  refine bodyPost_ret (by simp [results, Try.results74, go_sem]; try rfl) rfl ?_
  exact ⟨rfl, HM.out, ER.out ▸ HB.out⟩
end Go.Proofs.Ytbpkppmbbpoohaa
