/- A slice of tokens as an argument is opened: each token with its five cells. Conditions: it reads as data. -/
import Derived.Test.YtgdjfifnnhfonaaRows
import Derived.Test.YtgdjfifnnhfonaaU
import Derived.ProofKit
import Derived.ChangeMaps5
import Derived.Lib.SmallJoins
import Derived.Deep.Slices
namespace Go.Proofs.Ytgdjfifnnhfonaa
open Go.ChangeShapes Go.WideShapes Go.ChangeAt Go.RowKit Go.Joins Go.Deep

instance : Inhabited TokI := ⟨⟨0, [], 0, 0, 0⟩⟩

theorem shape_lt {W : World} {b : Nat} {x : TypeId × Nat} (h : W.shape? b = some x) : b < W.heap.size := by
  unfold World.shape? at h
  cases hh : W.heap[b]? with
  | none => rw [hh] at h; cases h
  | some o => exact (Array.getElem?_eq_some_iff.1 hh).1

theorem ones36 : ∃ f0 f1 f2 f3 : Field, Try.prog.underlying 36 = some (.struct #[f0, f1, f2, f3]) ∧ f0.offset = 0 ∧ f1.offset = 1 ∧ f2.offset = 2 ∧ f3.offset = 3 ∧ f0.type = 34 ∧ f1.type = 9 ∧ f2.type = 3 ∧ f3.type = 25 := ⟨_, _, _, _, Try.underlying36, rfl, rfl, rfl, rfl, rfl, rfl, rfl, rfl⟩
theorem ones25 : ∃ f0 f1 : Field, Try.prog.underlying 25 = some (.struct #[f0, f1]) ∧ f0.offset = 0 ∧ f1.offset = 1 ∧ f0.type = 3 ∧ f1.type = 3 := ⟨_, _, Try.underlying25, rfl, rfl, rfl, rfl⟩
theorem Try.cells3 : Try.prog.cellsOf 3 = 1 := by kernel_rfl
theorem Try.cells9 : Try.prog.cellsOf 9 = 1 := by kernel_rfl
theorem Try.cells25 : Try.prog.cellsOf 25 = 2 := by kernel_rfl
theorem Try.cells34 : Try.prog.cellsOf 34 = 1 := by kernel_rfl
theorem Try.cells36 : Try.prog.cellsOf 36 = 5 := by kernel_rfl

theorem list2 {α : Type} {cs : List α} (h : cs.length = 2) : ∃ c0 c1, cs = [c0, c1] := by
  match cs, h with
  | [c0, c1], _ => exact ⟨c0, c1, rfl⟩
theorem list5 {α : Type} {cs : List α} (h : cs.length = 5) : ∃ c0 c1 c2 c3 c4, cs = [c0, c1, c2, c3, c4] := by
  match cs, h with
  | [c0, c1, c2, c3, c4], _ => exact ⟨c0, c1, c2, c3, c4, rfl⟩

set_option maxRecDepth 100000 in
theorem place_open {H : Type} {enc : TypeId × Value → H} {W : World} {n : Nat} {cs : List Value} {y : DataW H × List MemPlace} (h : DataW.trod enc Try.prog W 0 (fun _ => true) true n 25 cs = some y) :
    ∃ a b : Int, cs = [.int .i64 a, .int .i64 b] := by
  obtain ⟨f0, f1, hu, o0, o1, t0, t1⟩ := ones25
  obtain ⟨y0, y1, n', _, hlen, h0, h1⟩ := trod_struct2 hu h
  rw [Try.cells25] at hlen
  obtain ⟨c0, c1, rfl⟩ := list2 hlen
  · rw [o0, t0, Try.cells3] at h0
    rw [o1, t1, Try.cells3] at h1
    simp at h0 h1
    obtain ⟨a, e0, _, _⟩ := DataW.trod_int Try.underlying3 h0
    obtain ⟨b, e1, _, _⟩ := DataW.trod_int Try.underlying3 h1
    simp at e0 e1
    subst e0 e1
    exact ⟨a, b, rfl⟩

set_option maxRecDepth 100000 in
/-- The cells of a token, opened. -/
theorem tok_open {H : Type} {enc : TypeId × Value → H} {W : World} {n : Nat} {cs : List Value} {y : DataW H × List MemPlace} (h : DataW.trod enc Try.prog W 0 (fun _ => true) true n 36 cs = some y) :
    ∃ d : TokI, cs = d.cells := by
  obtain ⟨f0, f1, f2, f3, hu, o0, o1, o2, o3, t0, t1, t2, t3⟩ := ones36
  obtain ⟨y0, y1, y2, y3, n', _, hlen, h0, h1, h2, h3⟩ := trod_struct4 hu h
  rw [Try.cells36] at hlen
  obtain ⟨c0, c1, c2, c3, c4, rfl⟩ := list5 hlen
  · rw [o0, t0, Try.cells34] at h0
    rw [o1, t1, Try.cells9] at h1
    rw [o2, t2, Try.cells3] at h2
    rw [o3, t3, Try.cells25] at h3
    simp at h0 h1 h2 h3
    obtain ⟨k, e0, _, _⟩ := DataW.trod_int Try.underlying34 h0
    obtain ⟨s, e1, _, _⟩ := DataW.trod_string Try.underlying9 h1
    obtain ⟨v, e2, _, _⟩ := DataW.trod_int Try.underlying3 h2
    obtain ⟨a, b, e3⟩ := place_open h3
    simp at e0 e1 e2 e3
    obtain ⟨e3, e4⟩ := e3
    subst e0 e1 e2 e3 e4
    exact ⟨⟨k, s.data.toList, v, a, b⟩, by unfold TokI.cells; rw [strL_of]⟩

set_option maxRecDepth 100000 in
/-- A slice of tokens as an argument. -/
theorem arg_toks {H : Type} {enc : TypeId × Value → H} {W : World} {base : Nat} {v1 : Value} {d1 : DataW H} {p1 : List MemPlace} (hval : Value.okWide Try.prog W .any base 23 v1) (h1 : DataW.Trod enc Try.prog W 0 (fun _ => true) true 23 v1 d1 p1) :
    ∃ L, ToksAt W v1 L ∧ L.length ≤ 9223372036854775807 := by
  obtain ⟨a1, len, cap, rfl⟩ := okWide_slice Try.underlying23 hval
  obtain ⟨fuel, hf⟩ := h1
  rcases open_slice Try.underlying23 hf with ⟨hcs, hx⟩ | ⟨a, len', cap', m, n, D, Pl, hcs, _, hl, hm, hmm, _, hx⟩
  · simp [Value.cells] at hcs
    obtain ⟨rfl, rfl, rfl⟩ := hcs
    exact ⟨[], .inl ⟨rfl, _, _, rfl⟩, by simp⟩
  · simp [Value.cells] at hcs
    obtain ⟨rfl, rfl, rfl⟩ := hcs
    simp only [if_true] at hmm
    obtain ⟨g, o, sp⟩ := a
    have hsp : sp = none := by
      simp only [Value.okWide, Try.underlying23, Cell.okWide, Cell.ok] at hval
      obtain ⟨_, _, _, hspot, row, cells, hs, _⟩ := hval
      exact hspot
    subst hsp
    rw [Try.cells36] at hx
    obtain ⟨f, hfl⟩ := choose_lt (α := TokI) (n := m) (p := fun i d => ∀ j u, d.cells[j]? = some u → W.cell? ⟨g, o + i * 5 + j, none⟩ = some u) (fun i hi => by
      obtain ⟨cs', hc1, hc2⟩ := hx i hi
      obtain ⟨_, _, hcc⟩ := World.cells?_some hc1
      obtain ⟨d, rfl⟩ := tok_open hc2
      refine ⟨d, fun j u hu => ?_⟩
      have hj : j < 5 := by
        have := (List.getElem?_eq_some_iff.1 hu).1
        simpa [TokI.cells] using this
      have := hcc j hj
      rw [hu] at this
      rw [add_at, add_at] at this
      exact this)
    have hmL : cap ≤ 9223372036854775807 := hm
    refine ⟨(List.range len).map f, .inr ⟨g, o, cap, by simp, by simpa using hl, hm, fun i d hi => ?_⟩, by simp; omega⟩
    have hil : i < len := by
      have := (List.getElem?_eq_some_iff.1 hi).1
      simpa using this
    simp [hil] at hi
    subst hi
    exact hfl i (by omega)
end Go.Proofs.Ytgdjfifnnhfonaa
