/- Arguments are opened: terms, cases, sizes, fields, messages, a definition. Conditions: they read as data. -/
import Derived.Test.YtbpkppmbbpoohaaRows
import Derived.Test.YtbpkppmbbpoohaaGa
import Derived.ProofKit
import Derived.ChangeMaps5
import Derived.Lib.SmallJoins
import Derived.Deep.Slices
namespace Go.Proofs.Ytbpkppmbbpoohaa
open Go.ChangeShapes Go.WideShapes Go.ChangeAt Go.RowKit Go.Joins Go.Deep

instance : Inhabited TermD := ⟨⟨[], 0⟩⟩
instance : Inhabited CaseD := ⟨⟨0, 0, []⟩⟩
instance : Inhabited FieldD := ⟨⟨[], 0, 0, false, false, 0, 0, 0, none, 0, [], [], [], [], none, 0, [], 0, 0⟩⟩
instance : Inhabited MsgD := ⟨⟨[], none, 0, []⟩⟩
def i64B (n : Int) : Prop := -9223372036854775808 ≤ n ∧ n ≤ 9223372036854775807
def TermW (d : TermD) : Prop := i64B d.k
def CaseW (d : CaseD) : Prop := i64B d.lo ∧ i64B d.hi
structure FieldW (d : FieldD) : Prop where
  kind : i64B d.kind
  bits : i64B d.bits
  low : i64B d.low
  high : i64B d.high
  base : i64B d.base
  check : i64B d.check
  key : i64B d.key
  terms : ∀ t ∈ d.terms, TermW t
  cases : ∀ c ∈ d.cases, CaseW c

theorem spot_none {W : World} {a : Addr} {v : Value} (h : W.cell? a = some v) : a.spot = none := by
  obtain ⟨b, o, sp⟩ := a
  cases sp with
  | none => rfl
  | some k =>
    exfalso
    simp [World.cell?] at h
    split at h <;> simp_all
theorem read_lt {W : World} {a : Addr} {v : Value} (h : W.cell? a = some v) : a.block < W.heap.size :=
  Nat.lt_of_not_le fun hge => by simp [World.cell?, Array.getElem?_eq_none hge] at h

section
variable {H : Type} {enc : TypeId × Value → H} {W : World}
theorem fld {t : TypeId} {fs : Array Field} {fuel : Nat} {cs : List Value} {x : DataW H × List MemPlace} (ht : Try.prog.underlying t = some (.struct fs)) (h : DataW.trod enc Try.prog W 0 (fun _ => true) true fuel t cs = some x) (i : Nat) (f : Field) (hi : fs[i]? = some f) :
    ∃ n y, DataW.trod enc Try.prog W 0 (fun _ => true) true n f.type ((cs.drop f.offset).take (Try.prog.cellsOf f.type)) = some y := by
  obtain ⟨xs, n, _, _, _, hl, hf⟩ := DataW.trod_struct ht h
  have h1 := hf i f hi
  have hi' : i < xs.length := by rw [hl]; exact (Array.getElem?_eq_some_iff.1 hi).1
  rw [List.getElem?_eq_getElem hi'] at h1
  exact ⟨n, _, h1⟩
theorem fld_len {t : TypeId} {fs : Array Field} {fuel : Nat} {cs : List Value} {x : DataW H × List MemPlace} (ht : Try.prog.underlying t = some (.struct fs)) (h : DataW.trod enc Try.prog W 0 (fun _ => true) true fuel t cs = some x) : cs.length = Try.prog.cellsOf t := by
  obtain ⟨xs, n, _, _, hl, _, _⟩ := DataW.trod_struct ht h
  exact hl
/-- A slice whose elements open. -/
theorem open_sl {α : Type} [Inhabited α] (cf : α → List Value) (s : Nat) (Q : α → Prop) (t e : TypeId) (ht : Try.prog.underlying t = some (.slice e)) (hc : Try.prog.cellsOf e = s) (h0 : 0 < s) (hcf : ∀ d, (cf d).length = s)
    (he : ∀ n cs y, DataW.trod enc Try.prog W 0 (fun _ => true) true n e cs = some y → ∃ d : α, cs = cf d ∧ Q d)
    {n : Nat} {cs : List Value} {y : DataW H × List MemPlace} (h : DataW.trod enc Try.prog W 0 (fun _ => true) true n t cs = some y) :
    ∃ A c, ∃ D : List α, cs = [.slice A D.length c] ∧ SlAt cf s (fun k => W.heap.size ≤ k) W A c D ∧ ∀ d ∈ D, Q d := by
  rcases open_slice ht h with ⟨hcs, hx⟩ | ⟨a, len, cap, m, n, D, Pl, hcs, _, hl, hm, hmm, _, hx⟩
  · exact ⟨none, 0, [], hcs, ⟨Nat.le_refl _, by omega, fun i d hi => by simp at hi⟩, fun d hd => by cases hd⟩
  · simp only [if_true] at hmm
    rw [hc] at hx
    have hsp : 0 < m → a.spot = none := fun h => by
      obtain ⟨cs', hc1, hc2⟩ := hx 0 h
      obtain ⟨_, _, hcc⟩ := World.cells?_some hc1
      obtain ⟨d, rfl, _⟩ := he _ _ _ hc2
      have h00 := hcc 0 h0
      rw [List.getElem?_eq_getElem (by rw [hcf d]; exact h0)] at h00
      have := spot_none h00
      simpa [Addr.add] using this
    obtain ⟨f, hfl⟩ := choose_lt (α := α) (n := m) (p := fun i d => Q d ∧ ∃ g o, a = ⟨g, o, none⟩ ∧ g < W.heap.size ∧ ∀ j u, (cf d)[j]? = some u → W.cell? ⟨g, o + i * s + j, none⟩ = some u) (fun i hi => by
      obtain ⟨cs', hc1, hc2⟩ := hx i hi
      obtain ⟨_, _, hcc⟩ := World.cells?_some hc1
      obtain ⟨d, rfl, hq⟩ := he _ _ _ hc2
      have hl := hcf d
      have h00 := hcc 0 h0
      rw [List.getElem?_eq_getElem (by omega)] at h00
      obtain ⟨g, o, sp⟩ := a
      have hsp' : sp = none := hsp (by omega)
      subst hsp'
      rw [add_at, add_at] at h00
      refine ⟨d, hq, g, o, rfl, read_lt h00, fun j u hu => ?_⟩
      have hj : j < s := by
        have := (List.getElem?_eq_some_iff.1 hu).1
        omega
      have := hcc j hj
      rw [hu, add_at, add_at] at this
      exact this)
    have hmL : cap ≤ 9223372036854775807 := hm
    refine ⟨some a, cap, (List.range len).map f, by simpa using hcs, ⟨by simpa using hl, hmL, fun i d hi => ?_⟩, fun d hd => ?_⟩
    · have hil : i < len := by
        have := (List.getElem?_eq_some_iff.1 hi).1
        simpa using this
      simp [hil] at hi
      subst hi
      obtain ⟨_, g, o, e1, hg, hcell⟩ := hfl i (by omega)
      exact ⟨g, o, by rw [e1], by show ¬ W.heap.size ≤ g; omega, hcell⟩
    · simp only [List.mem_map, List.mem_range] at hd
      obtain ⟨i, hi, rfl⟩ := hd
      exact (hfl i (by omega)).1
theorem int_open {t : TypeId} {n : Nat} {cs : List Value} {y : DataW H × List MemPlace} (ht : Try.prog.underlying t = some (.int .i64)) (h : DataW.trod enc Try.prog W 0 (fun _ => true) true n t cs = some y) : ∃ k, cs = [.int .i64 k] ∧ i64B k := by
  obtain ⟨k, e0, _, wk⟩ := DataW.trod_int ht h
  refine ⟨k, e0, ?_⟩
  simp [Lit.wf] at wk
  have e1 : IntKind.i64.min = -9223372036854775808 := rfl
  have e2 : IntKind.i64.max = 9223372036854775807 := rfl
  unfold i64B
  omega
theorem str_open {t : TypeId} {n : Nat} {cs : List Value} {y : DataW H × List MemPlace} (ht : Try.prog.underlying t = some .string) (h : DataW.trod enc Try.prog W 0 (fun _ => true) true n t cs = some y) : ∃ l, cs = [.string (strL l)] := by
  obtain ⟨s, e0, _, _⟩ := DataW.trod_string ht h
  exact ⟨s.data.toList, by rw [strL_of]; exact e0⟩
end
theorem list2 {α : Type} {cs : List α} (h : cs.length = 2) : ∃ c0 c1, cs = [c0, c1] := by
  match cs, h with
  | [c0, c1], _ => exact ⟨c0, c1, rfl⟩
theorem list3 {α : Type} {cs : List α} (h : cs.length = 3) : ∃ c0 c1 c2, cs = [c0, c1, c2] := by
  match cs, h with
  | [c0, c1, c2], _ => exact ⟨c0, c1, c2, rfl⟩
theorem list15 {α : Type} {cs : List α} (h : cs.length = 15) : ∃ c0 c1 c2 c3 c4 c5 c6 c7 c8 c9 c10 c11 c12 c13 c14, cs = [c0, c1, c2, c3, c4, c5, c6, c7, c8, c9, c10, c11, c12, c13, c14] := by
  match cs, h with
  | [c0, c1, c2, c3, c4, c5, c6, c7, c8, c9, c10, c11, c12, c13, c14], _ => exact ⟨c0, c1, c2, c3, c4, c5, c6, c7, c8, c9, c10, c11, c12, c13, c14, rfl⟩

theorem Try.oi : Try.prog.underlying 3 = some (.int .i64) := by kernel_rfl
theorem Try.ok : Try.prog.underlying 22 = some (.int .i64) := by kernel_rfl
theorem Try.os : Try.prog.underlying 9 = some .string := by kernel_rfl
theorem Try.ob : Try.prog.underlying 4 = some .bool := by kernel_rfl
theorem Try.ci : Try.prog.cellsOf 3 = 1 := by kernel_rfl
theorem Try.ck : Try.prog.cellsOf 22 = 1 := by kernel_rfl
theorem Try.cs : Try.prog.cellsOf 9 = 1 := by kernel_rfl
theorem Try.cb : Try.prog.cellsOf 4 = 1 := by kernel_rfl
theorem Try.cTerm : Try.prog.cellsOf 76 = 2 := by kernel_rfl
theorem Try.cTerms : Try.prog.cellsOf 23 = 1 := by kernel_rfl
theorem Try.cCase : Try.prog.cellsOf 62 = 3 := by kernel_rfl
theorem Try.cCases : Try.prog.cellsOf 26 = 1 := by kernel_rfl
theorem Try.cSize : Try.prog.cellsOf 25 = 2 := by kernel_rfl
theorem Try.cField : Try.prog.cellsOf 28 = 15 := by kernel_rfl
theorem Try.cFields : Try.prog.cellsOf 48 = 1 := by kernel_rfl
theorem Try.cMsg : Try.prog.cellsOf 50 = 2 := by kernel_rfl
theorem Try.cMsgs : Try.prog.cellsOf 42 = 1 := by kernel_rfl
theorem Try.cDef : Try.prog.cellsOf 44 = 3 := by kernel_rfl

section
variable {H : Type} {enc : TypeId × Value → H} {W : World} {n : Nat} {cs : List Value} {y : DataW H × List MemPlace}
set_option maxRecDepth 100000 in
theorem term_open (h : DataW.trod enc Try.prog W 0 (fun _ => true) true n 76 cs = some y) : ∃ d : TermD, cs = d.cells ∧ TermW d := by
  have hl := fld_len Try.underlying76 h
  rw [Try.cTerm] at hl
  obtain ⟨c0, c1, rfl⟩ := list2 hl
  obtain ⟨_, _, h0⟩ := fld Try.underlying76 h 0 _ rfl
  obtain ⟨_, _, h1⟩ := fld Try.underlying76 h 1 _ rfl
  simp [Try.cs, Try.ci] at h0 h1
  obtain ⟨s, e0⟩ := str_open Try.os h0
  obtain ⟨k, e1, w1⟩ := int_open Try.oi h1
  simp at e0 e1
  subst e0 e1
  exact ⟨⟨s, k⟩, rfl, w1⟩
set_option maxRecDepth 100000 in
theorem case_open (h : DataW.trod enc Try.prog W 0 (fun _ => true) true n 62 cs = some y) : ∃ d : CaseD, cs = d.cells ∧ CaseW d := by
  have hl := fld_len Try.underlying62 h
  rw [Try.cCase] at hl
  obtain ⟨c0, c1, c2, rfl⟩ := list3 hl
  obtain ⟨_, _, h0⟩ := fld Try.underlying62 h 0 _ rfl
  obtain ⟨_, _, h1⟩ := fld Try.underlying62 h 1 _ rfl
  obtain ⟨_, _, h2⟩ := fld Try.underlying62 h 2 _ rfl
  simp [Try.cs, Try.ci] at h0 h1 h2
  obtain ⟨a, e0, w0⟩ := int_open Try.oi h0
  obtain ⟨b, e1, w1⟩ := int_open Try.oi h1
  obtain ⟨s, e2⟩ := str_open Try.os h2
  simp at e0 e1 e2
  subst e0 e1 e2
  exact ⟨⟨a, b, s⟩, rfl, w0, w1⟩
set_option maxRecDepth 100000 in
theorem size_open (h : DataW.trod enc Try.prog W 0 (fun _ => true) true n 25 cs = some y) :
    ∃ (b : Int) (A : Option Addr) (c : Nat) (D : List TermD), cs = [.int .i64 b, .slice A D.length c] ∧ i64B b ∧ SlAt TermD.cells 2 (fun k => W.heap.size ≤ k) W A c D ∧ ∀ d ∈ D, TermW d := by
  have hl := fld_len Try.underlying25 h
  rw [Try.cSize] at hl
  obtain ⟨c0, c1, rfl⟩ := list2 hl
  obtain ⟨_, _, h0⟩ := fld Try.underlying25 h 0 _ rfl
  obtain ⟨_, _, h1⟩ := fld Try.underlying25 h 1 _ rfl
  simp [Try.ci, Try.cTerms] at h0 h1
  obtain ⟨b, e0, w0⟩ := int_open Try.oi h0
  obtain ⟨A, c, D, e1, hs, hw⟩ := open_sl TermD.cells 2 TermW 23 76 Try.underlying23 Try.cTerm (by omega) (fun _ => rfl) (fun _ _ _ h => term_open h) h1
  simp at e0 e1
  subst e0 e1
  exact ⟨b, A, c, D, rfl, w0, hs, hw⟩
set_option maxRecDepth 100000 in
set_option maxHeartbeats 800000 in
theorem field_open (h : DataW.trod enc Try.prog W 0 (fun _ => true) true n 28 cs = some y) : ∃ d : FieldD, cs = d.cells ∧ FieldOk (fun k => W.heap.size ≤ k) W d ∧ FieldW d := by
  have hl := fld_len Try.underlying28 h
  rw [Try.cField] at hl
  obtain ⟨c0, c1, c2, c3, c4, c5, c6, c7, c8, c9, c10, c11, c12, c13, c14, rfl⟩ := list15 hl
  obtain ⟨_, _, h0⟩ := fld Try.underlying28 h 0 _ rfl
  obtain ⟨_, _, h1⟩ := fld Try.underlying28 h 1 _ rfl
  obtain ⟨_, _, h2⟩ := fld Try.underlying28 h 2 _ rfl
  obtain ⟨_, _, h3⟩ := fld Try.underlying28 h 3 _ rfl
  obtain ⟨_, _, h4⟩ := fld Try.underlying28 h 4 _ rfl
  obtain ⟨_, _, h5⟩ := fld Try.underlying28 h 5 _ rfl
  obtain ⟨_, _, h6⟩ := fld Try.underlying28 h 6 _ rfl
  obtain ⟨_, _, h7⟩ := fld Try.underlying28 h 7 _ rfl
  obtain ⟨_, _, h8⟩ := fld Try.underlying28 h 8 _ rfl
  obtain ⟨_, _, h9⟩ := fld Try.underlying28 h 9 _ rfl
  obtain ⟨_, _, h10⟩ := fld Try.underlying28 h 10 _ rfl
  obtain ⟨_, _, h11⟩ := fld Try.underlying28 h 11 _ rfl
  obtain ⟨_, _, h12⟩ := fld Try.underlying28 h 12 _ rfl
  obtain ⟨_, _, h13⟩ := fld Try.underlying28 h 13 _ rfl
  clear h hl
  simp [Try.cs] at h0 h8 h9 h10
  simp [Try.ci] at h2 h5 h6 h12 h13
  simp [Try.ck] at h1
  simp [Try.cb] at h3 h4
  simp [Try.cSize] at h7
  simp [Try.cCases] at h11
  obtain ⟨nm, e0⟩ := str_open Try.os h0
  obtain ⟨ki, e1, w1⟩ := int_open Try.ok h1
  obtain ⟨bi, e2, w2⟩ := int_open Try.oi h2
  obtain ⟨li, e3, _⟩ := DataW.trod_bool Try.ob h3
  obtain ⟨lo, e4, _⟩ := DataW.trod_bool Try.ob h4
  obtain ⟨l, e5, w5⟩ := int_open Try.oi h5
  obtain ⟨hh, e6, w6⟩ := int_open Try.oi h6
  obtain ⟨b, A, c, D, e7, w7, hs7, hw7⟩ := size_open h7
  obtain ⟨of_, e8⟩ := str_open Try.os h8
  obtain ⟨tg, e9⟩ := str_open Try.os h9
  obtain ⟨fr, e10⟩ := str_open Try.os h10
  obtain ⟨A', c', D', e11, hs11, hw11⟩ := open_sl CaseD.cells 3 CaseW 26 62 Try.underlying26 Try.cCase (by omega) (fun _ => rfl) (fun _ _ _ h => case_open h) h11
  obtain ⟨ch, e12, w12⟩ := int_open Try.oi h12
  obtain ⟨ke, e13, w13⟩ := int_open Try.oi h13
  clear h0 h1 h2 h3 h4 h5 h6 h7 h8 h9 h10 h11 h12 h13
  simp only [List.cons.injEq, and_true] at e0 e1 e2 e3 e4 e5 e6 e7 e8 e9 e10 e11 e12 e13
  obtain ⟨e7, e7'⟩ := e7
  subst e0 e1 e2 e3 e4 e5 e6 e7 e7' e8 e9 e10 e11 e12 e13
  exact ⟨⟨nm, ki, bi, li, lo, l, hh, b, A, c, D, of_, tg, fr, A', c', D', ch, ke⟩, rfl, ⟨hs7, hs11⟩, ⟨w1, w2, w5, w6, w7, w12, w13, hw7, hw11⟩⟩
/-- A message whose fields lie in memory. -/
def MsgG (W : World) (m : MsgD) : Prop := MsgOk (fun k => W.heap.size ≤ k) W m ∧ ∀ d ∈ m.fields, FieldW d
set_option maxRecDepth 100000 in
theorem msg_open (h : DataW.trod enc Try.prog W 0 (fun _ => true) true n 50 cs = some y) : ∃ d : MsgD, cs = d.cells ∧ MsgG W d := by
  have hl := fld_len Try.underlying50 h
  rw [Try.cMsg] at hl
  obtain ⟨c0, c1, rfl⟩ := list2 hl
  obtain ⟨_, _, h0⟩ := fld Try.underlying50 h 0 _ rfl
  obtain ⟨_, _, h1⟩ := fld Try.underlying50 h 1 _ rfl
  simp [Try.cs, Try.cFields] at h0 h1
  obtain ⟨s, e0⟩ := str_open Try.os h0
  obtain ⟨A, c, D, e1, hs, hw⟩ := open_sl FieldD.cells 15 (fun d => FieldOk (fun k => W.heap.size ≤ k) W d ∧ FieldW d) 48 28 Try.underlying48 Try.cField (by omega) (fun _ => rfl) (fun _ _ _ h => field_open h) h1
  simp at e0 e1
  subst e0 e1
  exact ⟨⟨s, A, c, D⟩, rfl, ⟨hs, fun d hd => (hw d hd).1⟩, fun d hd => (hw d hd).2⟩
/-- The messages of a definition lie in memory. -/
def DefG (W : World) (A : Option Addr) (c : Nat) (D : List MsgD) : Prop := MsgsAt (fun k => W.heap.size ≤ k) W A c D ∧ ∀ m ∈ D, ∀ d ∈ m.fields, FieldW d
set_option maxRecDepth 100000 in
theorem def_open (h : DataW.trod enc Try.prog W 0 (fun _ => true) true n 44 cs = some y) : ∃ (nm st : List UInt8) (A : Option Addr) (c : Nat) (D : List MsgD), cs = [.string (strL nm), .slice A D.length c, .string (strL st)] ∧ DefG W A c D := by
  have hl := fld_len Try.underlying44 h
  rw [Try.cDef] at hl
  obtain ⟨c0, c1, c2, rfl⟩ := list3 hl
  obtain ⟨_, _, h0⟩ := fld Try.underlying44 h 0 _ rfl
  obtain ⟨_, _, h1⟩ := fld Try.underlying44 h 1 _ rfl
  obtain ⟨_, _, h2⟩ := fld Try.underlying44 h 2 _ rfl
  simp [Try.cs, Try.cMsgs] at h0 h1 h2
  obtain ⟨s, e0⟩ := str_open Try.os h0
  obtain ⟨A, c, D, e1, hs, hw⟩ := open_sl MsgD.cells 2 (fun d => MsgG W d) 42 50 Try.underlying42 Try.cMsg (by omega) (fun _ => rfl) (fun _ _ _ h => msg_open h) h1
  obtain ⟨st, e2⟩ := str_open Try.os h2
  simp at e0 e1 e2
  subst e0 e1 e2
  exact ⟨s, st, A, c, D, rfl, ⟨hs, fun d hd => (hw d hd).1⟩, fun m hm => (hw m hm).2⟩
end
set_option maxRecDepth 100000 in
/-- A definition as an argument. -/
theorem arg_def {H : Type} {enc : TypeId × Value → H} {W : World} {base : Nat} {v : Value} {d : DataW H} {p : List MemPlace} (hval : Value.okWide Try.prog W .any base 44 v) (h : DataW.Trod enc Try.prog W 0 (fun _ => true) true 44 v d p) :
    ∃ (nm st : List UInt8) (A : Option Addr) (c : Nat) (D : List MsgD), v = .agg #[.string (strL nm), .slice A D.length c, .string (strL st)] ∧ DefG W A c D := by
  obtain ⟨cs, rfl, _⟩ := okWide_struct Try.underlying44 hval
  obtain ⟨n, hf⟩ := h
  obtain ⟨nm, st, A, c, D, e, hD⟩ := def_open hf
  refine ⟨nm, st, A, c, D, ?_, hD⟩
  have : cs.toList = [.string (strL nm), .slice A D.length c, .string (strL st)] := by simpa [Value.cells] using e
  rw [← this]
set_option maxRecDepth 100000 in
/-- A message as an argument. -/
theorem arg_msg {H : Type} {enc : TypeId × Value → H} {W : World} {base : Nat} {v : Value} {d : DataW H} {p : List MemPlace} (hval : Value.okWide Try.prog W .any base 50 v) (h : DataW.Trod enc Try.prog W 0 (fun _ => true) true 50 v d p) :
    ∃ m : MsgD, v = m.agg ∧ MsgG W m := by
  obtain ⟨cs, rfl, _⟩ := okWide_struct Try.underlying50 hval
  obtain ⟨n, hf⟩ := h
  obtain ⟨m, e, hm⟩ := msg_open hf
  refine ⟨m, ?_, hm⟩
  have : cs.toList = m.cells := by simpa [Value.cells] using e
  unfold MsgD.agg
  unfold MsgD.cells at this
  rw [← this]
set_option maxRecDepth 100000 in
/-- A field as an argument. -/
theorem arg_field {H : Type} {enc : TypeId × Value → H} {W : World} {base : Nat} {v : Value} {d : DataW H} {p : List MemPlace} (hval : Value.okWide Try.prog W .any base 28 v) (h : DataW.Trod enc Try.prog W 0 (fun _ => true) true 28 v d p) :
    ∃ f : FieldD, v = f.agg ∧ FieldOk (fun k => W.heap.size ≤ k) W f ∧ FieldW f := by
  obtain ⟨cs, rfl, _⟩ := okWide_struct Try.underlying28 hval
  obtain ⟨n, hf⟩ := h
  obtain ⟨f, e, hm⟩ := field_open hf
  refine ⟨f, ?_, hm⟩
  have : cs.toList = f.cells := by simpa [Value.cells] using e
  unfold FieldD.agg
  unfold FieldD.cells at this
  rw [← this]
end Go.Proofs.Ytbpkppmbbpoohaa
