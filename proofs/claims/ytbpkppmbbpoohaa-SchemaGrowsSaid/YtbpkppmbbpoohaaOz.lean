/- A definition as an argument, with the sizes of its texts and lists. Conditions: it reads as data, within the reach. -/
import Derived.Test.YtbpkppmbbpoohaaOd
import Derived.SizedLaws
namespace Go.Proofs.Ytbpkppmbbpoohaa
open Go.ChangeShapes Go.WideShapes Go.ChangeAt Go.RowKit Go.Joins Go.Deep

def Wok {H : Type} (t : TypeId) (y : DataW H × List MemPlace) : Prop := ∀ n ∈ y.1.weights Try.prog t, n ≤ reachBytes
/-- The texts of the cases are within the reach. -/
def FieldZ (d : FieldD) : Prop := ∀ c ∈ d.cases, c.of_.length ≤ reachBytes
def MsgZ (m : MsgD) : Prop := m.fields.length ≤ reachBytes ∧ ∀ d ∈ m.fields, FieldZ d

theorem mem_all {H : Type} {P : Program} {e : TypeId} : ∀ {l : List (DataW H)} {d : DataW H}, d ∈ l → ∀ n ∈ d.weights P e, n ∈ DataW.weightsAll P e l
  | x :: l, d, hd, n, hn => by
    simp only [DataW.weightsAll, List.mem_append]
    rcases List.mem_cons.1 hd with rfl | h
    · exact .inl hn
    · exact .inr (mem_all h n hn)
  | [], _, hd, _, _ => by simp at hd

section
variable {H : Type} {enc : TypeId × Value → H} {W : World}
theorem fldz {t : TypeId} {fs : Array Field} {fuel : Nat} {cs : List Value} {x : DataW H × List MemPlace} (ht : Try.prog.underlying t = some (.struct fs)) (h : DataW.trod enc Try.prog W 0 (fun _ => true) true fuel t cs = some x) (hz : Wok t x) (i : Nat) (f : Field) (hi : fs[i]? = some f) :
    ∃ n y, DataW.trod enc Try.prog W 0 (fun _ => true) true n f.type ((cs.drop f.offset).take (Try.prog.cellsOf f.type)) = some y ∧ Wok f.type y := by
  obtain ⟨xs, n, _, hx, _, hl, hf⟩ := DataW.trod_struct ht h
  have h1 := hf i f hi
  have hi' : i < xs.length := by rw [hl]; exact (Array.getElem?_eq_some_iff.1 hi).1
  rw [List.getElem?_eq_getElem hi'] at h1
  refine ⟨n, _, h1, fun k hk => hz k ?_⟩
  subst hx
  simp only [DataW.weights, ht]
  exact DataW.weights_mem_each (j := i) (by rw [List.getElem?_map, Array.getElem?_toList, hi]; rfl) (by rw [List.getElem?_map, List.getElem?_eq_getElem hi']; rfl) k hk

set_option maxRecDepth 100000 in
/-- A slice whose elements open, with sizes. -/
theorem open_slz {α : Type} [Inhabited α] (cf : α → List Value) (s : Nat) (Q : α → Prop) (t e : TypeId) (ht : Try.prog.underlying t = some (.slice e)) (hc : Try.prog.cellsOf e = s) (h0 : 0 < s) (hb : 0 < Try.prog.bytesOf e) (hcf : ∀ d, (cf d).length = s)
    (he : ∀ n cs y, DataW.trod enc Try.prog W 0 (fun _ => true) true n e cs = some y → Wok e y → ∃ d : α, cs = cf d ∧ Q d)
    {n : Nat} {cs : List Value} {y : DataW H × List MemPlace} (h : DataW.trod enc Try.prog W 0 (fun _ => true) true n t cs = some y) (hz : Wok t y) :
    ∃ A c, ∃ D : List α, cs = [.slice A D.length c] ∧ SlAt cf s (fun k => W.heap.size ≤ k) W A c D ∧ D.length ≤ reachBytes ∧ ∀ d ∈ D, Q d := by
  rcases open_slice ht h with ⟨hcs, hx⟩ | ⟨a, len, cap, m, n, D, Pl, hcs, _, hl, hm, hmm, hy, hx⟩
  · exact ⟨none, 0, [], hcs, ⟨Nat.le_refl _, by omega, fun i d hi => by simp at hi⟩, Nat.zero_le _, fun d hd => by cases hd⟩
  · simp only [if_true] at hmm
    rw [hc] at hx
    have hw : ∀ i, i < m → ∀ k ∈ (D i).weights Try.prog e, k ≤ reachBytes := fun i hi k hk => hz k (by
      subst hy
      simp only [DataW.weights, ht]
      refine List.mem_cons_of_mem _ (List.mem_append.2 ?_)
      by_cases hil : i < len
      · exact .inl (mem_all (d := D i) (List.mem_map.2 ⟨i, List.mem_range.2 hil, rfl⟩) k hk)
      · exact .inr (mem_all (d := D i) (List.mem_map.2 ⟨i - len, List.mem_range.2 (by omega), by rw [Nat.add_sub_cancel' (by omega)]⟩) k hk))
    have hlen : len ≤ reachBytes := by
      have := hz ((len + (m - len)) * Try.prog.bytesOf e) (by
        subst hy
        simp only [DataW.weights, ht]
        have e1 : ((List.range len).map D).length = len := by simp
        have e2 : ((List.range (m - len)).map fun j => D (len + j)).length = m - len := by simp
        rw [e1, e2]
        exact List.mem_cons_self)
      have h2 : len * 1 ≤ (len + (m - len)) * Try.prog.bytesOf e := Nat.mul_le_mul (by omega) hb
      omega
    have hsp : 0 < m → a.spot = none := fun h => by
      obtain ⟨cs', hc1, hc2⟩ := hx 0 h
      obtain ⟨_, _, hcc⟩ := World.cells?_some hc1
      obtain ⟨d, rfl, _⟩ := he _ _ _ hc2 (hw 0 h)
      have h00 := hcc 0 h0
      rw [List.getElem?_eq_getElem (by rw [hcf d]; exact h0)] at h00
      have := spot_none h00
      simpa [Addr.add] using this
    obtain ⟨f, hfl⟩ := choose_lt (α := α) (n := m) (p := fun i d => Q d ∧ ∃ g o, a = ⟨g, o, none⟩ ∧ g < W.heap.size ∧ ∀ j u, (cf d)[j]? = some u → W.cell? ⟨g, o + i * s + j, none⟩ = some u) (fun i hi => by
      obtain ⟨cs', hc1, hc2⟩ := hx i hi
      obtain ⟨_, _, hcc⟩ := World.cells?_some hc1
      obtain ⟨d, rfl, hq⟩ := he _ _ _ hc2 (hw i hi)
      have hl := hcf d
      have h00 := hcc 0 h0
      rw [List.getElem?_eq_getElem (by omega)] at h00
      obtain ⟨g, o, sp⟩ := a
      have hsp' : sp = none := hsp (by omega)
      subst hsp'
      rw [add_at, add_at] at h00
      refine ⟨d, hq, g, o, rfl, read_lt h00, fun j u hu => ?_⟩
      have hj : j < s := by
        have := (List.getElem?_eq_some_iff.1 hu).1
        omega
      have := hcc j hj
      rw [hu, add_at, add_at] at this
      exact this)
    have hmL : cap ≤ 9223372036854775807 := hm
    refine ⟨some a, cap, (List.range len).map f, by simpa using hcs, ⟨by simpa using hl, hmL, fun i d hi => ?_⟩, by simpa using hlen, fun d hd => ?_⟩
    · have hil : i < len := by
        have := (List.getElem?_eq_some_iff.1 hi).1
        simpa using this
      simp [hil] at hi
      subst hi
      obtain ⟨_, g, o, e1, hg, hcell⟩ := hfl i (by omega)
      exact ⟨g, o, by rw [e1], by show ¬ W.heap.size ≤ g; omega, hcell⟩
    · simp only [List.mem_map, List.mem_range] at hd
      obtain ⟨i, hi, rfl⟩ := hd
      exact (hfl i (by omega)).1
theorem str_openz {t : TypeId} {n : Nat} {cs : List Value} {y : DataW H × List MemPlace} (ht : Try.prog.underlying t = some .string) (h : DataW.trod enc Try.prog W 0 (fun _ => true) true n t cs = some y) (hz : Wok t y) : ∃ l, cs = [.string (strL l)] ∧ l.length ≤ reachBytes := by
  obtain ⟨s, e0, e1, _⟩ := DataW.trod_string ht h
  refine ⟨s.data.toList, by rw [strL_of]; exact e0, hz _ ?_⟩
  rw [e1]
  simp [DataW.weights]
end

theorem Try.bTerm : 0 < Try.prog.bytesOf 76 := by decide +kernel
theorem Try.bCase : 0 < Try.prog.bytesOf 62 := by decide +kernel
theorem Try.bField : 0 < Try.prog.bytesOf 28 := by decide +kernel
theorem Try.bMsg : 0 < Try.prog.bytesOf 50 := by decide +kernel

section
variable {H : Type} {enc : TypeId × Value → H} {W : World} {n : Nat} {cs : List Value} {y : DataW H × List MemPlace}
set_option maxRecDepth 100000 in
theorem case_openz (h : DataW.trod enc Try.prog W 0 (fun _ => true) true n 62 cs = some y) (hz : Wok 62 y) : ∃ d : CaseD, cs = d.cells ∧ d.of_.length ≤ reachBytes := by
  have hl := fld_len Try.underlying62 h
  rw [Try.cCase] at hl
  obtain ⟨c0, c1, c2, rfl⟩ := list3 hl
  obtain ⟨_, _, h0, _⟩ := fldz Try.underlying62 h hz 0 _ rfl
  obtain ⟨_, _, h1, _⟩ := fldz Try.underlying62 h hz 1 _ rfl
  obtain ⟨_, _, h2, z2⟩ := fldz Try.underlying62 h hz 2 _ rfl
  simp [Try.cs, Try.ci] at h0 h1 h2
  obtain ⟨a, e0, w0⟩ := int_open Try.oi h0
  obtain ⟨b, e1, w1⟩ := int_open Try.oi h1
  obtain ⟨s, e2, hs⟩ := str_openz Try.os h2 z2
  simp at e0 e1 e2
  subst e0 e1 e2
  exact ⟨⟨a, b, s⟩, rfl, hs⟩
set_option maxRecDepth 100000 in
set_option maxHeartbeats 800000 in
theorem field_openz (h : DataW.trod enc Try.prog W 0 (fun _ => true) true n 28 cs = some y) (hz : Wok 28 y) : ∃ d : FieldD, cs = d.cells ∧ FieldOk (fun k => W.heap.size ≤ k) W d ∧ FieldZ d := by
  have hl := fld_len Try.underlying28 h
  rw [Try.cField] at hl
  obtain ⟨c0, c1, c2, c3, c4, c5, c6, c7, c8, c9, c10, c11, c12, c13, c14, rfl⟩ := list15 hl
  obtain ⟨_, _, h0⟩ := fld Try.underlying28 h 0 _ rfl
  obtain ⟨_, _, h1⟩ := fld Try.underlying28 h 1 _ rfl
  obtain ⟨_, _, h2⟩ := fld Try.underlying28 h 2 _ rfl
  obtain ⟨_, _, h3⟩ := fld Try.underlying28 h 3 _ rfl
  obtain ⟨_, _, h4⟩ := fld Try.underlying28 h 4 _ rfl
  obtain ⟨_, _, h5⟩ := fld Try.underlying28 h 5 _ rfl
  obtain ⟨_, _, h6⟩ := fld Try.underlying28 h 6 _ rfl
  obtain ⟨_, _, h7⟩ := fld Try.underlying28 h 7 _ rfl
  obtain ⟨_, _, h8⟩ := fld Try.underlying28 h 8 _ rfl
  obtain ⟨_, _, h9⟩ := fld Try.underlying28 h 9 _ rfl
  obtain ⟨_, _, h10⟩ := fld Try.underlying28 h 10 _ rfl
  obtain ⟨_, _, h11, z11⟩ := fldz Try.underlying28 h hz 11 _ rfl
  obtain ⟨_, _, h12⟩ := fld Try.underlying28 h 12 _ rfl
  obtain ⟨_, _, h13⟩ := fld Try.underlying28 h 13 _ rfl
  clear h hl
  simp [Try.cs] at h0 h8 h9 h10
  simp [Try.ci] at h2 h5 h6 h12 h13
  simp [Try.ck] at h1
  simp [Try.cb] at h3 h4
  simp [Try.cSize] at h7
  simp [Try.cCases] at h11
  obtain ⟨nm, e0⟩ := str_open Try.os h0
  obtain ⟨ki, e1, w1⟩ := int_open Try.ok h1
  obtain ⟨bi, e2, w2⟩ := int_open Try.oi h2
  obtain ⟨li, e3, _⟩ := DataW.trod_bool Try.ob h3
  obtain ⟨lo, e4, _⟩ := DataW.trod_bool Try.ob h4
  obtain ⟨l, e5, w5⟩ := int_open Try.oi h5
  obtain ⟨hh, e6, w6⟩ := int_open Try.oi h6
  obtain ⟨b, A, c, D, e7, w7, hs7, hw7⟩ := size_open h7
  obtain ⟨of_, e8⟩ := str_open Try.os h8
  obtain ⟨tg, e9⟩ := str_open Try.os h9
  obtain ⟨fr, e10⟩ := str_open Try.os h10
  obtain ⟨A', c', D', e11, hs11, _, hw11⟩ := open_slz CaseD.cells 3 (fun c => c.of_.length ≤ reachBytes) 26 62 Try.underlying26 Try.cCase (by omega) Try.bCase (fun _ => rfl) (fun _ _ _ h hz => case_openz h hz) h11 z11
  obtain ⟨ch, e12, w12⟩ := int_open Try.oi h12
  obtain ⟨ke, e13, w13⟩ := int_open Try.oi h13
  clear h0 h1 h2 h3 h4 h5 h6 h7 h8 h9 h10 h11 h12 h13
  simp only [List.cons.injEq, and_true] at e0 e1 e2 e3 e4 e5 e6 e7 e8 e9 e10 e11 e12 e13
  obtain ⟨e7, e7'⟩ := e7
  subst e0 e1 e2 e3 e4 e5 e6 e7 e7' e8 e9 e10 e11 e12 e13
  exact ⟨⟨nm, ki, bi, li, lo, l, hh, b, A, c, D, of_, tg, fr, A', c', D', ch, ke⟩, rfl, ⟨hs7, hs11⟩, hw11⟩
set_option maxRecDepth 100000 in
theorem msg_openz (h : DataW.trod enc Try.prog W 0 (fun _ => true) true n 50 cs = some y) (hz : Wok 50 y) : ∃ d : MsgD, cs = d.cells ∧ MsgOk (fun k => W.heap.size ≤ k) W d ∧ MsgZ d := by
  have hl := fld_len Try.underlying50 h
  rw [Try.cMsg] at hl
  obtain ⟨c0, c1, rfl⟩ := list2 hl
  obtain ⟨_, _, h0⟩ := fld Try.underlying50 h 0 _ rfl
  obtain ⟨_, _, h1, z1⟩ := fldz Try.underlying50 h hz 1 _ rfl
  simp [Try.cs, Try.cFields] at h0 h1
  obtain ⟨s, e0⟩ := str_open Try.os h0
  obtain ⟨A, c, D, e1, hs, hln, hw⟩ := open_slz FieldD.cells 15 (fun d => FieldOk (fun k => W.heap.size ≤ k) W d ∧ FieldZ d) 48 28 Try.underlying48 Try.cField (by omega) Try.bField (fun _ => rfl) (fun _ _ _ h hz => field_openz h hz) h1 z1
  simp at e0 e1
  subst e0 e1
  exact ⟨⟨s, A, c, D⟩, rfl, ⟨hs, fun d hd => (hw d hd).1⟩, hln, fun d hd => (hw d hd).2⟩
/-- The messages of a definition lie in memory, its texts and lists within the reach. -/
def DefZ (W : World) (A : Option Addr) (c : Nat) (D : List MsgD) : Prop := MsgsAt (fun k => W.heap.size ≤ k) W A c D ∧ ∀ m ∈ D, MsgZ m
set_option maxRecDepth 100000 in
theorem def_openz (h : DataW.trod enc Try.prog W 0 (fun _ => true) true n 44 cs = some y) (hz : Wok 44 y) : ∃ (nm st : List UInt8) (A : Option Addr) (c : Nat) (D : List MsgD), cs = [.string (strL nm), .slice A D.length c, .string (strL st)] ∧ DefZ W A c D := by
  have hl := fld_len Try.underlying44 h
  rw [Try.cDef] at hl
  obtain ⟨c0, c1, c2, rfl⟩ := list3 hl
  obtain ⟨_, _, h0⟩ := fld Try.underlying44 h 0 _ rfl
  obtain ⟨_, _, h1, z1⟩ := fldz Try.underlying44 h hz 1 _ rfl
  obtain ⟨_, _, h2⟩ := fld Try.underlying44 h 2 _ rfl
  simp [Try.cs, Try.cMsgs] at h0 h1 h2
  obtain ⟨s, e0⟩ := str_open Try.os h0
  obtain ⟨A, c, D, e1, hs, _, hw⟩ := open_slz MsgD.cells 2 (fun d => MsgOk (fun k => W.heap.size ≤ k) W d ∧ MsgZ d) 42 50 Try.underlying42 Try.cMsg (by omega) Try.bMsg (fun _ => rfl) (fun _ _ _ h hz => msg_openz h hz) h1 z1
  obtain ⟨st, e2⟩ := str_open Try.os h2
  simp at e0 e1 e2
  subst e0 e1 e2
  exact ⟨s, st, A, c, D, rfl, ⟨hs, fun d hd => (hw d hd).1⟩, fun m hm => (hw m hm).2⟩
end
set_option maxRecDepth 100000 in
/-- A definition as an argument. -/
theorem arg_defz {H : Type} {enc : TypeId × Value → H} {W : World} {base : Nat} {v : Value} {d : DataW H} {p : List MemPlace} (hval : Value.okWide Try.prog W .any base 44 v) (h : DataW.Trod enc Try.prog W 0 (fun _ => true) true 44 v d p) (hz : Wok 44 (d, p)) :
    ∃ (nm st : List UInt8) (A : Option Addr) (c : Nat) (D : List MsgD), v = .agg #[.string (strL nm), .slice A D.length c, .string (strL st)] ∧ DefZ W A c D := by
  obtain ⟨cs, rfl, _⟩ := okWide_struct Try.underlying44 hval
  obtain ⟨n, hf⟩ := h
  obtain ⟨nm, st, A, c, D, e, hD⟩ := def_openz hf hz
  refine ⟨nm, st, A, c, D, ?_, hD⟩
  have : cs.toList = [.string (strL nm), .slice A D.length c, .string (strL st)] := by simpa [Value.cells] using e
  rw [← this]
end Go.Proofs.Ytbpkppmbbpoohaa
