/- A definition as an argument, with the sizes of its texts and lists. Conditions: it reads as data, within the reach. The document's Name. No conditions. The document's Valid of a size. Conditions: the terms lie in memory. -/
import Derived.Test.YtbpkppmbbpoohaaGreatGa
import Derived.SizedLaws
import Derived.Test.YtbpkppmbbpoohaaGreatM
import Derived.Test.YtbpkppmbbpoohaaGreatSd
import Derived.BigQuiet
namespace Go.Proofs.YtbpkppmbbpoohaaGreat
open Go.ChangeShapes Go.WideShapes Go.ChangeAt Go.RowKit Go.Joins Go.Deep

def Wok {H : Type} (t : TypeId) (y : DataW H × List MemPlace) : Prop := ∀ n ∈ y.1.weights Tryz.prog t, n ≤ reachBytes
/-- The texts of the cases are within the reach. -/
def FieldZ (d : FieldD) : Prop := ∀ c ∈ d.cases, c.of_.length ≤ reachBytes
def MsgZ (m : MsgD) : Prop := m.fields.length ≤ reachBytes ∧ ∀ d ∈ m.fields, FieldZ d

theorem mem_all {H : Type} {P : Program} {e : TypeId} : ∀ {l : List (DataW H)} {d : DataW H}, d ∈ l → ∀ n ∈ d.weights P e, n ∈ DataW.weightsAll P e l
  | x :: l, d, hd, n, hn => by
    simp only [DataW.weightsAll, List.mem_append]
    rcases List.mem_cons.1 hd with rfl | h
    · exact .inl hn
    · exact .inr (mem_all h n hn)
  | [], _, hd, _, _ => by simp at hd

section
variable {H : Type} {enc : TypeId × Value → H} {W : World}
theorem fldz {t : TypeId} {fs : Array Field} {fuel : Nat} {cs : List Value} {x : DataW H × List MemPlace} (ht : Tryz.prog.underlying t = some (.struct fs)) (h : DataW.trod enc Tryz.prog W 0 (fun _ => true) true fuel t cs = some x) (hz : Wok t x) (i : Nat) (f : Field) (hi : fs[i]? = some f) :
    ∃ n y, DataW.trod enc Tryz.prog W 0 (fun _ => true) true n f.type ((cs.drop f.offset).take (Tryz.prog.cellsOf f.type)) = some y ∧ Wok f.type y := by
  obtain ⟨xs, n, _, hx, _, hl, hf⟩ := DataW.trod_struct ht h
  have h1 := hf i f hi
  have hi' : i < xs.length := by rw [hl]; exact (Array.getElem?_eq_some_iff.1 hi).1
  rw [List.getElem?_eq_getElem hi'] at h1
  refine ⟨n, _, h1, fun k hk => hz k ?_⟩
  subst hx
  simp only [DataW.weights, ht]
  exact DataW.weights_mem_each (j := i) (by rw [List.getElem?_map, Array.getElem?_toList, hi]; rfl) (by rw [List.getElem?_map, List.getElem?_eq_getElem hi']; rfl) k hk

set_option maxRecDepth 100000 in
/-- A slice whose elements open, with sizes. -/
theorem open_slz {α : Type} [Inhabited α] (cf : α → List Value) (s : Nat) (Q : α → Prop) (t e : TypeId) (ht : Tryz.prog.underlying t = some (.slice e)) (hc : Tryz.prog.cellsOf e = s) (h0 : 0 < s) (hb : 0 < Tryz.prog.bytesOf e) (hcf : ∀ d, (cf d).length = s)
    (he : ∀ n cs y, DataW.trod enc Tryz.prog W 0 (fun _ => true) true n e cs = some y → Wok e y → ∃ d : α, cs = cf d ∧ Q d)
    {n : Nat} {cs : List Value} {y : DataW H × List MemPlace} (h : DataW.trod enc Tryz.prog W 0 (fun _ => true) true n t cs = some y) (hz : Wok t y) :
    ∃ A c, ∃ D : List α, cs = [.slice A D.length c] ∧ SlAt cf s (fun k => W.heap.size ≤ k) W A c D ∧ D.length ≤ reachBytes ∧ ∀ d ∈ D, Q d := by
  rcases open_slice ht h with ⟨hcs, hx⟩ | ⟨a, len, cap, m, n, D, Pl, hcs, _, hl, hm, hmm, hy, hx⟩
  · exact ⟨none, 0, [], hcs, ⟨Nat.le_refl _, by omega, fun i d hi => by simp at hi⟩, Nat.zero_le _, fun d hd => by cases hd⟩
  · simp only [if_true] at hmm
    rw [hc] at hx
    have hw : ∀ i, i < m → ∀ k ∈ (D i).weights Tryz.prog e, k ≤ reachBytes := fun i hi k hk => hz k (by
      subst hy
      simp only [DataW.weights, ht]
      refine List.mem_cons_of_mem _ (List.mem_append.2 ?_)
      by_cases hil : i < len
      · exact .inl (mem_all (d := D i) (List.mem_map.2 ⟨i, List.mem_range.2 hil, rfl⟩) k hk)
      · exact .inr (mem_all (d := D i) (List.mem_map.2 ⟨i - len, List.mem_range.2 (by omega), by rw [Nat.add_sub_cancel' (by omega)]⟩) k hk))
    have hlen : len ≤ reachBytes := by
      have := hz ((len + (m - len)) * Tryz.prog.bytesOf e) (by
        subst hy
        simp only [DataW.weights, ht]
        have e1 : ((List.range len).map D).length = len := by simp
        have e2 : ((List.range (m - len)).map fun j => D (len + j)).length = m - len := by simp
        rw [e1, e2]
        exact List.mem_cons_self)
      have h2 : len * 1 ≤ (len + (m - len)) * Tryz.prog.bytesOf e := Nat.mul_le_mul (by omega) hb
      omega
    have hsp : 0 < m → a.spot = none := fun h => by
      obtain ⟨cs', hc1, hc2⟩ := hx 0 h
      obtain ⟨_, _, hcc⟩ := World.cells?_some hc1
      obtain ⟨d, rfl, _⟩ := he _ _ _ hc2 (hw 0 h)
      have h00 := hcc 0 h0
      rw [List.getElem?_eq_getElem (by rw [hcf d]; exact h0)] at h00
      have := spot_none h00
      simpa [Addr.add] using this
    obtain ⟨f, hfl⟩ := choose_lt (α := α) (n := m) (p := fun i d => Q d ∧ ∃ g o, a = ⟨g, o, none⟩ ∧ g < W.heap.size ∧ ∀ j u, (cf d)[j]? = some u → W.cell? ⟨g, o + i * s + j, none⟩ = some u) (fun i hi => by
      obtain ⟨cs', hc1, hc2⟩ := hx i hi
      obtain ⟨_, _, hcc⟩ := World.cells?_some hc1
      obtain ⟨d, rfl, hq⟩ := he _ _ _ hc2 (hw i hi)
      have hl := hcf d
      have h00 := hcc 0 h0
      rw [List.getElem?_eq_getElem (by omega)] at h00
      obtain ⟨g, o, sp⟩ := a
      have hsp' : sp = none := hsp (by omega)
      subst hsp'
      rw [add_at, add_at] at h00
      refine ⟨d, hq, g, o, rfl, read_lt h00, fun j u hu => ?_⟩
      have hj : j < s := by
        have := (List.getElem?_eq_some_iff.1 hu).1
        omega
      have := hcc j hj
      rw [hu, add_at, add_at] at this
      exact this)
    have hmL : cap ≤ 9223372036854775807 := hm
    refine ⟨some a, cap, (List.range len).map f, by simpa using hcs, ⟨by simpa using hl, hmL, fun i d hi => ?_⟩, by simpa using hlen, fun d hd => ?_⟩
    · have hil : i < len := by
        have := (List.getElem?_eq_some_iff.1 hi).1
        simpa using this
      simp [hil] at hi
      subst hi
      obtain ⟨_, g, o, e1, hg, hcell⟩ := hfl i (by omega)
      exact ⟨g, o, by rw [e1], by show ¬ W.heap.size ≤ g; omega, hcell⟩
    · simp only [List.mem_map, List.mem_range] at hd
      obtain ⟨i, hi, rfl⟩ := hd
      exact (hfl i (by omega)).1
theorem str_openz {t : TypeId} {n : Nat} {cs : List Value} {y : DataW H × List MemPlace} (ht : Tryz.prog.underlying t = some .string) (h : DataW.trod enc Tryz.prog W 0 (fun _ => true) true n t cs = some y) (hz : Wok t y) : ∃ l, cs = [.string (strL l)] ∧ l.length ≤ reachBytes := by
  obtain ⟨s, e0, e1, _⟩ := DataW.trod_string ht h
  refine ⟨s.data.toList, by rw [strL_of]; exact e0, hz _ ?_⟩
  rw [e1]
  simp [DataW.weights]
end

theorem Tryz.bTerm : 0 < Tryz.prog.bytesOf 67 := by decide +kernel
theorem Tryz.bCase : 0 < Tryz.prog.bytesOf 65 := by decide +kernel
theorem Tryz.bField : 0 < Tryz.prog.bytesOf 55 := by decide +kernel
theorem Tryz.bMsg : 0 < Tryz.prog.bytesOf 36 := by decide +kernel

section
variable {H : Type} {enc : TypeId × Value → H} {W : World} {n : Nat} {cs : List Value} {y : DataW H × List MemPlace}
set_option maxRecDepth 100000 in
theorem case_openz (h : DataW.trod enc Tryz.prog W 0 (fun _ => true) true n 65 cs = some y) (hz : Wok 65 y) : ∃ d : CaseD, cs = d.cells ∧ d.of_.length ≤ reachBytes := by
  have hl := fld_len Tryz.underlying65 h
  rw [Tryz.cCase] at hl
  obtain ⟨c0, c1, c2, rfl⟩ := list3 hl
  obtain ⟨_, _, h0, _⟩ := fldz Tryz.underlying65 h hz 0 _ rfl
  obtain ⟨_, _, h1, _⟩ := fldz Tryz.underlying65 h hz 1 _ rfl
  obtain ⟨_, _, h2, z2⟩ := fldz Tryz.underlying65 h hz 2 _ rfl
  simp [Tryz.cs, Tryz.ci] at h0 h1 h2
  obtain ⟨a, e0, w0⟩ := int_open Tryz.oi h0
  obtain ⟨b, e1, w1⟩ := int_open Tryz.oi h1
  obtain ⟨s, e2, hs⟩ := str_openz Tryz.os h2 z2
  simp at e0 e1 e2
  subst e0 e1 e2
  exact ⟨⟨a, b, s⟩, rfl, hs⟩
set_option maxRecDepth 100000 in
set_option maxHeartbeats 800000 in
theorem field_openz (h : DataW.trod enc Tryz.prog W 0 (fun _ => true) true n 55 cs = some y) (hz : Wok 55 y) : ∃ d : FieldD, cs = d.cells ∧ FieldOk (fun k => W.heap.size ≤ k) W d ∧ FieldZ d := by
  have hl := fld_len Tryz.underlying55 h
  rw [Tryz.cField] at hl
  obtain ⟨c0, c1, c2, c3, c4, c5, c6, c7, c8, c9, c10, c11, c12, c13, c14, rfl⟩ := list15 hl
  obtain ⟨_, _, h0⟩ := fld Tryz.underlying55 h 0 _ rfl
  obtain ⟨_, _, h1⟩ := fld Tryz.underlying55 h 1 _ rfl
  obtain ⟨_, _, h2⟩ := fld Tryz.underlying55 h 2 _ rfl
  obtain ⟨_, _, h3⟩ := fld Tryz.underlying55 h 3 _ rfl
  obtain ⟨_, _, h4⟩ := fld Tryz.underlying55 h 4 _ rfl
  obtain ⟨_, _, h5⟩ := fld Tryz.underlying55 h 5 _ rfl
  obtain ⟨_, _, h6⟩ := fld Tryz.underlying55 h 6 _ rfl
  obtain ⟨_, _, h7⟩ := fld Tryz.underlying55 h 7 _ rfl
  obtain ⟨_, _, h8⟩ := fld Tryz.underlying55 h 8 _ rfl
  obtain ⟨_, _, h9⟩ := fld Tryz.underlying55 h 9 _ rfl
  obtain ⟨_, _, h10⟩ := fld Tryz.underlying55 h 10 _ rfl
  obtain ⟨_, _, h11, z11⟩ := fldz Tryz.underlying55 h hz 11 _ rfl
  obtain ⟨_, _, h12⟩ := fld Tryz.underlying55 h 12 _ rfl
  obtain ⟨_, _, h13⟩ := fld Tryz.underlying55 h 13 _ rfl
  clear h hl
  simp [Tryz.cs] at h0 h8 h9 h10
  simp [Tryz.ci] at h2 h5 h6 h12 h13
  simp [Tryz.ck] at h1
  simp [Tryz.cb] at h3 h4
  simp [Tryz.cSize] at h7
  simp [Tryz.cCases] at h11
  obtain ⟨nm, e0⟩ := str_open Tryz.os h0
  obtain ⟨ki, e1, w1⟩ := int_open Tryz.ok h1
  obtain ⟨bi, e2, w2⟩ := int_open Tryz.oi h2
  obtain ⟨li, e3, _⟩ := DataW.trod_bool Tryz.ob h3
  obtain ⟨lo, e4, _⟩ := DataW.trod_bool Tryz.ob h4
  obtain ⟨l, e5, w5⟩ := int_open Tryz.oi h5
  obtain ⟨hh, e6, w6⟩ := int_open Tryz.oi h6
  obtain ⟨b, A, c, D, e7, w7, hs7, hw7⟩ := size_open h7
  obtain ⟨of_, e8⟩ := str_open Tryz.os h8
  obtain ⟨tg, e9⟩ := str_open Tryz.os h9
  obtain ⟨fr, e10⟩ := str_open Tryz.os h10
  obtain ⟨A', c', D', e11, hs11, _, hw11⟩ := open_slz CaseD.cells 3 (fun c => c.of_.length ≤ reachBytes) 53 65 Tryz.underlying53 Tryz.cCase (by omega) Tryz.bCase (fun _ => rfl) (fun _ _ _ h hz => case_openz h hz) h11 z11
  obtain ⟨ch, e12, w12⟩ := int_open Tryz.oi h12
  obtain ⟨ke, e13, w13⟩ := int_open Tryz.oi h13
  clear h0 h1 h2 h3 h4 h5 h6 h7 h8 h9 h10 h11 h12 h13
  simp only [List.cons.injEq, and_true] at e0 e1 e2 e3 e4 e5 e6 e7 e8 e9 e10 e11 e12 e13
  obtain ⟨e7, e7'⟩ := e7
  subst e0 e1 e2 e3 e4 e5 e6 e7 e7' e8 e9 e10 e11 e12 e13
  exact ⟨⟨nm, ki, bi, li, lo, l, hh, b, A, c, D, of_, tg, fr, A', c', D', ch, ke⟩, rfl, ⟨hs7, hs11⟩, hw11⟩
set_option maxRecDepth 100000 in
theorem msg_openz (h : DataW.trod enc Tryz.prog W 0 (fun _ => true) true n 36 cs = some y) (hz : Wok 36 y) : ∃ d : MsgD, cs = d.cells ∧ MsgOk (fun k => W.heap.size ≤ k) W d ∧ MsgZ d := by
  have hl := fld_len Tryz.underlying36 h
  rw [Tryz.cMsg] at hl
  obtain ⟨c0, c1, rfl⟩ := list2 hl
  obtain ⟨_, _, h0⟩ := fld Tryz.underlying36 h 0 _ rfl
  obtain ⟨_, _, h1, z1⟩ := fldz Tryz.underlying36 h hz 1 _ rfl
  simp [Tryz.cs, Tryz.cFields] at h0 h1
  obtain ⟨s, e0⟩ := str_open Tryz.os h0
  obtain ⟨A, c, D, e1, hs, hln, hw⟩ := open_slz FieldD.cells 15 (fun d => FieldOk (fun k => W.heap.size ≤ k) W d ∧ FieldZ d) 34 55 Tryz.underlying34 Tryz.cField (by omega) Tryz.bField (fun _ => rfl) (fun _ _ _ h hz => field_openz h hz) h1 z1
  simp at e0 e1
  subst e0 e1
  exact ⟨⟨s, A, c, D⟩, rfl, ⟨hs, fun d hd => (hw d hd).1⟩, hln, fun d hd => (hw d hd).2⟩
/-- The messages of a definition lie in memory, its texts and lists within the reach. -/
def DefZ (W : World) (A : Option Addr) (c : Nat) (D : List MsgD) : Prop := MsgsAt (fun k => W.heap.size ≤ k) W A c D ∧ ∀ m ∈ D, MsgZ m
set_option maxRecDepth 100000 in
theorem def_openz (h : DataW.trod enc Tryz.prog W 0 (fun _ => true) true n 24 cs = some y) (hz : Wok 24 y) : ∃ (nm st : List UInt8) (A : Option Addr) (c : Nat) (D : List MsgD), cs = [.string (strL nm), .slice A D.length c, .string (strL st)] ∧ DefZ W A c D := by
  have hl := fld_len Tryz.underlying24 h
  rw [Tryz.cDef] at hl
  obtain ⟨c0, c1, c2, rfl⟩ := list3 hl
  obtain ⟨_, _, h0⟩ := fld Tryz.underlying24 h 0 _ rfl
  obtain ⟨_, _, h1, z1⟩ := fldz Tryz.underlying24 h hz 1 _ rfl
  obtain ⟨_, _, h2⟩ := fld Tryz.underlying24 h 2 _ rfl
  simp [Tryz.cs, Tryz.cMsgs] at h0 h1 h2
  obtain ⟨s, e0⟩ := str_open Tryz.os h0
  obtain ⟨A, c, D, e1, hs, _, hw⟩ := open_slz MsgD.cells 2 (fun d => MsgOk (fun k => W.heap.size ≤ k) W d ∧ MsgZ d) 22 36 Tryz.underlying22 Tryz.cMsg (by omega) Tryz.bMsg (fun _ => rfl) (fun _ _ _ h hz => msg_openz h hz) h1 z1
  obtain ⟨st, e2⟩ := str_open Tryz.os h2
  simp at e0 e1 e2
  subst e0 e1 e2
  exact ⟨s, st, A, c, D, rfl, ⟨hs, fun d hd => (hw d hd).1⟩, fun m hm => (hw m hm).2⟩
end
set_option maxRecDepth 100000 in
/-- A definition as an argument. -/
theorem arg_defz {H : Type} {enc : TypeId × Value → H} {W : World} {base : Nat} {v : Value} {d : DataW H} {p : List MemPlace} (hval : Value.okWide Tryz.prog W .any base 24 v) (h : DataW.Trod enc Tryz.prog W 0 (fun _ => true) true 24 v d p) (hz : Wok 24 (d, p)) :
    ∃ (nm st : List UInt8) (A : Option Addr) (c : Nat) (D : List MsgD), v = .agg #[.string (strL nm), .slice A D.length c, .string (strL st)] ∧ DefZ W A c D := by
  obtain ⟨cs, rfl, _⟩ := okWide_struct Tryz.underlying24 hval
  obtain ⟨n, hf⟩ := h
  obtain ⟨nm, st, A, c, D, e, hD⟩ := def_openz hf hz
  refine ⟨nm, st, A, c, D, ?_, hD⟩
  have : cs.toList = [.string (strL nm), .slice A D.length c, .string (strL st)] := by simpa [Value.cells] using e
  rw [← this]
end Go.Proofs.YtbpkppmbbpoohaaGreat

namespace Go.Proofs.YtbpkppmbbpoohaaGreat
open Go.RowKit

set_option maxRecDepth 100000 in
set_option maxHeartbeats 800000 in
theorem refLetter (n : Nat) (w : World) : Calls Tryz.prog 81 #[.int .u8 n] w fun e w' => e = .returned (.bool (isLet n)) ∧ w' = w := by
  go_enter Tryz.func81, Tryz.ntmps81
  go_wp2
  all_goals (go_ret; refine ⟨ret_bool ?_, rfl⟩; rw [Bool.eq_iff_iff]; simp [isLet, *]; try omega)
set_option maxRecDepth 100000 in
set_option maxHeartbeats 800000 in
theorem refDigit (n : Nat) (w : World) : Calls Tryz.prog 82 #[.int .u8 n] w fun e w' => e = .returned (.bool (isDig n)) ∧ w' = w := by
  go_enter Tryz.func82, Tryz.ntmps82
  go_wp2
  all_goals (go_ret; refine ⟨ret_bool ?_, rfl⟩; rw [Bool.eq_iff_iff]; simp [isDig, *]; try omega)

set_option maxRecDepth 100000 in
set_option maxHeartbeats 12800000 in
theorem refName (l : List UInt8) (w : World) : Calls Tryz.prog 49 #[.string (strL l)] w fun e w' => e = .returned (.bool (nameB l)) ∧ w' = w := by
  have hs : (strL l).size = l.length := strL_size l
  obtain ⟨R, hR⟩ : ∃ R, nameB l = R := ⟨_, rfl⟩
  rw [hR]
  have HR := Lib.hid hR
  clear hR
  by_cases hc1 : l.length < 1
  · have hRf : R = false := by
      rw [← HR.out]
      have : inB (l.length : Int) 1 32 = false := by
        have h0 : l.length = 0 := by omega
        rw [h0]; rfl
      simp [nameB, this]
    subst hRf
    have hc0 : (strL l).size = 0 := by omega
    clear hs
    go_enter Tryz.func49, Tryz.ntmps49
    go_wp2
    go_ret
    exact ⟨rfl, rfl⟩
  by_cases hc2 : l.length > 32
  · have hRf : R = false := by
      rw [← HR.out]
      have : inB (l.length : Int) 1 32 = false := by
        cases e : inB (l.length : Int) 1 32 with
        | false => rfl
        | true => simp [inB] at e; omega
      simp [nameB, this]
    subst hRf
    have hc0 : 32 < (strL l).size := by omega
    go_enter Tryz.func49, Tryz.ntmps49
    go_wp2
    go_ret
    exact ⟨rfl, rfl⟩
  have hw : inB (l.length : Int) 1 32 = true := by simp [inB]; omega
  have hb : 1 ≤ l.length ∧ l.length ≤ 32 := by omega
  have h0 : 0 < (strL l).size := by omega
  have hli : ((l.length : Nat) : Int) ≤ 32 := by omega
  have hli2 : ¬ ((l.length : Nat) : Int) < 1 := by omega
  obtain ⟨b0, hb0⟩ : ∃ b0 : Nat, (strL l)[0].toNat = b0 := ⟨_, rfl⟩
  have hb0' : (l.headD 0).toNat = b0 := by
    rw [← hb0, strL_get]
    cases l with
    | nil => simp at hb
    | cons b l => rfl
  have HL := fun w => Lib.hid (refLetter b0 w)
  have HB := Lib.hid hb
  have HW := Lib.hid hw
  have HB0 := Lib.hid hb0'
  clear hb hw hb0'
  cases h1 : isLet b0 with
  | false =>
    rw [h1] at HL
    have H1 := Lib.hid h1
    have hRf : R = false := by rw [← HR.out]; unfold nameB; rw [HB0.out, H1.out, Bool.and_false, Bool.false_and]
    subst hRf
    clear h1
    go_enter Tryz.func49, Tryz.ntmps49
    go_wp2_with (go_at_call 81; refine ((HL _).out).mono ?_; rintro e w' ⟨rfl, rfl⟩)
    go_ret
    exact ⟨rfl, rfl⟩
  | true =>
    rw [h1] at HL
    have H1 := Lib.hid h1
    have hall : R = l.all (fun b => isWrd b.toNat) := by rw [← HR.out]; unfold nameB; rw [HB0.out, H1.out, HW.out]; rfl
    have HALL := Lib.hid hall
    clear h1 hall HR
    go_enter Tryz.func49, Tryz.ntmps49
    go_wp2_with (go_at_call 81; refine ((HL _).out).mono ?_; rintro e w' ⟨rfl, rfl⟩)
    go_loop [3] (fun x3 => ∃ i : Nat, i ≤ l.length ∧ x3 = .int .i64 ((i : Nat) : Int) ∧ (l.take i).all (fun b => isWrd b.toNat) = true) (fun x3 => l.length - (intOf x3).toNat)
    case atStart => exact ⟨0, Nat.zero_le _, rfl, by simp⟩
    case round =>
      obtain ⟨i, hi, rfl, hall⟩ := hrel
      have HA := Lib.hid hall
      clear hall
      by_cases hlt : i < l.length
      · have h2 : i < (strL l).size := by omega
        have hgb : (strL l)[i].toNat = (l[i]'hlt).toNat := by rw [strL_get]
        obtain ⟨q, hq⟩ : ∃ q : Nat, (strL l)[i].toNat = q := ⟨_, rfl⟩
        have HO := fun w => Lib.hid (refLetter q w)
        have HP := fun w => Lib.hid (refDigit q w)
        cases h3 : isLet q with
        | true =>
          rw [h3] at HO
          have hn := all_take_succ hlt HA.out (by rw [← hgb, hq]; simp [isWrd, h3])
          have HN := Lib.hid hn
          clear h3 hgb hn HP
          go_wp2_with (go_at_call 81; refine ((HO _).out).mono ?_; rintro e w' ⟨rfl, rfl⟩)
          go_round
          case rel => exact ⟨i + 1, by omega, by go_num, HN.out⟩
          case measure => simp [intOf]; omega
        | false =>
          rw [h3] at HO
          cases h4 : isDig q with
          | true =>
            rw [h4] at HP
            have hn := all_take_succ hlt HA.out (by rw [← hgb, hq]; simp [isWrd, h4])
            have HN := Lib.hid hn
            clear h3 h4 hgb hn
            go_wp2_with (first | (go_at_call 81; refine ((HO _).out).mono ?_; rintro e w' ⟨rfl, rfl⟩) | (go_at_call 82; refine ((HP _).out).mono ?_; rintro e w' ⟨rfl, rfl⟩))
            go_round
            case rel => exact ⟨i + 1, by omega, by go_num, HN.out⟩
            case measure => simp [intOf]; omega
          | false =>
            rw [h4] at HP
            by_cases h5 : q = 95
            · have hn := all_take_succ hlt HA.out (by rw [← hgb, hq]; simp [isWrd, h5])
              have HN := Lib.hid hn
              have hc1 : (((q : Nat) : Int) != 95) = false := by rw [h5]; rfl
              clear h3 h4 hgb hn h5
              go_wp2_with (first | (go_at_call 81; refine ((HO _).out).mono ?_; rintro e w' ⟨rfl, rfl⟩) | (go_at_call 82; refine ((HP _).out).mono ?_; rintro e w' ⟨rfl, rfl⟩))
              go_round
              case rel => exact ⟨i + 1, by omega, by go_num, HN.out⟩
              case measure => simp [intOf]; omega
            · have hRf : R = false := by rw [HALL.out]; exact all_get hlt (by rw [← hgb, hq]; simp [isWrd, h3, h4, h5])
              have HRF := Lib.hid hRf
              have hc1 : (((q : Nat) : Int) != 95) = true := by
                have : ¬ ((q : Nat) : Int) = 95 := by omega
                simpa using this
              clear h3 h4 hgb hRf h5
              go_wp2_with (first | (go_at_call 81; refine ((HO _).out).mono ?_; rintro e w' ⟨rfl, rfl⟩) | (go_at_call 82; refine ((HP _).out).mono ?_; rintro e w' ⟨rfl, rfl⟩))
              go_ret
              exact ⟨ret_bool HRF.out.symm, rfl⟩
      · obtain rfl : i = l.length := by omega
        have hRt : R = true := by rw [HALL.out]; have := HA.out; rwa [List.take_length] at this
        have HRT := Lib.hid hRt
        clear hRt
        go_wp2
        go_ret
        exact ⟨ret_bool HRT.out.symm, rfl⟩
end Go.Proofs.YtbpkppmbbpoohaaGreat

namespace Go.Proofs.YtbpkppmbbpoohaaGreat
open Go.RowKit Go.Shelf

set_option maxRecDepth 100000 in
set_option maxHeartbeats 800000 in
theorem refSmall (n : Int) (w : World) : Calls Tryz.prog 162 #[.int .i64 n] w fun e w' => e = .returned (.bool (inB n (-1048576) 1048576)) ∧ w' = w := by
  go_enter Tryz.func162, Tryz.ntmps162
  go_wp2
  all_goals (go_ret; refine ⟨ret_bool ?_, rfl⟩; rw [Bool.eq_iff_iff]; simp [inB, *]; try omega)

theorem ok_all {D : List TermD} {i : Nat} {d : TermD} (hi : D[i]? = some d) : okFrom (D.take i) (D.drop i) = (okT (D.take i) d && okFrom (D.take (i + 1)) (D.drop (i + 1))) := by
  rw [(drop_of hi).1, (drop_of hi).2]
  rfl
theorem okT_eq (pre : List TermD) (d : TermD) (a b e f : Bool) (h1 : nameB d.f = a) (h2 : (d.k == 0) = b) (h3 : inB d.k (-1048576) 1048576 = e) (h4 : decide (idxOf (fun x : TermD => x.f == d.f) pre < 0) = f) : okT pre d = (a && (!b && (e && f))) := by
  unfold okT
  rw [h1, h3, h4, ← h2]
  rfl

set_option maxRecDepth 100000 in
set_option maxHeartbeats 12800000 in
theorem refSizeValid (base : Int) (A : Option Addr) (c : Nat) (D : List TermD) (S : Nat → Prop) (w : World) (h : SlAt TermD.cells 2 S w A c D) :
    Calls Tryz.prog 148 #[.agg #[.int .i64 base, .slice A D.length c]] w fun e w' => e = .returned (.bool (validS base D)) ∧ Below w.heap.size w w' := by
  have hl : D.length ≤ 9223372036854775807 := Nat.le_trans h.1 h.2.1
  have b1 := below_alloc w (.cells #[.int .i64 base, .slice A D.length c] 52)
  have x1 := szbox w (.int .i64 base) (.slice A D.length c)
  have h1 := h.below b1
  obtain ⟨b, eb⟩ : ∃ b, w.heap.size = b := ⟨_, rfl⟩
  obtain ⟨w1, hw1⟩ : ∃ w1, w.alloc (.cells #[.int .i64 base, .slice A D.length c] 52) = w1 := ⟨_, rfl⟩
  rw [hw1] at b1 x1 h1
  rw [eb] at x1
  have KB : Hid (∀ wx, Below w1.heap.size w1 wx → wx.cell? ⟨b, 0, none⟩ = some (.int .i64 base) ∧ wx.cell? ⟨b, 1, none⟩ = some (.slice A D.length c)) := Lib.hid (fun wx hb => by
    have := (hb.block b (Array.getElem?_eq_some_iff.1 x1).1).trans x1
    exact ⟨by simp [World.cell?, this], by simp [World.cell?, this]⟩)
  have H1 : Hid (∀ wx, Below w1.heap.size w1 wx → SlAt TermD.cells 2 S wx A c D) := Lib.hid (fun wx hb => h1.rest (Rest.below (S := fun _ => False) hb) (fun _ _ e => e.elim))
  obtain ⟨R, hR⟩ : ∃ R, validS base D = R := ⟨_, rfl⟩
  rw [hR]
  have HR := Lib.hid hR
  have HW := Lib.hid hw1
  have EB := Lib.hid eb
  have HB1 := Lib.hid b1
  have HS := fun w => Lib.hid (refSmall base w)
  obtain ⟨q0, q1⟩ := KB.out w1 (Below.refl _ _)
  obtain ⟨s0, e0⟩ : ∃ s, inB base (-1048576) 1048576 = s := ⟨_, rfl⟩
  rw [e0] at HS
  have E0 := Lib.hid e0
  clear h h1 b1 x1 hw1 eb hR e0
  cases s0 with
  | false =>
    have hRf := Lib.hid (show R = false by rw [← HR.out]; unfold validS; rw [E0.out]; rfl)
    go_enter Tryz.func148, Tryz.ntmps148
    go_upto_region 1 with fail
    rw [HW.out, EB.out]
    go_wp2_with (go_at_call 162; refine ((HS _).out).mono ?_; rintro e w' ⟨rfl, rfl⟩)
    go_ret
    exact ⟨ret_bool hRf.out.symm, HB1.out⟩
  | true =>
  by_cases h4 : 4 < D.length
  · have hRf := Lib.hid (show R = false by rw [← HR.out]; unfold validS; rw [decide_eq_false (by omega)]; simp)
    go_enter Tryz.func148, Tryz.ntmps148
    go_upto_region 1 with fail
    rw [HW.out, EB.out]
    go_wp2_with (go_at_call 162; refine ((HS _).out).mono ?_; rintro e w' ⟨rfl, rfl⟩)
    go_ret
    exact ⟨ret_bool hRf.out.symm, HB1.out⟩
  have hRok := Lib.hid (show R = okFrom [] D by rw [← HR.out]; unfold validS; rw [E0.out, decide_eq_true (by omega)]; rfl)
  go_enter Tryz.func148, Tryz.ntmps148
  go_upto_region 1 with fail
  rw [HW.out, EB.out]
  go_wp2_with (go_at_call 162; refine ((HS _).out).mono ?_; rintro e w' ⟨rfl, hw'⟩; have hw'' := hw'.symm; clear hw'; subst hw'')
  clear q0 q1
  go_loopw [3] (fun x wr => ∃ i : Nat, i ≤ D.length ∧ x = .int .i64 ((i : Nat) : Int) ∧ R = okFrom (D.take i) (D.drop i) ∧ Below w1.heap.size w1 wr) (fun x _ => D.length - (intOf x).toNat)
  case atStart => exact ⟨0, Nat.zero_le _, rfl, by simpa using hRok.out, Below.refl _ _⟩
  case round =>
    obtain ⟨i, hi, rfl, hr, hb⟩ := hrel
    have HRI := Lib.hid hr
    have HB := Lib.hid hb
    clear hr hb
    obtain ⟨q0, q1⟩ := KB.out wr HB.out
    by_cases hlt : i < D.length
    · obtain ⟨d, hd⟩ : ∃ d, D[i]? = some d := ⟨_, List.getElem?_eq_getElem hlt⟩
      obtain ⟨g, o, rfl, hx⟩ := (H1.out wr HB.out).at_ hd
      have a0 : wr.cell? ⟨g, o + i * 2, none⟩ = some (.string (strL d.f)) := hx 0 _ rfl
      have a1 : wr.cell? ⟨g, o + i * 2 + 1, none⟩ = some (.int .i64 d.k) := hx 1 _ rfl
      have HNM := fun w => Lib.hid (refName d.f w)
      have HSK := fun w => Lib.hid (refSmall d.k w)
      have HD := Lib.hid hd
      obtain ⟨sa, ea⟩ : ∃ s, nameB d.f = s := ⟨_, rfl⟩
      obtain ⟨sb, esb⟩ : ∃ s, (d.k == 0) = s := ⟨_, rfl⟩
      obtain ⟨sc, ec⟩ : ∃ s, inB d.k (-1048576) 1048576 = s := ⟨_, rfl⟩
      have hok : R = ((sa && (!sb && (sc && decide (idxOf (fun x : TermD => x.f == d.f) (D.take i) < 0)))) && okFrom (D.take (i + 1)) (D.drop (i + 1))) := by
        rw [HRI.out, ok_all hd, okT_eq _ _ sa sb sc _ ea esb ec rfl]
      have HOK := Lib.hid hok
      rw [ea] at HNM
      rw [ec] at HSK
      clear hd hx ea ec hok
      cases sa with
      | false =>
        have hRf := Lib.hid (show R = false by rw [HOK.out]; rfl)
        clear esb
        go_wp2_with (go_at_call 49; refine ((HNM _).out).mono ?_; rintro e w' ⟨rfl, rfl⟩)
        go_ret
        exact ⟨ret_bool hRf.out.symm, HB1.out.trans (HB.out.mono HB1.out.size)⟩
      | true =>
      cases sb with
      | true =>
        have hRf := Lib.hid (show R = false by rw [HOK.out]; rfl)
        go_wp2_with (go_at_call 49; refine ((HNM _).out).mono ?_; rintro e w' ⟨rfl, rfl⟩)
        go_ret
        exact ⟨ret_bool hRf.out.symm, HB1.out.trans (HB.out.mono HB1.out.size)⟩
      | false =>
      cases sc with
      | false =>
        have hRf := Lib.hid (show R = false by rw [HOK.out]; rfl)
        go_wp2_with (first | (go_at_call 49; refine ((HNM _).out).mono ?_; rintro e w' ⟨rfl, rfl⟩) | (go_at_call 162; refine ((HSK _).out).mono ?_; rintro e w' ⟨rfl, rfl⟩))
        go_ret
        exact ⟨ret_bool hRf.out.symm, HB1.out.trans (HB.out.mono HB1.out.size)⟩
      | true =>
      go_wp2_with (first | (go_at_call 49; refine ((HNM _).out).mono ?_; rintro e w' ⟨rfl, hw'⟩; have hw'' := hw'.symm; clear hw'; subst hw'') | (go_at_call 162; refine ((HSK _).out).mono ?_; rintro e w' ⟨rfl, hw'⟩; have hw'' := hw'.symm; clear hw'; subst hw''))
      clear q0 q1 a0 a1 esb
      go_loopw [4] (fun x wx => ∃ k : Nat, k ≤ i ∧ x = .int .i64 ((k : Nat) : Int) ∧ (∀ x ∈ D.take k, (x.f == d.f) = false) ∧ Below w1.heap.size w1 wx) (fun x _ => i - (intOf x).toNat)
      case atStart => exact ⟨0, Nat.zero_le _, rfl, by simp, HB.out⟩
      case round =>
        obtain ⟨k, hk, rfl, hn, hb2⟩ := hrel
        have HN := Lib.hid hn
        have HB2 := Lib.hid hb2
        clear hn hb2
        obtain ⟨w2, hw2⟩ : ∃ w2 : World, w2 = wr := ⟨_, rfl⟩
        by_cases hkl : k < i
        · obtain ⟨e, he⟩ : ∃ e, D[k]? = some e := ⟨_, List.getElem?_eq_getElem (by omega)⟩
          obtain ⟨q0, q1⟩ := KB.out _ HB2.out
          have hd' := (H1.out _ HB2.out).2.2 i d HD.out
          have he' := (H1.out _ HB2.out).2.2 k e he
          obtain ⟨g1, o1, e1, _, hx⟩ := hd'
          obtain ⟨g2, o2, e2, _, hy⟩ := he'
          cases e1
          cases e2
          have a0 := hx 0 _ rfl
          have b0 := hy 0 _ rfl
          simp only [Nat.add_zero] at a0 b0
          have hk0 : (0 : Int) ≤ ((k : Nat) : Int) := by omega
          have hk1 : ((k : Nat) : Int) < ((D.length : Nat) : Int) := by omega
          have hi0 : (0 : Int) ≤ ((i : Nat) : Int) := by omega
          have hi1 : ((i : Nat) : Int) < ((D.length : Nat) : Int) := by omega
          have HE := Lib.hid he
          clear he hx hy hw2
          by_cases hne : e.f = d.f
          · have hRf := Lib.hid (show R = false by
              rw [HOK.out]
              have : ¬ idxOf (fun x : TermD => x.f == d.f) (D.take i) < 0 := by
                have := (idx_nonneg (fun x : TermD => x.f == d.f) (D.take i) 0).2 (List.any_eq_true.2 ⟨e, List.mem_of_getElem? (show (D.take i)[k]? = some e by rw [List.getElem?_take, if_pos hkl]; exact HE.out), by simp [hne]⟩)
                unfold idxOf
                omega
              simp [this])
            rw [hne] at b0
            clear hne
            go_wp2_with fail
            go_quiet (fail)
            go_wp2_with fail
            go_ret
            exact ⟨ret_bool hRf.out.symm, HB1.out.trans ((HB2.out.trans ((below_drewN _ _).mono HB2.out.size)).mono HB1.out.size)⟩
          · have HNN := Lib.hid (take_none (p := fun x : TermD => x.f == d.f) HE.out HN.out (by simpa using hne))
            have e1 := text_ne hne
            clear hne
            go_wp2_with fail
            go_quiet (fail)
            go_wp2_with fail
            go_roundw
            case rel => exact ⟨k + 1, by omega, by go_num, HNN.out, HB2.out.trans ((below_drewN _ _).mono HB2.out.size)⟩
            case measure => simp [intOf]; omega
        · obtain rfl : k = i := by omega
          have hx : R = okFrom (D.take (k + 1)) (D.drop (k + 1)) := by
            rw [HOK.out, decide_eq_true (by rw [idx_miss HN.out]; decide)]
            rfl
          have HX := Lib.hid hx
          clear hx hw2
          go_wp2_with fail
          go_roundw
          case rel => exact ⟨k + 1, by omega, by go_num, HX.out, HB2.out⟩
          case measure => simp [intOf]; omega
    · obtain rfl : i = D.length := by omega
      have hRt := Lib.hid (show R = true by rw [HRI.out, List.drop_length]; rfl)
      go_wp2_with fail
      go_ret
      exact ⟨ret_bool hRt.out.symm, HB1.out.trans (HB.out.mono HB1.out.size)⟩
end Go.Proofs.YtbpkppmbbpoohaaGreat
