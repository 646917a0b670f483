/- The data of definitions; an examination in memory; demand, passed, within, below. Conditions: the examination lies in memory. Arguments are opened: terms, cases, sizes, fields, messages, a definition. Conditions: they read as data. -/
import Derived.Test.YtbpkppmbbpoohaaGreatSd
import Derived.Laws.Pointers
import Derived.Test.YtbpkppmbbpoohaaGreatRows
import Derived.ProofKit
import Derived.ChangeMaps5
import Derived.Lib.SmallJoins
import Derived.Deep.Slices
namespace Go.Proofs.YtbpkppmbbpoohaaGreat
open Go.RowKit Go.Shelf

/-- A case of a choice. -/
structure CaseD where
  lo : Int
  hi : Int
  of_ : List UInt8
def CaseD.cells (d : CaseD) : List Value := [.int .i64 d.lo, .int .i64 d.hi, .string (strL d.of_)]
def CaseD.agg (d : CaseD) : Value := .agg #[.int .i64 d.lo, .int .i64 d.hi, .string (strL d.of_)]
/-- A field, with the places of its terms and cases. -/
structure FieldD where
  name : List UInt8
  kind : Int
  bits : Int
  little : Bool
  loose : Bool
  low : Int
  high : Int
  base : Int
  ta : Option Addr
  tc : Nat
  terms : List TermD
  of_ : List UInt8
  tag : List UInt8
  from_ : List UInt8
  ca : Option Addr
  cc : Nat
  cases : List CaseD
  check : Int
  key : Int
def FieldD.cells (d : FieldD) : List Value := [.string (strL d.name), .int .i64 d.kind, .int .i64 d.bits, .bool d.little, .bool d.loose, .int .i64 d.low, .int .i64 d.high, .int .i64 d.base, .slice d.ta d.terms.length d.tc, .string (strL d.of_), .string (strL d.tag), .string (strL d.from_), .slice d.ca d.cases.length d.cc, .int .i64 d.check, .int .i64 d.key]
def FieldD.agg (d : FieldD) : Value := .agg #[.string (strL d.name), .int .i64 d.kind, .int .i64 d.bits, .bool d.little, .bool d.loose, .int .i64 d.low, .int .i64 d.high, .int .i64 d.base, .slice d.ta d.terms.length d.tc, .string (strL d.of_), .string (strL d.tag), .string (strL d.from_), .slice d.ca d.cases.length d.cc, .int .i64 d.check, .int .i64 d.key]
/-- A message, with the place of its fields. -/
structure MsgD where
  name : List UInt8
  fa : Option Addr
  fc : Nat
  fields : List FieldD
def MsgD.cells (d : MsgD) : List Value := [.string (strL d.name), .slice d.fa d.fields.length d.fc]
def MsgD.agg (d : MsgD) : Value := .agg #[.string (strL d.name), .slice d.fa d.fields.length d.fc]

/-- What a field's slices hold lies in memory. -/
def FieldOk (S : Nat → Prop) (W : World) (d : FieldD) : Prop := SlAt TermD.cells 2 S W d.ta d.tc d.terms ∧ SlAt CaseD.cells 3 S W d.ca d.cc d.cases
def FieldsAt (S : Nat → Prop) (W : World) (A : Option Addr) (c : Nat) (D : List FieldD) : Prop := SlAt FieldD.cells 15 S W A c D ∧ ∀ d ∈ D, FieldOk S W d
def MsgOk (S : Nat → Prop) (W : World) (m : MsgD) : Prop := FieldsAt S W m.fa m.fc m.fields
def MsgsAt (S : Nat → Prop) (W : World) (A : Option Addr) (c : Nat) (D : List MsgD) : Prop := SlAt MsgD.cells 2 S W A c D ∧ ∀ d ∈ D, MsgOk S W d
section
variable {S T : Nat → Prop} {W W' : World} {A : Option Addr} {c : Nat}
theorem FieldOk.rest {d : FieldD} (h : FieldOk S W d) (hr : Rest T W W') (hT : ∀ i, i < W.heap.size → T i → S i) : FieldOk S W' d := ⟨h.1.rest hr hT, h.2.rest hr hT⟩
theorem FieldsAt.rest {D : List FieldD} (h : FieldsAt S W A c D) (hr : Rest T W W') (hT : ∀ i, i < W.heap.size → T i → S i) : FieldsAt S W' A c D := ⟨h.1.rest hr hT, fun d hd => (h.2 d hd).rest hr hT⟩
theorem MsgsAt.rest {D : List MsgD} (h : MsgsAt S W A c D) (hr : Rest T W W') (hT : ∀ i, i < W.heap.size → T i → S i) : MsgsAt S W' A c D := ⟨h.1.rest hr hT, fun d hd => FieldsAt.rest (h.2 d hd) hr hT⟩
theorem FieldOk.below {d : FieldD} (h : FieldOk S W d) (hb : Below W.heap.size W W') : FieldOk S W' d := h.rest (T := fun _ => False) (Rest.below hb) (fun _ _ e => e.elim)
theorem FieldsAt.below {D : List FieldD} (h : FieldsAt S W A c D) (hb : Below W.heap.size W W') : FieldsAt S W' A c D := h.rest (T := fun _ => False) (Rest.below hb) (fun _ _ e => e.elim)
theorem MsgsAt.below {D : List MsgD} (h : MsgsAt S W A c D) (hb : Below W.heap.size W W') : MsgsAt S W' A c D := h.rest (T := fun _ => False) (Rest.below hb) (fun _ _ e => e.elim)
end

/-- A field in a block of its own. -/
structure FBox (W : World) (b : Nat) (d : FieldD) : Prop where
  blk : W.heap[b]? = some (.cells #[.string (strL d.name), .int .i64 d.kind, .int .i64 d.bits, .bool d.little, .bool d.loose, .int .i64 d.low, .int .i64 d.high, .int .i64 d.base, .slice d.ta d.terms.length d.tc, .string (strL d.of_), .string (strL d.tag), .string (strL d.from_), .slice d.ca d.cases.length d.cc, .int .i64 d.check, .int .i64 d.key] 55 (0, 0))
section
variable {W W' : World} {b : Nat} {d : FieldD}
theorem FBox.lt (h : FBox W b d) : b < W.heap.size := (Array.getElem?_eq_some_iff.1 h.blk).1
theorem FBox.new (W : World) (d : FieldD) : FBox (W.alloc (.cells #[.string (strL d.name), .int .i64 d.kind, .int .i64 d.bits, .bool d.little, .bool d.loose, .int .i64 d.low, .int .i64 d.high, .int .i64 d.base, .slice d.ta d.terms.length d.tc, .string (strL d.of_), .string (strL d.tag), .string (strL d.from_), .slice d.ca d.cases.length d.cc, .int .i64 d.check, .int .i64 d.key] 55)) W.heap.size d := ⟨heap_alloc_new W _⟩
theorem FBox.below {n : Nat} (h : FBox W b d) (hb : Below n W W') (hn : b < n) : FBox W' b d := ⟨(hb.block b hn).trans h.blk⟩
theorem FBox.rest {S : Nat → Prop} (h : FBox W b d) (hr : Rest S W W') (hs : ¬ S b) : FBox W' b d := ⟨(hr.block b h.lt hs).trans h.blk⟩
theorem FBox.fr (h : FBox W b d) (o : Nat) : W.frozen? ⟨b, o, none⟩ = false := by simp [World.frozen?, h.blk]
theorem FBox.c0 (h : FBox W b d) : W.cell? ⟨b, 0, none⟩ = some (.string (strL d.name)) := by simp [World.cell?, h.blk]
theorem FBox.c1 (h : FBox W b d) : W.cell? ⟨b, 1, none⟩ = some (.int .i64 d.kind) := by simp [World.cell?, h.blk]
theorem FBox.c2 (h : FBox W b d) : W.cell? ⟨b, 2, none⟩ = some (.int .i64 d.bits) := by simp [World.cell?, h.blk]
theorem FBox.c3 (h : FBox W b d) : W.cell? ⟨b, 3, none⟩ = some (.bool d.little) := by simp [World.cell?, h.blk]
theorem FBox.c4 (h : FBox W b d) : W.cell? ⟨b, 4, none⟩ = some (.bool d.loose) := by simp [World.cell?, h.blk]
theorem FBox.c5 (h : FBox W b d) : W.cell? ⟨b, 5, none⟩ = some (.int .i64 d.low) := by simp [World.cell?, h.blk]
theorem FBox.c6 (h : FBox W b d) : W.cell? ⟨b, 6, none⟩ = some (.int .i64 d.high) := by simp [World.cell?, h.blk]
theorem FBox.c7 (h : FBox W b d) : W.cell? ⟨b, 7, none⟩ = some (.int .i64 d.base) := by simp [World.cell?, h.blk]
theorem FBox.c8 (h : FBox W b d) : W.cell? ⟨b, 8, none⟩ = some (.slice d.ta d.terms.length d.tc) := by simp [World.cell?, h.blk]
theorem FBox.c9 (h : FBox W b d) : W.cell? ⟨b, 9, none⟩ = some (.string (strL d.of_)) := by simp [World.cell?, h.blk]
theorem FBox.c10 (h : FBox W b d) : W.cell? ⟨b, 10, none⟩ = some (.string (strL d.tag)) := by simp [World.cell?, h.blk]
theorem FBox.c11 (h : FBox W b d) : W.cell? ⟨b, 11, none⟩ = some (.string (strL d.from_)) := by simp [World.cell?, h.blk]
theorem FBox.c12 (h : FBox W b d) : W.cell? ⟨b, 12, none⟩ = some (.slice d.ca d.cases.length d.cc) := by simp [World.cell?, h.blk]
theorem FBox.c13 (h : FBox W b d) : W.cell? ⟨b, 13, none⟩ = some (.int .i64 d.check) := by simp [World.cell?, h.blk]
theorem FBox.c14 (h : FBox W b d) : W.cell? ⟨b, 14, none⟩ = some (.int .i64 d.key) := by simp [World.cell?, h.blk]
end

/-- An examination in memory: its place, the messages that it has passed, the fields that it has passed, the kinds. -/
structure ExAt (W : World) (x : Nat) (m f : Int) (kr : Nat) (A : Option Addr) (n c : Nat) (kk : Nat) : Prop where
  blk : W.heap[x]? = some (.cells #[.int .i64 m, .int .i64 f, .int .i64 0, .map (some kr), .slice A n c, .map (some kk)] 130 (0, 0))
section
variable {W W' : World} {x kr kk n c : Nat} {m f : Int} {A : Option Addr}
theorem ExAt.lt (h : ExAt W x m f kr A n c kk) : x < W.heap.size := (Array.getElem?_eq_some_iff.1 h.blk).1
theorem ExAt.below {k : Nat} (h : ExAt W x m f kr A n c kk) (hb : Below k W W') (hn : x < k) : ExAt W' x m f kr A n c kk := ⟨(hb.block x hn).trans h.blk⟩
theorem ExAt.rest {S : Nat → Prop} (h : ExAt W x m f kr A n c kk) (hr : Rest S W W') (hs : ¬ S x) : ExAt W' x m f kr A n c kk := ⟨(hr.block x h.lt hs).trans h.blk⟩
theorem ExAt.c0 (h : ExAt W x m f kr A n c kk) : W.cell? ⟨x, 0, none⟩ = some (.int .i64 m) := by simp [World.cell?, h.blk]
theorem ExAt.c1 (h : ExAt W x m f kr A n c kk) : W.cell? ⟨x, 1, none⟩ = some (.int .i64 f) := by simp [World.cell?, h.blk]
theorem ExAt.c2 (h : ExAt W x m f kr A n c kk) : W.cell? ⟨x, 2, none⟩ = some (.int .i64 0) := by simp [World.cell?, h.blk]
theorem ExAt.c3 (h : ExAt W x m f kr A n c kk) : W.cell? ⟨x, 3, none⟩ = some (.map (some kr)) := by simp [World.cell?, h.blk]
theorem ExAt.c4 (h : ExAt W x m f kr A n c kk) : W.cell? ⟨x, 4, none⟩ = some (.slice A n c) := by simp [World.cell?, h.blk]
theorem ExAt.c5 (h : ExAt W x m f kr A n c kk) : W.cell? ⟨x, 5, none⟩ = some (.map (some kk)) := by simp [World.cell?, h.blk]
theorem ExAt.fr (h : ExAt W x m f kr A n c kk) (o : Nat) : W.frozen? ⟨x, o, none⟩ = false := by simp [World.frozen?, h.blk]
end

/-- A flaw, as a panic. -/
def flawE (m f c : Int) : Ending := .panicked [{ v := .iface 30 (.agg #[.int .i64 m, .int .i64 f, .int .i64 c]), recovered := false }]
/-- Nothing, or a flaw. -/
def doE (r : Option Int) (m f : Int) : Ending := match r with | none => .returned (.tuple #[]) | some c => flawE m f c
/-- The first of two. -/
def orR (r s : Option Int) : Option Int := match r with | none => s | some c => some c
def ifR (b : Bool) (c : Int) : Option Int := if b then none else some c

set_option maxRecDepth 100000 in
set_option maxHeartbeats 800000 in
theorem demand_ok (v : Value) (c : Int) (w : World) : Calls Tryz.prog 115 #[v, .bool true, .int .i64 c] w fun e w' => e = .returned (.tuple #[]) ∧ w' = w := by
  go_enter Tryz.func115, Tryz.ntmps115
  go_wp2
  go_end0
  exact ⟨rfl, rfl⟩

set_option maxRecDepth 100000 in
set_option maxHeartbeats 800000 in
theorem demand_bad (x kr kk n cc : Nat) (m f : Int) (A : Option Addr) (c : Int) (w : World) (h : ExAt w x m f kr A n cc kk) : Calls Tryz.prog 115 #[.pointer (some ⟨x, 0, none⟩), .bool false, .int .i64 c] w fun e w' => e = flawE m f c ∧ Below w.heap.size w w' := by
  have c0 := h.c0
  have c1 := h.c1
  have c2 := h.c2
  have hal := below_alloc w (.cells #[.int .i64 m, .int .i64 f, .int .i64 0] 30)
  have hbx : (w.alloc (.cells #[.int .i64 m, .int .i64 f, .int .i64 0] 30)).heap[w.heap.size]? = some (.cells #[.int .i64 m, .int .i64 f, .int .i64 0] 30 (0, 0)) := heap_alloc_new w _
  obtain ⟨b, eb⟩ : ∃ b, w.heap.size = b := ⟨_, rfl⟩
  obtain ⟨w1, hw1⟩ : ∃ w1, w.alloc (.cells #[.int .i64 m, .int .i64 f, .int .i64 0] 30) = w1 := ⟨_, rfl⟩
  rw [hw1] at hal hbx
  rw [eb] at hbx
  have hset := heap_setCell_same w1 b 2 _ 30 (.int .i64 c) hbx
  have hb2 := hal.setCell (p := ⟨b, 2, none⟩) (by show w.heap.size ≤ b; omega) (.int .i64 c)
  have x2 : w1.frozen? ⟨b, 2, none⟩ = false := by simp [World.frozen?, hbx]
  have x3 : w1.cell? ⟨b, 2, none⟩ = some (.int .i64 0) := by simp [World.cell?, hbx]
  obtain ⟨w2, hw2⟩ : ∃ w2, w1.setCell ⟨b, 2, none⟩ (.int .i64 c) = w2 := ⟨_, rfl⟩
  rw [hw2] at hset hb2
  have y0 : w2.cell? ⟨b, 0, none⟩ = some (.int .i64 m) := by simp [World.cell?, hset]
  have y1 : w2.cell? ⟨b, 1, none⟩ = some (.int .i64 f) := by simp [World.cell?, hset]
  have y2 : w2.cell? ⟨b, 2, none⟩ = some (.int .i64 c) := by simp [World.cell?, hset]
  have W1 := Lib.hid hw1
  have W2 := Lib.hid hw2
  have EB := Lib.hid eb
  have HB2 := Lib.hid hb2
  clear h hal hbx hw1 hw2 eb hset hb2
  go_enter Tryz.func115, Tryz.ntmps115
  go_upto_region 2 with fail
  rw [W1.out, EB.out]
  go_upto_region 3 with fail
  rw [W2.out]
  go_wp2
  exact ⟨rfl, rfl, HB2.out⟩

set_option maxRecDepth 100000 in
set_option maxHeartbeats 800000 in
theorem withinS (n a b : Int) (w : World) : Calls Tryz.prog 102 #[.int .i64 n, .int .i64 a, .int .i64 b] w fun e w' => e = .returned (.bool (inB n a b)) ∧ w' = w := by
  go_enter Tryz.func102, Tryz.ntmps102
  go_wp2
  all_goals (go_ret; refine ⟨ret_bool ?_, rfl⟩; rw [Bool.eq_iff_iff]; simp [inB, *]; try omega)
end Go.Proofs.YtbpkppmbbpoohaaGreat

namespace Go.Proofs.YtbpkppmbbpoohaaGreat
open Go.ChangeShapes Go.WideShapes Go.ChangeAt Go.RowKit Go.Joins Go.Deep

instance : Inhabited TermD := ⟨⟨[], 0⟩⟩
instance : Inhabited CaseD := ⟨⟨0, 0, []⟩⟩
instance : Inhabited FieldD := ⟨⟨[], 0, 0, false, false, 0, 0, 0, none, 0, [], [], [], [], none, 0, [], 0, 0⟩⟩
instance : Inhabited MsgD := ⟨⟨[], none, 0, []⟩⟩
def i64B (n : Int) : Prop := -9223372036854775808 ≤ n ∧ n ≤ 9223372036854775807
def TermW (d : TermD) : Prop := i64B d.k
def CaseW (d : CaseD) : Prop := i64B d.lo ∧ i64B d.hi
structure FieldW (d : FieldD) : Prop where
  kind : i64B d.kind
  bits : i64B d.bits
  low : i64B d.low
  high : i64B d.high
  base : i64B d.base
  check : i64B d.check
  key : i64B d.key
  terms : ∀ t ∈ d.terms, TermW t
  cases : ∀ c ∈ d.cases, CaseW c

theorem spot_none {W : World} {a : Addr} {v : Value} (h : W.cell? a = some v) : a.spot = none := by
  obtain ⟨b, o, sp⟩ := a
  cases sp with
  | none => rfl
  | some k =>
    exfalso
    simp [World.cell?] at h
    split at h <;> simp_all
theorem read_lt {W : World} {a : Addr} {v : Value} (h : W.cell? a = some v) : a.block < W.heap.size :=
  Nat.lt_of_not_le fun hge => by simp [World.cell?, Array.getElem?_eq_none hge] at h

section
variable {H : Type} {enc : TypeId × Value → H} {W : World}
theorem fld {t : TypeId} {fs : Array Field} {fuel : Nat} {cs : List Value} {x : DataW H × List MemPlace} (ht : Tryz.prog.underlying t = some (.struct fs)) (h : DataW.trod enc Tryz.prog W 0 (fun _ => true) true fuel t cs = some x) (i : Nat) (f : Field) (hi : fs[i]? = some f) :
    ∃ n y, DataW.trod enc Tryz.prog W 0 (fun _ => true) true n f.type ((cs.drop f.offset).take (Tryz.prog.cellsOf f.type)) = some y := by
  obtain ⟨xs, n, _, _, _, hl, hf⟩ := DataW.trod_struct ht h
  have h1 := hf i f hi
  have hi' : i < xs.length := by rw [hl]; exact (Array.getElem?_eq_some_iff.1 hi).1
  rw [List.getElem?_eq_getElem hi'] at h1
  exact ⟨n, _, h1⟩
theorem fld_len {t : TypeId} {fs : Array Field} {fuel : Nat} {cs : List Value} {x : DataW H × List MemPlace} (ht : Tryz.prog.underlying t = some (.struct fs)) (h : DataW.trod enc Tryz.prog W 0 (fun _ => true) true fuel t cs = some x) : cs.length = Tryz.prog.cellsOf t := by
  obtain ⟨xs, n, _, _, hl, _, _⟩ := DataW.trod_struct ht h
  exact hl
/-- A slice whose elements open. -/
theorem open_sl {α : Type} [Inhabited α] (cf : α → List Value) (s : Nat) (Q : α → Prop) (t e : TypeId) (ht : Tryz.prog.underlying t = some (.slice e)) (hc : Tryz.prog.cellsOf e = s) (h0 : 0 < s) (hcf : ∀ d, (cf d).length = s)
    (he : ∀ n cs y, DataW.trod enc Tryz.prog W 0 (fun _ => true) true n e cs = some y → ∃ d : α, cs = cf d ∧ Q d)
    {n : Nat} {cs : List Value} {y : DataW H × List MemPlace} (h : DataW.trod enc Tryz.prog W 0 (fun _ => true) true n t cs = some y) :
    ∃ A c, ∃ D : List α, cs = [.slice A D.length c] ∧ SlAt cf s (fun k => W.heap.size ≤ k) W A c D ∧ ∀ d ∈ D, Q d := by
  rcases open_slice ht h with ⟨hcs, hx⟩ | ⟨a, len, cap, m, n, D, Pl, hcs, _, hl, hm, hmm, _, hx⟩
  · exact ⟨none, 0, [], hcs, ⟨Nat.le_refl _, by omega, fun i d hi => by simp at hi⟩, fun d hd => by cases hd⟩
  · simp only [if_true] at hmm
    rw [hc] at hx
    have hsp : 0 < m → a.spot = none := fun h => by
      obtain ⟨cs', hc1, hc2⟩ := hx 0 h
      obtain ⟨_, _, hcc⟩ := World.cells?_some hc1
      obtain ⟨d, rfl, _⟩ := he _ _ _ hc2
      have h00 := hcc 0 h0
      rw [List.getElem?_eq_getElem (by rw [hcf d]; exact h0)] at h00
      have := spot_none h00
      simpa [Addr.add] using this
    obtain ⟨f, hfl⟩ := choose_lt (α := α) (n := m) (p := fun i d => Q d ∧ ∃ g o, a = ⟨g, o, none⟩ ∧ g < W.heap.size ∧ ∀ j u, (cf d)[j]? = some u → W.cell? ⟨g, o + i * s + j, none⟩ = some u) (fun i hi => by
      obtain ⟨cs', hc1, hc2⟩ := hx i hi
      obtain ⟨_, _, hcc⟩ := World.cells?_some hc1
      obtain ⟨d, rfl, hq⟩ := he _ _ _ hc2
      have hl := hcf d
      have h00 := hcc 0 h0
      rw [List.getElem?_eq_getElem (by omega)] at h00
      obtain ⟨g, o, sp⟩ := a
      have hsp' : sp = none := hsp (by omega)
      subst hsp'
      rw [add_at, add_at] at h00
      refine ⟨d, hq, g, o, rfl, read_lt h00, fun j u hu => ?_⟩
      have hj : j < s := by
        have := (List.getElem?_eq_some_iff.1 hu).1
        omega
      have := hcc j hj
      rw [hu, add_at, add_at] at this
      exact this)
    have hmL : cap ≤ 9223372036854775807 := hm
    refine ⟨some a, cap, (List.range len).map f, by simpa using hcs, ⟨by simpa using hl, hmL, fun i d hi => ?_⟩, fun d hd => ?_⟩
    · have hil : i < len := by
        have := (List.getElem?_eq_some_iff.1 hi).1
        simpa using this
      simp [hil] at hi
      subst hi
      obtain ⟨_, g, o, e1, hg, hcell⟩ := hfl i (by omega)
      exact ⟨g, o, by rw [e1], by show ¬ W.heap.size ≤ g; omega, hcell⟩
    · simp only [List.mem_map, List.mem_range] at hd
      obtain ⟨i, hi, rfl⟩ := hd
      exact (hfl i (by omega)).1
theorem int_open {t : TypeId} {n : Nat} {cs : List Value} {y : DataW H × List MemPlace} (ht : Tryz.prog.underlying t = some (.int .i64)) (h : DataW.trod enc Tryz.prog W 0 (fun _ => true) true n t cs = some y) : ∃ k, cs = [.int .i64 k] ∧ i64B k := by
  obtain ⟨k, e0, _, wk⟩ := DataW.trod_int ht h
  refine ⟨k, e0, ?_⟩
  simp [Lit.wf] at wk
  have e1 : IntKind.i64.min = -9223372036854775808 := rfl
  have e2 : IntKind.i64.max = 9223372036854775807 := rfl
  unfold i64B
  omega
theorem str_open {t : TypeId} {n : Nat} {cs : List Value} {y : DataW H × List MemPlace} (ht : Tryz.prog.underlying t = some .string) (h : DataW.trod enc Tryz.prog W 0 (fun _ => true) true n t cs = some y) : ∃ l, cs = [.string (strL l)] := by
  obtain ⟨s, e0, _, _⟩ := DataW.trod_string ht h
  exact ⟨s.data.toList, by rw [strL_of]; exact e0⟩
end
theorem list2 {α : Type} {cs : List α} (h : cs.length = 2) : ∃ c0 c1, cs = [c0, c1] := by
  match cs, h with
  | [c0, c1], _ => exact ⟨c0, c1, rfl⟩
theorem list3 {α : Type} {cs : List α} (h : cs.length = 3) : ∃ c0 c1 c2, cs = [c0, c1, c2] := by
  match cs, h with
  | [c0, c1, c2], _ => exact ⟨c0, c1, c2, rfl⟩
theorem list15 {α : Type} {cs : List α} (h : cs.length = 15) : ∃ c0 c1 c2 c3 c4 c5 c6 c7 c8 c9 c10 c11 c12 c13 c14, cs = [c0, c1, c2, c3, c4, c5, c6, c7, c8, c9, c10, c11, c12, c13, c14] := by
  match cs, h with
  | [c0, c1, c2, c3, c4, c5, c6, c7, c8, c9, c10, c11, c12, c13, c14], _ => exact ⟨c0, c1, c2, c3, c4, c5, c6, c7, c8, c9, c10, c11, c12, c13, c14, rfl⟩

theorem Tryz.oi : Tryz.prog.underlying 3 = some (.int .i64) := by kernel_rfl
theorem Tryz.ok : Tryz.prog.underlying 49 = some (.int .i64) := by kernel_rfl
theorem Tryz.os : Tryz.prog.underlying 9 = some .string := by kernel_rfl
theorem Tryz.ob : Tryz.prog.underlying 4 = some .bool := by kernel_rfl
theorem Tryz.ci : Tryz.prog.cellsOf 3 = 1 := by kernel_rfl
theorem Tryz.ck : Tryz.prog.cellsOf 49 = 1 := by kernel_rfl
theorem Tryz.cs : Tryz.prog.cellsOf 9 = 1 := by kernel_rfl
theorem Tryz.cb : Tryz.prog.cellsOf 4 = 1 := by kernel_rfl
theorem Tryz.cTerm : Tryz.prog.cellsOf 67 = 2 := by kernel_rfl
theorem Tryz.cTerms : Tryz.prog.cellsOf 50 = 1 := by kernel_rfl
theorem Tryz.cCase : Tryz.prog.cellsOf 65 = 3 := by kernel_rfl
theorem Tryz.cCases : Tryz.prog.cellsOf 53 = 1 := by kernel_rfl
theorem Tryz.cSize : Tryz.prog.cellsOf 52 = 2 := by kernel_rfl
theorem Tryz.cField : Tryz.prog.cellsOf 55 = 15 := by kernel_rfl
theorem Tryz.cFields : Tryz.prog.cellsOf 34 = 1 := by kernel_rfl
theorem Tryz.cMsg : Tryz.prog.cellsOf 36 = 2 := by kernel_rfl
theorem Tryz.cMsgs : Tryz.prog.cellsOf 22 = 1 := by kernel_rfl
theorem Tryz.cDef : Tryz.prog.cellsOf 24 = 3 := by kernel_rfl

section
variable {H : Type} {enc : TypeId × Value → H} {W : World} {n : Nat} {cs : List Value} {y : DataW H × List MemPlace}
set_option maxRecDepth 100000 in
theorem term_open (h : DataW.trod enc Tryz.prog W 0 (fun _ => true) true n 67 cs = some y) : ∃ d : TermD, cs = d.cells ∧ TermW d := by
  have hl := fld_len Tryz.underlying67 h
  rw [Tryz.cTerm] at hl
  obtain ⟨c0, c1, rfl⟩ := list2 hl
  obtain ⟨_, _, h0⟩ := fld Tryz.underlying67 h 0 _ rfl
  obtain ⟨_, _, h1⟩ := fld Tryz.underlying67 h 1 _ rfl
  simp [Tryz.cs, Tryz.ci] at h0 h1
  obtain ⟨s, e0⟩ := str_open Tryz.os h0
  obtain ⟨k, e1, w1⟩ := int_open Tryz.oi h1
  simp at e0 e1
  subst e0 e1
  exact ⟨⟨s, k⟩, rfl, w1⟩
set_option maxRecDepth 100000 in
theorem case_open (h : DataW.trod enc Tryz.prog W 0 (fun _ => true) true n 65 cs = some y) : ∃ d : CaseD, cs = d.cells ∧ CaseW d := by
  have hl := fld_len Tryz.underlying65 h
  rw [Tryz.cCase] at hl
  obtain ⟨c0, c1, c2, rfl⟩ := list3 hl
  obtain ⟨_, _, h0⟩ := fld Tryz.underlying65 h 0 _ rfl
  obtain ⟨_, _, h1⟩ := fld Tryz.underlying65 h 1 _ rfl
  obtain ⟨_, _, h2⟩ := fld Tryz.underlying65 h 2 _ rfl
  simp [Tryz.cs, Tryz.ci] at h0 h1 h2
  obtain ⟨a, e0, w0⟩ := int_open Tryz.oi h0
  obtain ⟨b, e1, w1⟩ := int_open Tryz.oi h1
  obtain ⟨s, e2⟩ := str_open Tryz.os h2
  simp at e0 e1 e2
  subst e0 e1 e2
  exact ⟨⟨a, b, s⟩, rfl, w0, w1⟩
set_option maxRecDepth 100000 in
theorem size_open (h : DataW.trod enc Tryz.prog W 0 (fun _ => true) true n 52 cs = some y) :
    ∃ (b : Int) (A : Option Addr) (c : Nat) (D : List TermD), cs = [.int .i64 b, .slice A D.length c] ∧ i64B b ∧ SlAt TermD.cells 2 (fun k => W.heap.size ≤ k) W A c D ∧ ∀ d ∈ D, TermW d := by
  have hl := fld_len Tryz.underlying52 h
  rw [Tryz.cSize] at hl
  obtain ⟨c0, c1, rfl⟩ := list2 hl
  obtain ⟨_, _, h0⟩ := fld Tryz.underlying52 h 0 _ rfl
  obtain ⟨_, _, h1⟩ := fld Tryz.underlying52 h 1 _ rfl
  simp [Tryz.ci, Tryz.cTerms] at h0 h1
  obtain ⟨b, e0, w0⟩ := int_open Tryz.oi h0
  obtain ⟨A, c, D, e1, hs, hw⟩ := open_sl TermD.cells 2 TermW 50 67 Tryz.underlying50 Tryz.cTerm (by omega) (fun _ => rfl) (fun _ _ _ h => term_open h) h1
  simp at e0 e1
  subst e0 e1
  exact ⟨b, A, c, D, rfl, w0, hs, hw⟩
set_option maxRecDepth 100000 in
set_option maxHeartbeats 800000 in
theorem field_open (h : DataW.trod enc Tryz.prog W 0 (fun _ => true) true n 55 cs = some y) : ∃ d : FieldD, cs = d.cells ∧ FieldOk (fun k => W.heap.size ≤ k) W d ∧ FieldW d := by
  have hl := fld_len Tryz.underlying55 h
  rw [Tryz.cField] at hl
  obtain ⟨c0, c1, c2, c3, c4, c5, c6, c7, c8, c9, c10, c11, c12, c13, c14, rfl⟩ := list15 hl
  obtain ⟨_, _, h0⟩ := fld Tryz.underlying55 h 0 _ rfl
  obtain ⟨_, _, h1⟩ := fld Tryz.underlying55 h 1 _ rfl
  obtain ⟨_, _, h2⟩ := fld Tryz.underlying55 h 2 _ rfl
  obtain ⟨_, _, h3⟩ := fld Tryz.underlying55 h 3 _ rfl
  obtain ⟨_, _, h4⟩ := fld Tryz.underlying55 h 4 _ rfl
  obtain ⟨_, _, h5⟩ := fld Tryz.underlying55 h 5 _ rfl
  obtain ⟨_, _, h6⟩ := fld Tryz.underlying55 h 6 _ rfl
  obtain ⟨_, _, h7⟩ := fld Tryz.underlying55 h 7 _ rfl
  obtain ⟨_, _, h8⟩ := fld Tryz.underlying55 h 8 _ rfl
  obtain ⟨_, _, h9⟩ := fld Tryz.underlying55 h 9 _ rfl
  obtain ⟨_, _, h10⟩ := fld Tryz.underlying55 h 10 _ rfl
  obtain ⟨_, _, h11⟩ := fld Tryz.underlying55 h 11 _ rfl
  obtain ⟨_, _, h12⟩ := fld Tryz.underlying55 h 12 _ rfl
  obtain ⟨_, _, h13⟩ := fld Tryz.underlying55 h 13 _ rfl
  clear h hl
  simp [Tryz.cs] at h0 h8 h9 h10
  simp [Tryz.ci] at h2 h5 h6 h12 h13
  simp [Tryz.ck] at h1
  simp [Tryz.cb] at h3 h4
  simp [Tryz.cSize] at h7
  simp [Tryz.cCases] at h11
  obtain ⟨nm, e0⟩ := str_open Tryz.os h0
  obtain ⟨ki, e1, w1⟩ := int_open Tryz.ok h1
  obtain ⟨bi, e2, w2⟩ := int_open Tryz.oi h2
  obtain ⟨li, e3, _⟩ := DataW.trod_bool Tryz.ob h3
  obtain ⟨lo, e4, _⟩ := DataW.trod_bool Tryz.ob h4
  obtain ⟨l, e5, w5⟩ := int_open Tryz.oi h5
  obtain ⟨hh, e6, w6⟩ := int_open Tryz.oi h6
  obtain ⟨b, A, c, D, e7, w7, hs7, hw7⟩ := size_open h7
  obtain ⟨of_, e8⟩ := str_open Tryz.os h8
  obtain ⟨tg, e9⟩ := str_open Tryz.os h9
  obtain ⟨fr, e10⟩ := str_open Tryz.os h10
  obtain ⟨A', c', D', e11, hs11, hw11⟩ := open_sl CaseD.cells 3 CaseW 53 65 Tryz.underlying53 Tryz.cCase (by omega) (fun _ => rfl) (fun _ _ _ h => case_open h) h11
  obtain ⟨ch, e12, w12⟩ := int_open Tryz.oi h12
  obtain ⟨ke, e13, w13⟩ := int_open Tryz.oi h13
  clear h0 h1 h2 h3 h4 h5 h6 h7 h8 h9 h10 h11 h12 h13
  simp only [List.cons.injEq, and_true] at e0 e1 e2 e3 e4 e5 e6 e7 e8 e9 e10 e11 e12 e13
  obtain ⟨e7, e7'⟩ := e7
  subst e0 e1 e2 e3 e4 e5 e6 e7 e7' e8 e9 e10 e11 e12 e13
  exact ⟨⟨nm, ki, bi, li, lo, l, hh, b, A, c, D, of_, tg, fr, A', c', D', ch, ke⟩, rfl, ⟨hs7, hs11⟩, ⟨w1, w2, w5, w6, w7, w12, w13, hw7, hw11⟩⟩
/-- A message whose fields lie in memory. -/
def MsgG (W : World) (m : MsgD) : Prop := MsgOk (fun k => W.heap.size ≤ k) W m ∧ ∀ d ∈ m.fields, FieldW d
set_option maxRecDepth 100000 in
theorem msg_open (h : DataW.trod enc Tryz.prog W 0 (fun _ => true) true n 36 cs = some y) : ∃ d : MsgD, cs = d.cells ∧ MsgG W d := by
  have hl := fld_len Tryz.underlying36 h
  rw [Tryz.cMsg] at hl
  obtain ⟨c0, c1, rfl⟩ := list2 hl
  obtain ⟨_, _, h0⟩ := fld Tryz.underlying36 h 0 _ rfl
  obtain ⟨_, _, h1⟩ := fld Tryz.underlying36 h 1 _ rfl
  simp [Tryz.cs, Tryz.cFields] at h0 h1
  obtain ⟨s, e0⟩ := str_open Tryz.os h0
  obtain ⟨A, c, D, e1, hs, hw⟩ := open_sl FieldD.cells 15 (fun d => FieldOk (fun k => W.heap.size ≤ k) W d ∧ FieldW d) 34 55 Tryz.underlying34 Tryz.cField (by omega) (fun _ => rfl) (fun _ _ _ h => field_open h) h1
  simp at e0 e1
  subst e0 e1
  exact ⟨⟨s, A, c, D⟩, rfl, ⟨hs, fun d hd => (hw d hd).1⟩, fun d hd => (hw d hd).2⟩
/-- The messages of a definition lie in memory. -/
def DefG (W : World) (A : Option Addr) (c : Nat) (D : List MsgD) : Prop := MsgsAt (fun k => W.heap.size ≤ k) W A c D ∧ ∀ m ∈ D, ∀ d ∈ m.fields, FieldW d
set_option maxRecDepth 100000 in
theorem def_open (h : DataW.trod enc Tryz.prog W 0 (fun _ => true) true n 24 cs = some y) : ∃ (nm st : List UInt8) (A : Option Addr) (c : Nat) (D : List MsgD), cs = [.string (strL nm), .slice A D.length c, .string (strL st)] ∧ DefG W A c D := by
  have hl := fld_len Tryz.underlying24 h
  rw [Tryz.cDef] at hl
  obtain ⟨c0, c1, c2, rfl⟩ := list3 hl
  obtain ⟨_, _, h0⟩ := fld Tryz.underlying24 h 0 _ rfl
  obtain ⟨_, _, h1⟩ := fld Tryz.underlying24 h 1 _ rfl
  obtain ⟨_, _, h2⟩ := fld Tryz.underlying24 h 2 _ rfl
  simp [Tryz.cs, Tryz.cMsgs] at h0 h1 h2
  obtain ⟨s, e0⟩ := str_open Tryz.os h0
  obtain ⟨A, c, D, e1, hs, hw⟩ := open_sl MsgD.cells 2 (fun d => MsgG W d) 22 36 Tryz.underlying22 Tryz.cMsg (by omega) (fun _ => rfl) (fun _ _ _ h => msg_open h) h1
  obtain ⟨st, e2⟩ := str_open Tryz.os h2
  simp at e0 e1 e2
  subst e0 e1 e2
  exact ⟨s, st, A, c, D, rfl, ⟨hs, fun d hd => (hw d hd).1⟩, fun m hm => (hw m hm).2⟩
end
set_option maxRecDepth 100000 in
/-- A definition as an argument. -/
theorem arg_def {H : Type} {enc : TypeId × Value → H} {W : World} {base : Nat} {v : Value} {d : DataW H} {p : List MemPlace} (hval : Value.okWide Tryz.prog W .any base 24 v) (h : DataW.Trod enc Tryz.prog W 0 (fun _ => true) true 24 v d p) :
    ∃ (nm st : List UInt8) (A : Option Addr) (c : Nat) (D : List MsgD), v = .agg #[.string (strL nm), .slice A D.length c, .string (strL st)] ∧ DefG W A c D := by
  obtain ⟨cs, rfl, _⟩ := okWide_struct Tryz.underlying24 hval
  obtain ⟨n, hf⟩ := h
  obtain ⟨nm, st, A, c, D, e, hD⟩ := def_open hf
  refine ⟨nm, st, A, c, D, ?_, hD⟩
  have : cs.toList = [.string (strL nm), .slice A D.length c, .string (strL st)] := by simpa [Value.cells] using e
  rw [← this]
set_option maxRecDepth 100000 in
/-- A message as an argument. -/
theorem arg_msg {H : Type} {enc : TypeId × Value → H} {W : World} {base : Nat} {v : Value} {d : DataW H} {p : List MemPlace} (hval : Value.okWide Tryz.prog W .any base 36 v) (h : DataW.Trod enc Tryz.prog W 0 (fun _ => true) true 36 v d p) :
    ∃ m : MsgD, v = m.agg ∧ MsgG W m := by
  obtain ⟨cs, rfl, _⟩ := okWide_struct Tryz.underlying36 hval
  obtain ⟨n, hf⟩ := h
  obtain ⟨m, e, hm⟩ := msg_open hf
  refine ⟨m, ?_, hm⟩
  have : cs.toList = m.cells := by simpa [Value.cells] using e
  unfold MsgD.agg
  unfold MsgD.cells at this
  rw [← this]
set_option maxRecDepth 100000 in
/-- A field as an argument. -/
theorem arg_field {H : Type} {enc : TypeId × Value → H} {W : World} {base : Nat} {v : Value} {d : DataW H} {p : List MemPlace} (hval : Value.okWide Tryz.prog W .any base 55 v) (h : DataW.Trod enc Tryz.prog W 0 (fun _ => true) true 55 v d p) :
    ∃ f : FieldD, v = f.agg ∧ FieldOk (fun k => W.heap.size ≤ k) W f ∧ FieldW f := by
  obtain ⟨cs, rfl, _⟩ := okWide_struct Tryz.underlying55 hval
  obtain ⟨n, hf⟩ := h
  obtain ⟨f, e, hm⟩ := field_open hf
  refine ⟨f, ?_, hm⟩
  have : cs.toList = f.cells := by simpa [Value.cells] using e
  unfold FieldD.agg
  unfold FieldD.cells at this
  rw [← this]
end Go.Proofs.YtbpkppmbbpoohaaGreat
