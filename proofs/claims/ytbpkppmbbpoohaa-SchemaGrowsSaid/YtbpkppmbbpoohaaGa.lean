/- The data of definitions; an examination in memory; demand, passed, within, below. Conditions: the examination lies in memory. -/
import Derived.Test.YtbpkppmbbpoohaaMp
import Derived.Laws.Pointers
namespace Go.Proofs.Ytbpkppmbbpoohaa
open Go.RowKit Go.Shelf

/-- A case of a choice. -/
structure CaseD where
  lo : Int
  hi : Int
  of_ : List UInt8
def CaseD.cells (d : CaseD) : List Value := [.int .i64 d.lo, .int .i64 d.hi, .string (strL d.of_)]
def CaseD.agg (d : CaseD) : Value := .agg #[.int .i64 d.lo, .int .i64 d.hi, .string (strL d.of_)]
/-- A field, with the places of its terms and cases. -/
structure FieldD where
  name : List UInt8
  kind : Int
  bits : Int
  little : Bool
  loose : Bool
  low : Int
  high : Int
  base : Int
  ta : Option Addr
  tc : Nat
  terms : List TermD
  of_ : List UInt8
  tag : List UInt8
  from_ : List UInt8
  ca : Option Addr
  cc : Nat
  cases : List CaseD
  check : Int
  key : Int
def FieldD.cells (d : FieldD) : List Value := [.string (strL d.name), .int .i64 d.kind, .int .i64 d.bits, .bool d.little, .bool d.loose, .int .i64 d.low, .int .i64 d.high, .int .i64 d.base, .slice d.ta d.terms.length d.tc, .string (strL d.of_), .string (strL d.tag), .string (strL d.from_), .slice d.ca d.cases.length d.cc, .int .i64 d.check, .int .i64 d.key]
def FieldD.agg (d : FieldD) : Value := .agg #[.string (strL d.name), .int .i64 d.kind, .int .i64 d.bits, .bool d.little, .bool d.loose, .int .i64 d.low, .int .i64 d.high, .int .i64 d.base, .slice d.ta d.terms.length d.tc, .string (strL d.of_), .string (strL d.tag), .string (strL d.from_), .slice d.ca d.cases.length d.cc, .int .i64 d.check, .int .i64 d.key]
/-- A message, with the place of its fields. -/
structure MsgD where
  name : List UInt8
  fa : Option Addr
  fc : Nat
  fields : List FieldD
def MsgD.cells (d : MsgD) : List Value := [.string (strL d.name), .slice d.fa d.fields.length d.fc]
def MsgD.agg (d : MsgD) : Value := .agg #[.string (strL d.name), .slice d.fa d.fields.length d.fc]

/-- What a field's slices hold lies in memory. -/
def FieldOk (S : Nat → Prop) (W : World) (d : FieldD) : Prop := SlAt TermD.cells 2 S W d.ta d.tc d.terms ∧ SlAt CaseD.cells 3 S W d.ca d.cc d.cases
def FieldsAt (S : Nat → Prop) (W : World) (A : Option Addr) (c : Nat) (D : List FieldD) : Prop := SlAt FieldD.cells 15 S W A c D ∧ ∀ d ∈ D, FieldOk S W d
def MsgOk (S : Nat → Prop) (W : World) (m : MsgD) : Prop := FieldsAt S W m.fa m.fc m.fields
def MsgsAt (S : Nat → Prop) (W : World) (A : Option Addr) (c : Nat) (D : List MsgD) : Prop := SlAt MsgD.cells 2 S W A c D ∧ ∀ d ∈ D, MsgOk S W d
section
variable {S T : Nat → Prop} {W W' : World} {A : Option Addr} {c : Nat}
theorem FieldOk.rest {d : FieldD} (h : FieldOk S W d) (hr : Rest T W W') (hT : ∀ i, i < W.heap.size → T i → S i) : FieldOk S W' d := ⟨h.1.rest hr hT, h.2.rest hr hT⟩
theorem FieldsAt.rest {D : List FieldD} (h : FieldsAt S W A c D) (hr : Rest T W W') (hT : ∀ i, i < W.heap.size → T i → S i) : FieldsAt S W' A c D := ⟨h.1.rest hr hT, fun d hd => (h.2 d hd).rest hr hT⟩
theorem MsgsAt.rest {D : List MsgD} (h : MsgsAt S W A c D) (hr : Rest T W W') (hT : ∀ i, i < W.heap.size → T i → S i) : MsgsAt S W' A c D := ⟨h.1.rest hr hT, fun d hd => FieldsAt.rest (h.2 d hd) hr hT⟩
theorem FieldOk.below {d : FieldD} (h : FieldOk S W d) (hb : Below W.heap.size W W') : FieldOk S W' d := h.rest (T := fun _ => False) (Rest.below hb) (fun _ _ e => e.elim)
theorem FieldsAt.below {D : List FieldD} (h : FieldsAt S W A c D) (hb : Below W.heap.size W W') : FieldsAt S W' A c D := h.rest (T := fun _ => False) (Rest.below hb) (fun _ _ e => e.elim)
theorem MsgsAt.below {D : List MsgD} (h : MsgsAt S W A c D) (hb : Below W.heap.size W W') : MsgsAt S W' A c D := h.rest (T := fun _ => False) (Rest.below hb) (fun _ _ e => e.elim)
end

/-- A field in a block of its own. -/
structure FBox (W : World) (b : Nat) (d : FieldD) : Prop where
  blk : W.heap[b]? = some (.cells #[.string (strL d.name), .int .i64 d.kind, .int .i64 d.bits, .bool d.little, .bool d.loose, .int .i64 d.low, .int .i64 d.high, .int .i64 d.base, .slice d.ta d.terms.length d.tc, .string (strL d.of_), .string (strL d.tag), .string (strL d.from_), .slice d.ca d.cases.length d.cc, .int .i64 d.check, .int .i64 d.key] 28 (0, 0))
section
variable {W W' : World} {b : Nat} {d : FieldD}
theorem FBox.lt (h : FBox W b d) : b < W.heap.size := (Array.getElem?_eq_some_iff.1 h.blk).1
theorem FBox.new (W : World) (d : FieldD) : FBox (W.alloc (.cells #[.string (strL d.name), .int .i64 d.kind, .int .i64 d.bits, .bool d.little, .bool d.loose, .int .i64 d.low, .int .i64 d.high, .int .i64 d.base, .slice d.ta d.terms.length d.tc, .string (strL d.of_), .string (strL d.tag), .string (strL d.from_), .slice d.ca d.cases.length d.cc, .int .i64 d.check, .int .i64 d.key] 28)) W.heap.size d := ⟨heap_alloc_new W _⟩
theorem FBox.below {n : Nat} (h : FBox W b d) (hb : Below n W W') (hn : b < n) : FBox W' b d := ⟨(hb.block b hn).trans h.blk⟩
theorem FBox.rest {S : Nat → Prop} (h : FBox W b d) (hr : Rest S W W') (hs : ¬ S b) : FBox W' b d := ⟨(hr.block b h.lt hs).trans h.blk⟩
theorem FBox.fr (h : FBox W b d) (o : Nat) : W.frozen? ⟨b, o, none⟩ = false := by simp [World.frozen?, h.blk]
theorem FBox.c0 (h : FBox W b d) : W.cell? ⟨b, 0, none⟩ = some (.string (strL d.name)) := by simp [World.cell?, h.blk]
theorem FBox.c1 (h : FBox W b d) : W.cell? ⟨b, 1, none⟩ = some (.int .i64 d.kind) := by simp [World.cell?, h.blk]
theorem FBox.c2 (h : FBox W b d) : W.cell? ⟨b, 2, none⟩ = some (.int .i64 d.bits) := by simp [World.cell?, h.blk]
theorem FBox.c3 (h : FBox W b d) : W.cell? ⟨b, 3, none⟩ = some (.bool d.little) := by simp [World.cell?, h.blk]
theorem FBox.c4 (h : FBox W b d) : W.cell? ⟨b, 4, none⟩ = some (.bool d.loose) := by simp [World.cell?, h.blk]
theorem FBox.c5 (h : FBox W b d) : W.cell? ⟨b, 5, none⟩ = some (.int .i64 d.low) := by simp [World.cell?, h.blk]
theorem FBox.c6 (h : FBox W b d) : W.cell? ⟨b, 6, none⟩ = some (.int .i64 d.high) := by simp [World.cell?, h.blk]
theorem FBox.c7 (h : FBox W b d) : W.cell? ⟨b, 7, none⟩ = some (.int .i64 d.base) := by simp [World.cell?, h.blk]
theorem FBox.c8 (h : FBox W b d) : W.cell? ⟨b, 8, none⟩ = some (.slice d.ta d.terms.length d.tc) := by simp [World.cell?, h.blk]
theorem FBox.c9 (h : FBox W b d) : W.cell? ⟨b, 9, none⟩ = some (.string (strL d.of_)) := by simp [World.cell?, h.blk]
theorem FBox.c10 (h : FBox W b d) : W.cell? ⟨b, 10, none⟩ = some (.string (strL d.tag)) := by simp [World.cell?, h.blk]
theorem FBox.c11 (h : FBox W b d) : W.cell? ⟨b, 11, none⟩ = some (.string (strL d.from_)) := by simp [World.cell?, h.blk]
theorem FBox.c12 (h : FBox W b d) : W.cell? ⟨b, 12, none⟩ = some (.slice d.ca d.cases.length d.cc) := by simp [World.cell?, h.blk]
theorem FBox.c13 (h : FBox W b d) : W.cell? ⟨b, 13, none⟩ = some (.int .i64 d.check) := by simp [World.cell?, h.blk]
theorem FBox.c14 (h : FBox W b d) : W.cell? ⟨b, 14, none⟩ = some (.int .i64 d.key) := by simp [World.cell?, h.blk]
end

/-- An examination in memory: its place, the messages that it has passed, the fields that it has passed, the kinds. -/
structure ExAt (W : World) (x : Nat) (m f : Int) (kr : Nat) (A : Option Addr) (n c : Nat) (kk : Nat) : Prop where
  blk : W.heap[x]? = some (.cells #[.int .i64 m, .int .i64 f, .int .i64 0, .map (some kr), .slice A n c, .map (some kk)] 124 (0, 0))
section
variable {W W' : World} {x kr kk n c : Nat} {m f : Int} {A : Option Addr}
theorem ExAt.lt (h : ExAt W x m f kr A n c kk) : x < W.heap.size := (Array.getElem?_eq_some_iff.1 h.blk).1
theorem ExAt.below {k : Nat} (h : ExAt W x m f kr A n c kk) (hb : Below k W W') (hn : x < k) : ExAt W' x m f kr A n c kk := ⟨(hb.block x hn).trans h.blk⟩
theorem ExAt.rest {S : Nat → Prop} (h : ExAt W x m f kr A n c kk) (hr : Rest S W W') (hs : ¬ S x) : ExAt W' x m f kr A n c kk := ⟨(hr.block x h.lt hs).trans h.blk⟩
theorem ExAt.c0 (h : ExAt W x m f kr A n c kk) : W.cell? ⟨x, 0, none⟩ = some (.int .i64 m) := by simp [World.cell?, h.blk]
theorem ExAt.c1 (h : ExAt W x m f kr A n c kk) : W.cell? ⟨x, 1, none⟩ = some (.int .i64 f) := by simp [World.cell?, h.blk]
theorem ExAt.c2 (h : ExAt W x m f kr A n c kk) : W.cell? ⟨x, 2, none⟩ = some (.int .i64 0) := by simp [World.cell?, h.blk]
theorem ExAt.c3 (h : ExAt W x m f kr A n c kk) : W.cell? ⟨x, 3, none⟩ = some (.map (some kr)) := by simp [World.cell?, h.blk]
theorem ExAt.c4 (h : ExAt W x m f kr A n c kk) : W.cell? ⟨x, 4, none⟩ = some (.slice A n c) := by simp [World.cell?, h.blk]
theorem ExAt.c5 (h : ExAt W x m f kr A n c kk) : W.cell? ⟨x, 5, none⟩ = some (.map (some kk)) := by simp [World.cell?, h.blk]
theorem ExAt.fr (h : ExAt W x m f kr A n c kk) (o : Nat) : W.frozen? ⟨x, o, none⟩ = false := by simp [World.frozen?, h.blk]
end

/-- A flaw, as a panic. -/
def flawE (m f c : Int) : Ending := .panicked [{ v := .iface 79 (.agg #[.int .i64 m, .int .i64 f, .int .i64 c]), recovered := false }]
/-- Nothing, or a flaw. -/
def doE (r : Option Int) (m f : Int) : Ending := match r with | none => .returned (.tuple #[]) | some c => flawE m f c
/-- The first of two. -/
def orR (r s : Option Int) : Option Int := match r with | none => s | some c => some c
def ifR (b : Bool) (c : Int) : Option Int := if b then none else some c

set_option maxRecDepth 100000 in
set_option maxHeartbeats 800000 in
theorem demand_ok (v : Value) (c : Int) (w : World) : Calls Try.prog 93 #[v, .bool true, .int .i64 c] w fun e w' => e = .returned (.tuple #[]) ∧ w' = w := by
  go_enter Try.func93, Try.ntmps93
  go_wp2
  go_end0
  exact ⟨rfl, rfl⟩

set_option maxRecDepth 100000 in
set_option maxHeartbeats 800000 in
theorem demand_bad (x kr kk n cc : Nat) (m f : Int) (A : Option Addr) (c : Int) (w : World) (h : ExAt w x m f kr A n cc kk) : Calls Try.prog 93 #[.pointer (some ⟨x, 0, none⟩), .bool false, .int .i64 c] w fun e w' => e = flawE m f c ∧ Below w.heap.size w w' := by
  have c0 := h.c0
  have c1 := h.c1
  have c2 := h.c2
  have hal := below_alloc w (.cells #[.int .i64 m, .int .i64 f, .int .i64 0] 79)
  have hbx : (w.alloc (.cells #[.int .i64 m, .int .i64 f, .int .i64 0] 79)).heap[w.heap.size]? = some (.cells #[.int .i64 m, .int .i64 f, .int .i64 0] 79 (0, 0)) := heap_alloc_new w _
  obtain ⟨b, eb⟩ : ∃ b, w.heap.size = b := ⟨_, rfl⟩
  obtain ⟨w1, hw1⟩ : ∃ w1, w.alloc (.cells #[.int .i64 m, .int .i64 f, .int .i64 0] 79) = w1 := ⟨_, rfl⟩
  rw [hw1] at hal hbx
  rw [eb] at hbx
  have hset := heap_setCell_same w1 b 2 _ 79 (.int .i64 c) hbx
  have hb2 := hal.setCell (p := ⟨b, 2, none⟩) (by show w.heap.size ≤ b; omega) (.int .i64 c)
  have x2 : w1.frozen? ⟨b, 2, none⟩ = false := by simp [World.frozen?, hbx]
  have x3 : w1.cell? ⟨b, 2, none⟩ = some (.int .i64 0) := by simp [World.cell?, hbx]
  obtain ⟨w2, hw2⟩ : ∃ w2, w1.setCell ⟨b, 2, none⟩ (.int .i64 c) = w2 := ⟨_, rfl⟩
  rw [hw2] at hset hb2
  have y0 : w2.cell? ⟨b, 0, none⟩ = some (.int .i64 m) := by simp [World.cell?, hset]
  have y1 : w2.cell? ⟨b, 1, none⟩ = some (.int .i64 f) := by simp [World.cell?, hset]
  have y2 : w2.cell? ⟨b, 2, none⟩ = some (.int .i64 c) := by simp [World.cell?, hset]
  have W1 := Lib.hid hw1
  have W2 := Lib.hid hw2
  have EB := Lib.hid eb
  have HB2 := Lib.hid hb2
  clear h hal hbx hw1 hw2 eb hset hb2
  go_enter Try.func93, Try.ntmps93
  go_upto_region 2 with fail
  rw [W1.out, EB.out]
  go_upto_region 3 with fail
  rw [W2.out]
  go_wp2
  exact ⟨rfl, rfl, HB2.out⟩

set_option maxRecDepth 100000 in
set_option maxHeartbeats 800000 in
theorem withinS (n a b : Int) (w : World) : Calls Try.prog 41 #[.int .i64 n, .int .i64 a, .int .i64 b] w fun e w' => e = .returned (.bool (inB n a b)) ∧ w' = w := by
  go_enter Try.func41, Try.ntmps41
  go_wp2
  all_goals (go_ret; refine ⟨ret_bool ?_, rfl⟩; rw [Bool.eq_iff_iff]; simp [inB, *]; try omega)
end Go.Proofs.Ytbpkppmbbpoohaa
