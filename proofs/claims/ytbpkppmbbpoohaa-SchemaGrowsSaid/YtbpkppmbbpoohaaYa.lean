/- Parts of the walk of SchemaGrows: a copy in a new variable, one message out of a row, a row with one message more. No conditions beyond those named. -/
import Derived.Test.YtbpkppmbbpoohaaVm
import Derived.Test.YtbpkppmbbpoohaaRp
namespace Go.Proofs.Ytbpkppmbbpoohaa
open Go.RowKit Go.Shelf

/-- A copy of a definition, made. -/
def CopR (na st : List UInt8) (D : List MsgD) (w : World) (v : Value) (w' : World) : Prop := ∃ A' D', v = .agg #[.string (strL na), .slice A' D.length D.length, .string (strL st)] ∧ CopD w.heap.size w' D A' D' ∧ Below w.heap.size w w'
def zeroD : Obj := .cells #[.string ⟨#[]⟩, .slice none 0 0, .string ⟨#[]⟩] 44 (0, 0)
def obD : Value → Obj
  | .agg cs => .cells cs 44 (0, 0)
  | _ => zeroD
theorem store3 {w : World} {g : Nat} {na st : ByteArray} {x : Value} (hz : w.heap[g]? = some zeroD) : ∃ w', w' = ((w.setCell ⟨g, 0, none⟩ (.string na)).setCell ⟨g, 1, none⟩ x).setCell ⟨g, 2, none⟩ (.string st) ∧ Rest (fun k => k = g) w w' ∧ w'.heap[g]? = some (obD (.agg #[.string na, x, .string st])) := by
  unfold zeroD at hz
  have h3 := heap_setCell_same _ g 2 _ 44 (.string st) (heap_setCell_same _ g 1 _ 44 x (heap_setCell_same w g 0 _ 44 (.string na) hz))
  simp only [List.setIfInBounds_toArray, List.set_cons_zero, List.set_cons_succ] at h3
  exact ⟨_, rfl, ((((Rest.refl (fun k => k = g) w).setCell (S := fun k => k = g) (p := ⟨g, 0, none⟩) (fun _ => rfl) _).setCell (S := fun k => k = g) (p := ⟨g, 1, none⟩) (fun _ => rfl) _).setCell (S := fun k => k = g) (p := ⟨g, 2, none⟩) (fun _ => rfl) _), h3⟩

/-- One of a row, as a row. -/
theorem slAt_pick {α : Type} {cs : α → List Value} {s c k g o : Nat} {S : Nat → Prop} {W : World} {D : List α} {d : α} (h : SlAt cs s S W (some ⟨g, o, none⟩) c D) (hd : D[k]? = some d) : SlAt cs s S W (some ⟨g, o + k * s, none⟩) (c - k) [d] := by
  have hk := (List.getElem?_eq_some_iff.1 hd).1
  refine ⟨by have := h.1; simp; omega, by have := h.2.1; omega, fun i e he => ?_⟩
  have h0 : i = 0 := by
    have := (List.getElem?_eq_some_iff.1 he).1
    simpa using this
  subst h0
  simp only [List.getElem?_cons_zero, Option.some.injEq] at he
  subst he
  obtain ⟨g', o', e', hs, hx⟩ := h.2.2 k d hd
  simp only [Option.some.injEq, Addr.mk.injEq, and_true] at e'
  obtain ⟨rfl, rfl⟩ := e'
  exact ⟨g, o + k * s, rfl, hs, fun j u hu => by
    have := hx j u hu
    rwa [show o + k * s + 0 * s + j = o + k * s + j by omega]⟩
theorem msgs_pick {c k g o : Nat} {S : Nat → Prop} {W : World} {D : List MsgD} {d : MsgD} (h : MsgsAt S W (some ⟨g, o, none⟩) c D) (hd : D[k]? = some d) : MsgsAt S W (some ⟨g, o + k * 2, none⟩) (c - k) [d] :=
  ⟨slAt_pick h.1 hd, fun x hx => by
    simp only [List.mem_singleton] at hx
    subst hx
    exact h.2 x (List.mem_of_getElem? hd)⟩
/-- All but the last. -/
theorem msgs_take {A : Option Addr} {c n : Nat} {S : Nat → Prop} {W : World} {D : List MsgD} (h : MsgsAt S W A c D) (hn : n ≤ D.length) : MsgsAt S W A c (D.take n) :=
  ⟨h.1.take n c (by have := h.1.1; omega) h.1.2.1, fun x hx => h.2 x (List.mem_of_mem_take hx)⟩
theorem slAt_or {α : Type} {cs : α → List Value} {s c : Nat} {S T : Nat → Prop} {W : World} {A : Option Addr} {D : List α} (h : SlAt cs s S W A c D) (k : SlAt cs s T W A c D) : SlAt cs s (fun i => S i ∨ T i) W A c D :=
  ⟨h.1, h.2.1, fun i d hd => by
    obtain ⟨g, o, e, hs, hx⟩ := h.2.2 i d hd
    obtain ⟨g', o', e', ht, _⟩ := k.2.2 i d hd
    have ee : g' = g := by
      rw [e] at e'
      simp only [Option.some.injEq, Addr.mk.injEq, and_true] at e'
      exact e'.1.symm
    rw [ee] at ht
    exact ⟨g, o, e, fun x => x.elim hs ht, hx⟩⟩
theorem fields_or {c : Nat} {S T : Nat → Prop} {W : World} {A : Option Addr} {D : List FieldD} (h : FieldsAt S W A c D) (k : FieldsAt T W A c D) : FieldsAt (fun i => S i ∨ T i) W A c D :=
  ⟨slAt_or h.1 k.1, fun d hd => ⟨slAt_or (h.2 d hd).1 (k.2 d hd).1, slAt_or (h.2 d hd).2 (k.2 d hd).2⟩⟩
theorem msgs_or {c : Nat} {S T : Nat → Prop} {W : World} {A : Option Addr} {D : List MsgD} (h : MsgsAt S W A c D) (k : MsgsAt T W A c D) : MsgsAt (fun i => S i ∨ T i) W A c D :=
  ⟨slAt_or h.1 k.1, fun d hd => fields_or (h.2 d hd) (k.2 d hd)⟩
theorem slAt_less {α : Type} {cs : α → List Value} {s c : Nat} {S T : Nat → Prop} {W : World} {A : Option Addr} {D : List α} (h : SlAt cs s S W A c D) (hT : ∀ k, T k → S k) : SlAt cs s T W A c D :=
  ⟨h.1, h.2.1, fun i d hd => by
    obtain ⟨g, o, e, hs, hx⟩ := h.2.2 i d hd
    exact ⟨g, o, e, fun x => hs (hT _ x), hx⟩⟩
theorem fields_less {c : Nat} {S T : Nat → Prop} {W : World} {A : Option Addr} {D : List FieldD} (h : FieldsAt S W A c D) (hT : ∀ k, T k → S k) : FieldsAt T W A c D :=
  ⟨slAt_less h.1 hT, fun d hd => ⟨slAt_less (h.2 d hd).1 hT, slAt_less (h.2 d hd).2 hT⟩⟩
theorem msgs_less {c : Nat} {S T : Nat → Prop} {W : World} {A : Option Addr} {D : List MsgD} (h : MsgsAt S W A c D) (hT : ∀ k, T k → S k) : MsgsAt T W A c D :=
  ⟨slAt_less h.1 hT, fun d hd => fields_less (h.2 d hd) hT⟩
/-- A copy lies between two sizes of the memory. -/
theorem cop_between {lo : Nat} {W : World} {D D' : List MsgD} {A : Option Addr} (h : CopD lo W D A D') : MsgsAt (fun k => k < lo ∨ W.heap.size ≤ k) W A D.length D' := msgs_or h.ok (MsgsAt.old h.ok (Nat.le_refl _))
/-- A row of messages with one more, made anew. -/
theorem msgs_more {lo n : Nat} {S : Nat → Prop} {W W' : World} {A : Option Addr} {c : Nat} {D : List MsgD} {x : MsgD} {v : Value} (h : MsgsAt S W A c D) (hx : MsgOk S W x) (hb : Below W.heap.size W W') (hn : D.length = n) (hlo : ∀ k, lo ≤ k → ¬ S k) (hrow : W'.ownsRow lo 50 2 v (n + 1) (D.flatMap MsgD.cells ++ x.cells)) :
    ∃ g cap, v = .slice (some ⟨g, 0, none⟩) (n + 1) cap ∧ MsgsAt S W' (some ⟨g, 0, none⟩) cap (D ++ [x]) := by
  rcases hrow.2 with ⟨_, h0⟩ | ⟨g, cap, cur, rfl, hg, _⟩
  · cases h0
  · refine ⟨g, cap, rfl, ?_, fun y hy => ?_⟩
    · have hl : (D ++ [x]).length = n + 1 := by simp [hn]
      have hf : (D ++ [x]).flatMap MsgD.cells = D.flatMap MsgD.cells ++ x.cells := by simp
      have := slAt_own (cf := MsgD.cells) (s := 2) (lo := lo) (D := D ++ [x]) (A := some ⟨g, 0, none⟩) (c := cap) (W := W') (t := 50) (fun _ => rfl) (by rw [hl, hf]; exact hrow)
      refine ⟨this.1, this.2.1, fun i d hi => ?_⟩
      obtain ⟨g', o', e, _, hh⟩ := this.2.2 i d hi
      have ee := e
      simp only [Option.some.injEq, Addr.mk.injEq, and_true] at ee
      exact ⟨g', o', e, by rw [← ee.1]; exact hlo g hg, hh⟩
    · rcases List.mem_append.1 hy with hy | hy
      · exact FieldsAt.below (h.2 y hy) hb
      · simp only [List.mem_singleton] at hy
        subst hy
        exact FieldsAt.below hx hb
/-- What an append makes. -/
theorem below_grownBy {w : World} {o : Obj} {w' : World} (h : (w.alloc o).grownBy w' none) : Below w.heap.size w w' := (below_alloc w o).grown h (below_alloc w o).size (fun _ e => by cases e)
theorem msg_one (m : MsgD) : ∀ u ∈ m.cells, u.oneCell' = true := fun u hu => by
  simp only [MsgD.cells, List.mem_cons, List.not_mem_nil, or_false] at hu
  rcases hu with rfl | rfl <;> rfl
theorem msgs_len (D : List MsgD) : (D.flatMap MsgD.cells).length = D.length * 2 := by
  induction D with
  | nil => rfl
  | cons d D ih => simp only [List.flatMap_cons, List.length_append, ih, List.length_cons, MsgD.cells, List.length_nil]; omega
theorem Try.infoMsg : (Try.prog.info? 50).map (fun i => (i.zero, i.size, i.bytes)) = some (some (.agg #[.string ⟨#[]⟩, .slice none 0 0]), 2, 40) := by kernel_rfl
theorem equalIn_func_nil {P : Program} (w : World) (d : Nat) (t : TypeId) (f : Fn) (fi ca : Array Value) (h : ∃ ps rs v, P.underlying t = some (.func ps rs v)) :
    (Op.equalIn (d + 1) t (.func f fi ca) .nilFunc).run P w = .ok false w := by
  obtain ⟨ps, rs, v, h⟩ := h
  simp [Op.equalIn, run_underlying h]
theorem eql_func_nil {P : Program} (w : World) (t : TypeId) (f : Fn) (fi ca : Array Value) (h : ∃ ps rs v, P.underlying t = some (.func ps rs v)) :
    (binOp .eql t (.func f fi ca) .nilFunc).run P w = .ok (.bool false) w := by
  simp only [binOp]
  simp [Op.equal, Op.maxDepth, equalIn_func_nil w 9999 t f fi ca h]
theorem eqlSeq (w : World) (f : Fn) (fi ca : Array Value) : (binOp .eql 59 (.func f fi ca) .nilFunc).run Try.prog w = .ok (.bool false) w :=
  eql_func_nil w 59 f fi ca ⟨_, _, _, Try.underlying59⟩

end Go.Proofs.Ytbpkppmbbpoohaa
