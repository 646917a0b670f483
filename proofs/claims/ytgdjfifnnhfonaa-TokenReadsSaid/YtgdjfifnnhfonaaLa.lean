/- The memory of TokenReads: the result, the text, the reader, the document's tokens that are left. Plain facts on memory. -/
import Derived.Test.YtgdjfifnnhfonaaKd
import Derived.Deep.CutRange
import Derived.Deep.RegionHeld3
namespace Go.Proofs.Ytgdjfifnnhfonaa
open Go.RowKit Go.Shelf

def OwnS (sb rb rp wb M : Nat) : Nat → Prop := fun i => i = sb ∨ i = rb ∨ i = rp ∨ i = wb ∨ M ≤ i

/-- The memory of TokenReads. -/
structure RW (w W : World) (sb rb rp wb M : Nat) (l : List UInt8) (E : Nat × Nat) (Dr Dw : List RTk) : Prop where
  res : Boxed W rb 4 (.bool false)
  str : Boxed W sb 9 (.string (strL l))
  rd : Reads (OwnS sb rb rp wb M) rp E (Dr.map (RTk.toD l)) W
  ref : ∃ A c, Boxed W wb 29 (.slice A Dw.length c) ∧ SlAt RTk.cells 4 (OwnS sb rb rp wb M) W A c Dw
  below : Below w.heap.size w W
  size : M ≤ W.heap.size
  ats : ∀ x ∈ Dw, x.a ≤ l.length
  ord : w.heap.size ≤ sb ∧ sb < rb ∧ rb < rp ∧ rp < wb ∧ wb < M

section
variable {w W W' : World} {sb rb rp wb M : Nat} {l : List UInt8} {E : Nat × Nat} {Dr Dw Dr' : List RTk}
theorem RW.later (h : RW w W sb rb rp wb M l E Dr Dw) (hb : Below W.heap.size W W') : RW w W' sb rb rp wb M l E Dr Dw := by
  obtain ⟨A, c, h1, h2⟩ := h.ref
  exact ⟨boxed_below h.res hb h.res.lt, boxed_below h.str hb h.str.lt, h.rd.below hb, ⟨A, c, boxed_below h1 hb h1.lt, h2.below hb⟩, h.below.trans (hb.mono h.below.size), Nat.le_trans h.size hb.size, h.ats, h.ord⟩
/-- Something new has been written. -/
theorem RW.fresh (h : RW w W sb rb rp wb M l E Dr Dw) {S : Nat → Prop} (hr : Rest S W W') (hS : ∀ i, S i → M ≤ i) : RW w W' sb rb rp wb M l E Dr Dw := by
  obtain ⟨A, c, h1, h2⟩ := h.ref
  have ho := h.ord
  have n : ∀ i, i < M → ¬ S i := fun i hi hs => by have := hS i hs; omega
  exact ⟨boxed_rest h.res hr (n _ (by omega)), boxed_rest h.str hr (n _ (by omega)), h.rd.rest hr (n _ (by omega)) (fun i _ hi => .inr (.inr (.inr (.inr (hS i hi))))), ⟨A, c, boxed_rest h1 hr (n _ (by omega)), h2.rest hr (fun i _ hi => .inr (.inr (.inr (.inr (hS i hi)))))⟩, h.below.trans (hr.toBelow w.heap.size h.below.size (fun i hi hs => by have := hS i hs; omega)), Nat.le_trans h.size hr.size, h.ats, h.ord⟩
/-- The reader has passed a token, or none. -/
theorem RW.passed (h : RW w W sb rb rp wb M l E Dr Dw) (hr : Rest (fun i => i = rp) W W') (hd : Reads (OwnS sb rb rp wb M) rp E (Dr'.map (RTk.toD l)) W') : RW w W' sb rb rp wb M l E Dr' Dw := by
  obtain ⟨A, c, h1, h2⟩ := h.ref
  have ho := h.ord
  exact ⟨boxed_rest h.res hr (by omega), boxed_rest h.str hr (by omega), hd, ⟨A, c, boxed_rest h1 hr (by omega), h2.rest hr (fun i _ hi => .inr (.inr (.inl hi)))⟩, h.below.trans (hr.toBelow w.heap.size h.below.size (fun i hi e => by omega)), Nat.le_trans h.size hr.size, h.ats, h.ord⟩
/-- The document's tokens move on. -/
theorem RW.moved {d : RTk} {A' : Option Addr} {c' : Nat} (h : RW w W sb rb rp wb M l E Dr (d :: Dw)) (hs : SlAt RTk.cells 4 (OwnS sb rb rp wb M) W A' c' Dw) : RW w (W.setCell ⟨wb, 0, none⟩ (.slice A' Dw.length c')) sb rb rp wb M l E Dr Dw := by
  obtain ⟨A, c, h1, _⟩ := h.ref
  have ho := h.ord
  have hr := (Rest.refl (fun i => i = wb) W).setCell (S := fun i => i = wb) (p := ⟨wb, 0, none⟩) (fun _ => rfl) (.slice A' Dw.length c')
  exact ⟨boxed_rest h.res hr (by omega), boxed_rest h.str hr (by omega), h.rd.rest hr (by omega) (fun i _ hi => .inr (.inr (.inr (.inl hi)))), ⟨A', c', Boxed.set _ h1, hs.rest hr (fun i _ hi => .inr (.inr (.inr (.inl hi))))⟩, h.below.setCell (p := ⟨wb, 0, none⟩) (by show w.heap.size ≤ wb; omega) _, Nat.le_trans h.size hr.size, fun x hx => h.ats x (List.mem_cons_of_mem _ hx), h.ord⟩
/-- The result is written. -/
theorem RW.answer (h : RW w W sb rb rp wb M l E Dr Dw) (b : Bool) : Boxed (W.setCell ⟨rb, 0, none⟩ (.bool b)) rb 4 (.bool b) ∧ Below w.heap.size w (W.setCell ⟨rb, 0, none⟩ (.bool b)) :=
  ⟨Boxed.set _ h.res, h.below.setCell (p := ⟨rb, 0, none⟩) (by show w.heap.size ≤ rb; have := h.ord; omega) _⟩
end

/-- Calls with texts. -/
structure TAct where
  kd : Nat
  t : List UInt8
def TActsAt (w : World) (v : Value) (L : List TAct) : Prop :=
  ∃ ao c, v = .slice ao L.length c ∧ L.length ≤ c ∧ c ≤ 9223372036854775807 ∧ ∀ (i : Nat) (d : TAct), L[i]? = some d → d.kd ≤ 255 ∧ ∃ g o, ao = some ⟨g, o, none⟩ ∧ w.cell? ⟨g, o + i * 2, none⟩ = some (.int .u8 d.kd) ∧ w.cell? ⟨g, o + i * 2 + 1, none⟩ = some (.string (strL d.t))

/-- What a call wants. -/
def wantA (kind : Nat) (t : List UInt8) (d : TokD) : Bool := match kind with | 0 => true | 1 => takeB t d | 2 => decide (d.k = 1) | 3 => decide (d.k = 2) | _ => true
def wantD (kind : Nat) (t : List UInt8) (D : List TokD) : Bool := match D with | [] => true | d :: _ => wantA kind t d
theorem wantD_cons (kind : Nat) (t : List UInt8) (d : TokD) (D : List TokD) : wantD kind t (d :: D) = wantA kind t d := rfl

/-- The next token of the document's. -/
def nextV (D : List RTk) : RTk := match D with | [] => ⟨0, [], 0, 0⟩ | d :: _ => d
/-- The document's tokens behind a call. -/
def leftR (b : Bool) (D : List RTk) : List RTk := match D with | [] => [] | d :: D => if b then D else d :: D
theorem leftR_map (l : List UInt8) (b : Bool) (D : List RTk) : (leftR b D).map (RTk.toD l) = leftP b (D.map (RTk.toD l)) := by
  cases D with
  | nil => rfl
  | cons d D => cases b <;> rfl
theorem QBox.rest {S : Nat → Prop} {W W' : World} {q : Nat} {x0 x1 x2 x3 : Value} (h : QBox W q x0 x1 x2 x3) (hr : Rest S W W') (hs : ¬ S q) : QBox W' q x0 x1 x2 x3 := ⟨(hr.block q h.lt hs).trans h.blk⟩
theorem QBox.below {W W' : World} {q : Nat} {x0 x1 x2 x3 : Value} (h : QBox W q x0 x1 x2 x3) (hb : Below W.heap.size W W') : QBox W' q x0 x1 x2 x3 := ⟨(hb.block q h.lt).trans h.blk⟩
theorem qset4 {W : World} {q : Nat} {x0 x1 x2 x3 : Value} (h : QBox W q x0 x1 x2 x3) (u0 u1 u2 u3 : Value) : QBox ((((W.setCell ⟨q, 0, none⟩ u0).setCell ⟨q, 1, none⟩ u1).setCell ⟨q, 2, none⟩ u2).setCell ⟨q, 3, none⟩ u3) q u0 u1 u2 u3 ∧ Rest (fun i => i = q) W ((((W.setCell ⟨q, 0, none⟩ u0).setCell ⟨q, 1, none⟩ u1).setCell ⟨q, 2, none⟩ u2).setCell ⟨q, 3, none⟩ u3) := by
  have h3 : QBox ((((W.setCell ⟨q, 0, none⟩ u0).setCell ⟨q, 1, none⟩ u1).setCell ⟨q, 2, none⟩ u2).setCell ⟨q, 3, none⟩ u3) q u0 u1 u2 u3 := ⟨heap_setCell_same _ q 3 _ 38 _ (((h.set0 u0).set1 u1).set2 u2).blk⟩
  refine ⟨h3, ?_⟩
  exact ((((Rest.refl (fun i => i = q) W).setCell (S := fun i => i = q) (p := ⟨q, 0, none⟩) (fun _ => rfl) _).setCell (S := fun i => i = q) (p := ⟨q, 1, none⟩) (fun _ => rfl) _).setCell (S := fun i => i = q) (p := ⟨q, 2, none⟩) (fun _ => rfl) _).setCell (S := fun i => i = q) (p := ⟨q, 3, none⟩) (fun _ => rfl) _
/-- The variable that holds the next token. -/
def NB (W : World) (nb : Nat) (d : RTk) : Prop := QBox W nb (.int .i64 d.k) (.string (strL d.t)) (.int .i64 d.v) (.int .i64 d.a)
end Go.Proofs.Ytgdjfifnnhfonaa
