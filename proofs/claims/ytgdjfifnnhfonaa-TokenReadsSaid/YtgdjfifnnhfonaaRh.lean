/- The document's Scan: the tokens of a text with the indexes of their first bytes, or the index of the first wrong byte. Conditions: the text has at most 1048576 bytes. -/
import Derived.Test.YtgdjfifnnhfonaaIa
import Derived.Maps.AppendAt
import Derived.Lib.SmallJoins
import Derived.Deep.CutRange
namespace Go.Proofs.Ytgdjfifnnhfonaa
open Go.RowKit Go.Shelf

/-- A token of the document's. -/
structure RTk where
  k : Nat
  t : List UInt8
  v : Nat
  a : Nat
def RTk.cells (d : RTk) : List Value := [.int .i64 d.k, .string (strL d.t), .int .i64 d.v, .int .i64 d.a]
def rCells (L : List RTk) : List Value := L.flatMap RTk.cells
theorem rCells_length (L : List RTk) : (rCells L).length = L.length * 4 := by
  induction L with
  | nil => rfl
  | cons d L ih => simp [rCells, RTk.cells] at ih ⊢; omega
theorem rCells_snoc (L : List RTk) (d : RTk) : rCells (L ++ [d]) = rCells L ++ d.cells := by simp [rCells]
/-- The program's token that it stands for. -/
def RTk.toD (l : List UInt8) (d : RTk) : TokD := ⟨d.k, d.t, d.v, (adv (l.take d.a) (1, 1)).1, (adv (l.take d.a) (1, 1)).2⟩

/-- What the document's Scan answers. -/
def RefR (l : List UInt8) (w : World) (r : SRes) (e : Ending) (w' : World) : Prop :=
  Below w.heap.size w w' ∧ match r with
  | .ok ts _ => ∃ ws v, ts = ws.map (RTk.toD l) ∧ (∀ x ∈ ws, x.a ≤ l.length) ∧ e = .returned (.tuple #[v, .int .i64 (-1), .int .i64 0]) ∧ w'.ownsRow w.heap.size 38 4 v ws.length (rCells ws)
  | .bad q c => ∃ a : Nat, a ≤ l.length ∧ q = adv (l.take a) (1, 1) ∧ e = .returned (.tuple #[.slice none 0 0, .int .i64 ((a : Nat) : Int), .int .i64 ((c : Nat) : Int)])

/-- What holds between two tokens. -/
structure RS (w W : World) (l : List UInt8) (R : SRes) (out : Value) (ws : List RTk) (a : Nat) : Prop where
  row : W.ownsRow w.heap.size 38 4 out ws.length (rCells ws)
  below : Below w.heap.size w W
  le : a ≤ l.length
  few : ws.length ≤ a
  ats : ∀ x ∈ ws, x.a ≤ l.length
  eq : R = pre (ws.map (RTk.toD l)) (scanT (l.drop a) (adv (l.take a) (1, 1)))

section
variable {w W W' : World} {l : List UInt8} {R : SRes} {out : Value} {ws : List RTk} {a : Nat}
theorem RS.later (h : RS w W l R out ws a) (hb : Below W.heap.size W W') : RS w W' l R out ws a :=
  ⟨Rest.row (S := fun _ => False) (Rest.below hb) h.row (fun _ _ e => e), h.below.trans (hb.mono h.below.size), h.le, h.few, h.ats, h.eq⟩
theorem RS.blank (h : RS w W l R out ws a) (hlt : a < l.length) (hb : isBlank l[a].toNat = true) : RS w W l R out ws (a + 1) := by
  refine ⟨h.row, h.below, hlt, by have := h.few; omega, h.ats, ?_⟩
  have e : scanT (l.drop a) (adv (l.take a) (1, 1)) = scanT (l.drop (a + 1)) (adv (l.take (a + 1)) (1, 1)) := by
    rw [List.drop_eq_getElem_cons hlt, scanT_blank _ _ _ hb, List.take_succ_eq_append_getElem hlt, adv_append]
  rw [h.eq, e]
theorem RS.com (h : RS w W l R out ws a) (hlt : a < l.length) (h35 : l[a].toNat = 35) (n : Nat) (hn : n = spanP isCom (l.drop a)) : RS w W l R out ws (a + n) := by
  have hle := spanP_le isCom (l.drop a)
  rw [List.length_drop] at hle
  refine ⟨h.row, h.below, by omega, by have := h.few; omega, h.ats, ?_⟩
  rw [h.eq, scanT_com' l a n _ ((firstOf_at l a hlt).trans h35) hn]
theorem RS.bad (h : RS w W l R out ws a) (hlt : a < l.length) (hb : isBlank l[a].toNat = false) (h35 : l[a].toNat ≠ 35) (m : Nat) (ht : tokR (l.drop a) = .bad m) : R = .bad (adv (l.take (a + m)) (1, 1)) (codeOf (l.drop (a + m))) := by
  have e := List.drop_eq_getElem_cons hlt
  rw [h.eq]
  rw [e] at ht ⊢
  rw [scanT_tok _ _ _ hb h35, ht]
  simp only
  rw [← e, adv_take, List.drop_drop]
  rfl
theorem RS.tok (h : RS w W l R out ws a) (hlt : a < l.length) (hb : isBlank l[a].toNat = false) (h35 : l[a].toNat ≠ 35) (k : Nat) (t : List UInt8) (v n : Nat) (ht : tokR (l.drop a) = .ok k t v n) :
    R = pre ((ws ++ [(⟨k, t, v, a⟩ : RTk)]).map (RTk.toD l)) (scanT (l.drop (a + n)) (adv (l.take (a + n)) (1, 1))) := by
  have e := List.drop_eq_getElem_cons hlt
  rw [h.eq]
  rw [e] at ht
  rw [e, scanT_tok _ _ _ hb h35, ht]
  simp only
  rw [← e, adv_take, List.drop_drop, pre_pre, List.map_append]
  rfl
end

theorem Try.info38 : (Try.prog.info? 38).map (fun i => (i.zero, i.size, i.bytes)) = some (some (.agg #[.int .i64 0, .string ⟨#[]⟩, .int .i64 0, .int .i64 0]), 4, 40) := by kernel_rfl

/-- A variable that holds a token of the document's. -/
structure QBox (W : World) (q : Nat) (x0 x1 x2 x3 : Value) : Prop where
  blk : W.heap[q]? = some (.cells #[x0, x1, x2, x3] 38 (0, 0))
section
variable {W W' : World} {q : Nat} {x0 x1 x2 x3 : Value}
theorem QBox.lt (h : QBox W q x0 x1 x2 x3) : q < W.heap.size := (Array.getElem?_eq_some_iff.1 h.blk).1
theorem QBox.c0 (h : QBox W q x0 x1 x2 x3) : W.cell? ⟨q, 0, none⟩ = some x0 := by simp [World.cell?, h.blk]
theorem QBox.c1 (h : QBox W q x0 x1 x2 x3) : W.cell? ⟨q, 1, none⟩ = some x1 := by simp [World.cell?, h.blk]
theorem QBox.c2 (h : QBox W q x0 x1 x2 x3) : W.cell? ⟨q, 2, none⟩ = some x2 := by simp [World.cell?, h.blk]
theorem QBox.c3 (h : QBox W q x0 x1 x2 x3) : W.cell? ⟨q, 3, none⟩ = some x3 := by simp [World.cell?, h.blk]
theorem QBox.fr (h : QBox W q x0 x1 x2 x3) (o : Nat) : W.frozen? ⟨q, o, none⟩ = false := by simp [World.frozen?, h.blk]
theorem QBox.set0 (h : QBox W q x0 x1 x2 x3) (u : Value) : QBox (W.setCell ⟨q, 0, none⟩ u) q u x1 x2 x3 := ⟨heap_setCell_same W q 0 _ 38 _ h.blk⟩
theorem QBox.set1 (h : QBox W q x0 x1 x2 x3) (u : Value) : QBox (W.setCell ⟨q, 1, none⟩ u) q x0 u x2 x3 := ⟨heap_setCell_same W q 1 _ 38 _ h.blk⟩
theorem QBox.set2 (h : QBox W q x0 x1 x2 x3) (u : Value) : QBox (W.setCell ⟨q, 2, none⟩ u) q x0 x1 u x3 := ⟨heap_setCell_same W q 2 _ 38 _ h.blk⟩
theorem qbox_new (w : World) (x0 x1 x2 x3 : Value) : QBox (w.alloc (.cells #[x0, x1, x2, x3] 38)) w.heap.size x0 x1 x2 x3 := ⟨heap_alloc_new w _⟩
theorem RS.setNew {w W : World} {l : List UInt8} {R : SRes} {out : Value} {ws : List RTk} {a q : Nat} (h : RS w W l R out ws a) (hq : w.heap.size ≤ q) (hn : out.ownBlock ≠ some q) (o : Nat) (u : Value) : RS w (W.setCell ⟨q, o, none⟩ u) l R out ws a := by
  have hr := (Rest.refl (fun i => i = q) W).setCell (S := fun i => i = q) (p := ⟨q, o, none⟩) (fun _ => rfl) u
  exact ⟨hr.row h.row (fun k hk e => hn (by rw [hk, e])), h.below.setCell (p := ⟨q, o, none⟩) hq u, h.le, h.few, h.ats, h.eq⟩
end

/-- What the kinds leave: the kind, the value, the index behind the token, the index of a wrong byte. -/
def KindL (r : TRes) (a : Nat) (k v : Nat) (x9 x10 : Value) : Prop := match r with
  | .no => False
  | .ok k' _ v' n => k = k' ∧ v = v' ∧ x9 = .int .i64 ((a + n : Nat) : Int) ∧ x10 = .int .i64 (-1)
  | .bad m => (∃ z : Nat, x9 = .int .i64 ((z : Nat) : Int)) ∧ x10 = .int .i64 ((a + m : Nat) : Int)
end Go.Proofs.Ytgdjfifnnhfonaa
