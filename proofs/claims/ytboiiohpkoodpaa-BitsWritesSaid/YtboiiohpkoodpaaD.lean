/- A writer in memory: its block and the row of its bytes, and what stays as it was. No conditions: plain facts on memory. -/
import Derived.Test.YtboiiohpkoodpaaB
import Derived.Test.YtboiiohpkoodpaaM
import Derived.Deep.AppendLies
namespace Go.Proofs.Ytboiiohpkoodpaa
open Go.RowKit

/-- All but the blocks of S lies as it lay. -/
structure Rest (S : Nat → Prop) (w w' : World) : Prop where
  os : w'.os = w.os
  tape : w'.tape = w.tape
  output : w'.output = w.output
  size : w.heap.size ≤ w'.heap.size
  block : ∀ k, k < w.heap.size → ¬ S k → w'.heap[k]? = w.heap[k]?

theorem Rest.refl (S : Nat → Prop) (w : World) : Rest S w w := ⟨rfl, rfl, rfl, Nat.le_refl _, fun _ _ _ => rfl⟩
theorem Rest.trans {S T : Nat → Prop} {a b c : World} (h : Rest S a b) (k : Rest T b c) (hT : ∀ i, i < a.heap.size → T i → S i) : Rest S a c :=
  ⟨k.os.trans h.os, k.tape.trans h.tape, k.output.trans h.output, Nat.le_trans h.size k.size, fun i hi hs =>
    (k.block i (Nat.lt_of_lt_of_le hi h.size) (fun ht => hs (hT i hi ht))).trans (h.block i hi hs)⟩
theorem Rest.mono {S T : Nat → Prop} {a b : World} (h : Rest S a b) (hT : ∀ i, i < a.heap.size → S i → T i) : Rest T a b :=
  ⟨h.os, h.tape, h.output, h.size, fun i hi hs => h.block i hi (fun ht => hs (hT i hi ht))⟩
theorem Rest.below {S : Nat → Prop} {a b : World} (h : Below a.heap.size a b) : Rest S a b :=
  ⟨h.os, h.tape, h.output, h.size, fun i hi _ => h.block i hi⟩
theorem Rest.toBelow {S : Nat → Prop} {a b : World} (h : Rest S a b) (n : Nat) (hn : n ≤ a.heap.size) (hs : ∀ i, i < n → ¬ S i) : Below n a b :=
  ⟨h.os, h.tape, h.output, h.size, fun i hi => h.block i (by omega) (hs i hi)⟩
theorem Rest.setCell {S : Nat → Prop} {a w : World} (h : Rest S a w) {p : Addr} (hp : p.block < a.heap.size → S p.block) (u : Value) : Rest S a (w.setCell p u) :=
  h.trans (T := fun i => i = p.block) ⟨rfl, rfl, rfl, by simp [World.setCell], fun k _ hk => Below.heap_setCell _ _ _ _ hk⟩ (fun i hi e => by subst e; exact hp hi)
theorem Rest.alloc {S : Nat → Prop} {a w : World} (h : Rest S a w) (o : Obj) : Rest S a (w.alloc o) :=
  h.trans (T := S) ⟨rfl, rfl, rfl, by simp, fun k hk _ => Below.heap_alloc _ _ _ hk⟩ (fun _ _ e => e)
theorem Rest.drew {S : Nat → Prop} {a w : World} (h : Rest S a w) : Rest S a w.drew := ⟨h.os, h.tape, h.output, h.size, h.block⟩
theorem Rest.grown {S : Nat → Prop} {a w w' : World} {row : Option Nat} (h : Rest S a w) (hg : w.grownBy w' row) (hr : ∀ k, row = some k → k < a.heap.size → S k) : Rest S a w' :=
  h.trans (T := fun i => some i = row) ⟨hg.os, hg.tape, hg.output, hg.size, fun k hk hs => hg.block k hk hs⟩ (fun i hi e => hr i e.symm hi)
theorem Rest.cell {S : Nat → Prop} {a b : World} (h : Rest S a b) {p : Addr} (hp : p.block < a.heap.size) (hs : ¬ S p.block) : b.cell? p = a.cell? p := World.cell?_of_block (w := a) (h.block p.block hp hs)
theorem Rest.frozen {S : Nat → Prop} {a b : World} (h : Rest S a b) {p : Addr} (hp : p.block < a.heap.size) (hs : ¬ S p.block) : b.frozen? p = a.frozen? p := World.frozen?_of_block (w := a) (h.block p.block hp hs)
/-- What is owned, and not in S, stays owned. -/
theorem Rest.row {S : Nat → Prop} {a b : World} (h : Rest S a b) {base : Nat} {e : TypeId} {size : Nat} {v : Value} {n : Nat} {xs : List Value} (ho : a.ownsRow base e size v n xs) (hs : ∀ k, v.ownBlock = some k → ¬ S k) : b.ownsRow base e size v n xs := by
  refine ⟨ho.1, ?_⟩
  rcases ho.2 with hn | ⟨g, cap, cur, rfl, hb, hgg, rest⟩
  · exact .inl hn
  · exact .inr ⟨g, cap, cur, rfl, hb, (h.block g (Array.getElem?_eq_some_iff.1 hgg).1 (hs g rfl)).trans hgg, rest⟩

/-- The block of a writer or a reader: type t. -/
def Obj3 (t : TypeId) (w : World) (b : Nat) (v : Value) (n : Int) : Prop := w.heap[b]? = some (.cells #[.bool true, v, .int .i64 n] t (0, 0))

section
variable {t : TypeId} {w : World} {b : Nat} {v : Value} {n : Int}
theorem Obj3.lt (h : Obj3 t w b v n) : b < w.heap.size := (Array.getElem?_eq_some_iff.1 h).1
theorem Obj3.c0 (h : Obj3 t w b v n) : w.cell? ⟨b, 0, none⟩ = some (.bool true) := by simp [World.cell?, show w.heap[b]? = _ from h]
theorem Obj3.c1 (h : Obj3 t w b v n) : w.cell? ⟨b, 1, none⟩ = some v := by simp [World.cell?, show w.heap[b]? = _ from h]
theorem Obj3.c2 (h : Obj3 t w b v n) : w.cell? ⟨b, 2, none⟩ = some (.int .i64 n) := by simp [World.cell?, show w.heap[b]? = _ from h]
theorem Obj3.fr (h : Obj3 t w b v n) (o : Nat) : w.frozen? ⟨b, o, none⟩ = false := by simp [World.frozen?, show w.heap[b]? = _ from h]
theorem Obj3.set1 (h : Obj3 t w b v n) (u : Value) : Obj3 t (w.setCell ⟨b, 1, none⟩ u) b u n := heap_setCell_same w b 1 _ t u h
theorem Obj3.set2 (h : Obj3 t w b v n) (m : Int) : Obj3 t (w.setCell ⟨b, 2, none⟩ (.int .i64 m)) b v m := heap_setCell_same w b 2 _ t _ h
theorem Obj3.other (h : Obj3 t w b v n) (a : Addr) (u : Value) (ha : a.block ≠ b) : Obj3 t (w.setCell a u) b v n := (Below.heap_setCell w a u b (fun e => ha e.symm)).trans h
theorem Obj3.drew (h : Obj3 t w b v n) : Obj3 t w.drew b v n := h
theorem Obj3.alloc (h : Obj3 t w b v n) (o : Obj) : Obj3 t (w.alloc o) b v n := (Below.heap_alloc w o b h.lt).trans h
theorem Obj3.grown {w' : World} {row : Option Nat} (h : Obj3 t w b v n) (hg : w.grownBy w' row) (hne : row ≠ some b) : Obj3 t w' b v n := (hg.block b h.lt (fun e => hne e.symm)).trans h
theorem Obj3.rest {w' : World} {S : Nat → Prop} (h : Obj3 t w b v n) (hr : Rest S w w') (hs : ¬ S b) : Obj3 t w' b v n := (hr.block b h.lt hs).trans h
theorem Obj3.below {w' : World} {B : Nat} (h : Obj3 t w b v n) (hr : Below B w w') (hs : b < B) : Obj3 t w' b v n := (hr.block b hs).trans h
/-- The row of another type is another block. -/
theorem Obj3.ne (h : Obj3 t w b v n) {base : Nat} {e : TypeId} {size k : Nat} {u : Value} {xs : List Value} (hr : w.ownsRow base e size u k xs) (hte : t ≠ e) : u.ownBlock ≠ some b := by
  rcases hr.2 with ⟨rfl, _⟩ | ⟨g, cap, cur, rfl, _, hgb, _⟩
  · simp [Value.ownBlock]
  · intro e'
    obtain rfl : g = b := by simpa [Value.ownBlock] using e'
    have := (show w.heap[g]? = _ from h).symm.trans hgb
    simp at this
    exact hte this.2
end

/-- Bytes as values. -/
def u8s (B : List Nat) : List Value := B.map fun c => Value.int .u8 (c : Nat)
theorem u8s_length (B : List Nat) : (u8s B).length = B.length := by simp [u8s]
theorem u8s_append (A B : List Nat) : u8s (A ++ B) = u8s A ++ u8s B := by simp [u8s]
theorem u8s_set (A : List Nat) (i c : Nat) : u8s (A.set i c) = (u8s A).set i (.int .u8 (c : Nat)) := by simp [u8s, List.map_set]

/-- A writer: its block, and the row of its bytes. -/
structure WAt (w : World) (b : Nat) (v : Value) (l : List Bool) : Prop where
  obj : Obj3 63 w b v l.length
  row : w.ownsRow 0 5 1 v (packs l).length (u8s (packs l))

theorem WAt.ne {w : World} {b : Nat} {v : Value} {l : List Bool} (h : WAt w b v l) : v.ownBlock ≠ some b := h.obj.ne h.row (by decide)

/-- The blocks of a writer. -/
def Mine (b : Nat) (v : Value) (k : Nat) : Prop := k = b ∨ v.ownBlock = some k

/-- A step of a writer: its blocks alone turn, and its row is the old one or a new one. -/
structure WStep (b : Nat) (v v' : Value) (w w' : World) : Prop where
  rest : Rest (Mine b v) w w'
  row : ∀ k, v'.ownBlock = some k → v.ownBlock = some k ∨ w.heap.size ≤ k

theorem WStep.refl (b : Nat) (v : Value) (w : World) : WStep b v v w w := ⟨Rest.refl _ _, fun _ h => .inl h⟩
theorem WStep.trans {b : Nat} {u v x : Value} {w w1 w2 : World} (h : WStep b u v w w1) (k : WStep b v x w1 w2) : WStep b u x w w2 :=
  ⟨h.rest.trans k.rest (fun i hi hm => by
    rcases hm with e | e
    · exact .inl e
    · rcases h.row i e with e' | e'
      · exact .inr e'
      · omega), fun i hi => by
    rcases k.row i hi with e | e
    · exact h.row i e
    · exact .inr (Nat.le_trans h.rest.size e)⟩
theorem WStep.below {b : Nat} {v : Value} {w w' : World} (h : Below w.heap.size w w') : WStep b v v w w' := ⟨Rest.below h, fun _ h => .inl h⟩
theorem WAt.stays {w w' : World} {b : Nat} {v : Value} {l : List Bool} (h : WAt w b v l) {S : Nat → Prop} (hr : Rest S w w') (h0 : ¬ S b) (h1 : ∀ k, v.ownBlock = some k → ¬ S k) : WAt w' b v l :=
  ⟨h.obj.rest hr h0, hr.row h.row h1⟩
theorem WAt.below {w w' : World} {b : Nat} {v : Value} {l : List Bool} (h : WAt w b v l) (hr : Below w.heap.size w w') : WAt w' b v l :=
  h.stays (S := fun _ => False) (Rest.below hr) (fun e => e) (fun _ _ e => e)
end Go.Proofs.Ytboiiohpkoodpaa
