/- wrong and finish: why a text has no tokens, and the panic with it. Conditions: the scanner lies in memory. -/
import Derived.Test.YtgdjfifnnhfonaaB
namespace Go.Proofs.Ytgdjfifnnhfonaa
open Go.RowKit Go.Shelf

/-- The error at a place: 4 at the end of the text, else 6. -/
def codeOf (l : List UInt8) : Nat := if l.isEmpty then 4 else 6

set_option maxRecDepth 100000 in
set_option maxHeartbeats 1600000 in
theorem wrong_any (p ln cn : Nat) (l : List UInt8) (w : World) (h : KAt w p l ln cn) :
    Calls Try.prog 74 #[.pointer (some ⟨p, 0, none⟩)] w fun e w' => e = .returned (.agg #[.int .i64 ln, .int .i64 cn, .int .i64 (codeOf l)]) ∧ Below w.heap.size w w' := by
  have HE := fun w2 (h2 : KAt w2 p l ln cn) => Lib.hid (ended_any p ln cn l w2 h2)
  have hb := (Below.refl w.heap.size w).alloc (Nat.le_refl _) (.cells #[.int .i64 0, .int .i64 0, .int .i64 0] 95)
  have h2 := h.below hb h.lt
  have c0 := h2.c0
  have c1 := h2.c1
  have K2 := Lib.hid h2
  have HB := Lib.hid hb
  clear h h2 hb
  cases l with
  | nil =>
    go_enter Try.func74, Try.ntmps74
    go_wp2_with (go_at_call 61; refine ((HE _ K2.out).out).mono ?_; rintro e w' ⟨rfl, rfl⟩)
    refine bodyPost_ret (by simp [results, Try.results74, go_sem]; try rfl) rfl ?_
    exact ⟨rfl, (Below.refl w.heap.size w).alloc (Nat.le_refl _) _⟩
  | cons b l =>
    go_enter Try.func74, Try.ntmps74
    go_wp2_with (go_at_call 61; refine ((HE _ K2.out).out).mono ?_; rintro e w' ⟨rfl, rfl⟩)
    refine bodyPost_ret (by simp [results, Try.results74, go_sem]; try rfl) rfl ?_
    exact ⟨rfl, (Below.refl w.heap.size w).alloc (Nat.le_refl _) _⟩

/-- The panic with a place and an error. -/
def Fails (e : Ending) (q : Nat × Nat) (c : Nat) : Prop := e = .panicked [{ v := .iface 95 (.agg #[.int .i64 q.1, .int .i64 q.2, .int .i64 c]), recovered := false }]

set_option maxRecDepth 100000 in
set_option maxHeartbeats 1600000 in
theorem finish_any (p ln cn : Nat) (l : List UInt8) (w : World) (h : KAt w p l ln cn) :
    Calls Try.prog 69 #[.pointer (some ⟨p, 0, none⟩)] w fun e w' => (isWrd (firstOf l) = false ∧ e = .returned (.tuple #[]) ∧ w' = w) ∨ (isWrd (firstOf l) = true ∧ Fails e (ln, cn) (codeOf l) ∧ Below w.heap.size w w') := by
  have HF := Lib.hid (first_any p ln cn l w h)
  have HC := fun w2 => Lib.hid (wrd_any (firstOf l) w2)
  have HW := Lib.hid (wrong_any p ln cn l w h)
  generalize firstOf l = n at HF HC ⊢
  clear h
  cases hn : isWrd n with
  | false =>
    rw [hn] at HC
    clear hn
    go_enter Try.func69, Try.ntmps69
    go_wp2_with (first | (go_at_call 62; refine HF.out.mono ?_; rintro e w' ⟨rfl, rfl⟩) | (go_at_call 68; refine ((HC _).out).mono ?_; rintro e w' ⟨rfl, rfl⟩))
    go_end0
    exact .inl ⟨trivial, rfl, rfl⟩
  | true =>
    rw [hn] at HC
    clear hn
    go_enter Try.func69, Try.ntmps69
    go_wp2_with (first | (go_at_call 62; refine HF.out.mono ?_; rintro e w' ⟨rfl, rfl⟩) | (go_at_call 68; refine ((HC _).out).mono ?_; rintro e w' ⟨rfl, rfl⟩) | (go_at_call 74; refine HW.out.mono ?_; rintro e w' ⟨rfl, hb⟩))
    exact ⟨rfl, .inr ⟨trivial, rfl, hb⟩⟩

/-- A variable that holds a token. -/
structure TBox (W : World) (q : Nat) (x0 x1 x2 x3 x4 : Value) : Prop where
  blk : W.heap[q]? = some (.cells #[x0, x1, x2, x3, x4] 36 (0, 0))

section
variable {W W' : World} {q : Nat} {x0 x1 x2 x3 x4 : Value}
theorem TBox.lt (h : TBox W q x0 x1 x2 x3 x4) : q < W.heap.size := (Array.getElem?_eq_some_iff.1 h.blk).1
theorem TBox.c0 (h : TBox W q x0 x1 x2 x3 x4) : W.cell? ⟨q, 0, none⟩ = some x0 := by simp [World.cell?, h.blk]
theorem TBox.c1 (h : TBox W q x0 x1 x2 x3 x4) : W.cell? ⟨q, 1, none⟩ = some x1 := by simp [World.cell?, h.blk]
theorem TBox.c2 (h : TBox W q x0 x1 x2 x3 x4) : W.cell? ⟨q, 2, none⟩ = some x2 := by simp [World.cell?, h.blk]
theorem TBox.c3 (h : TBox W q x0 x1 x2 x3 x4) : W.cell? ⟨q, 3, none⟩ = some x3 := by simp [World.cell?, h.blk]
theorem TBox.c4 (h : TBox W q x0 x1 x2 x3 x4) : W.cell? ⟨q, 4, none⟩ = some x4 := by simp [World.cell?, h.blk]
theorem TBox.fr (h : TBox W q x0 x1 x2 x3 x4) (o : Nat) : W.frozen? ⟨q, o, none⟩ = false := by simp [World.frozen?, h.blk]
theorem TBox.below {m : Nat} (h : TBox W q x0 x1 x2 x3 x4) (hb : Below m W W') (hm : q < m) : TBox W' q x0 x1 x2 x3 x4 := ⟨(hb.block q hm).trans h.blk⟩
theorem TBox.rest {S : Nat → Prop} (h : TBox W q x0 x1 x2 x3 x4) (hr : Rest S W W') (hs : ¬ S q) : TBox W' q x0 x1 x2 x3 x4 := ⟨(hr.block q h.lt hs).trans h.blk⟩
theorem tbox_new (w : World) (x0 x1 x2 x3 x4 : Value) : TBox (w.alloc (.cells #[x0, x1, x2, x3, x4] 36)) w.heap.size x0 x1 x2 x3 x4 := ⟨heap_alloc_new w _⟩
theorem TBox.set0 (h : TBox W q x0 x1 x2 x3 x4) (u : Value) : TBox (W.setCell ⟨q, 0, none⟩ u) q u x1 x2 x3 x4 := ⟨heap_setCell_same W q 0 _ 36 _ h.blk⟩
theorem TBox.set1 (h : TBox W q x0 x1 x2 x3 x4) (u : Value) : TBox (W.setCell ⟨q, 1, none⟩ u) q x0 u x2 x3 x4 := ⟨heap_setCell_same W q 1 _ 36 _ h.blk⟩
theorem TBox.set2 (h : TBox W q x0 x1 x2 x3 x4) (u : Value) : TBox (W.setCell ⟨q, 2, none⟩ u) q x0 x1 u x3 x4 := ⟨heap_setCell_same W q 2 _ 36 _ h.blk⟩
theorem TBox.set3 (h : TBox W q x0 x1 x2 x3 x4) (u : Value) : TBox (W.setCell ⟨q, 3, none⟩ u) q x0 x1 x2 u x4 := ⟨heap_setCell_same W q 3 _ 36 _ h.blk⟩
theorem TBox.set4 (h : TBox W q x0 x1 x2 x3 x4) (u : Value) : TBox (W.setCell ⟨q, 4, none⟩ u) q x0 x1 x2 x3 u := ⟨heap_setCell_same W q 4 _ 36 _ h.blk⟩
end

/-- A token as a value. -/
def tokV (k : Nat) (t : List UInt8) (v ln cn : Nat) : Value := .agg #[.int .i64 k, .string (strL t), .int .i64 v, .int .i64 ln, .int .i64 cn]

/-- What a kind finds at the beginning of a text: nothing, a token of n bytes, or a wrong byte behind m. -/
inductive TRes where
  | no
  | ok (k : Nat) (t : List UInt8) (v n : Nat)
  | bad (m : Nat)

/-- What a kind's function answers. -/
def KindR (r : TRes) (w : World) (p ln cn : Nat) (l : List UInt8) (e : Ending) (w' : World) : Prop :=
  Rest (fun k => k = p) w w' ∧ match r with
  | .no => e = .returned (.tuple #[tokV 0 [] 0 0 0, .bool false]) ∧ KAt w' p l ln cn
  | .ok k t v n => e = .returned (.tuple #[tokV k t v 0 0, .bool true]) ∧ KAt w' p (l.drop n) (adv (l.take n) (ln, cn)).1 (adv (l.take n) (ln, cn)).2
  | .bad m => Fails e (adv (l.take m) (ln, cn)) (codeOf (l.drop m))

/-- A word at the beginning of a text. -/
def wordR (l : List UInt8) : TRes :=
  if isLet (firstOf l) then (if isWrd (firstOf (l.drop (min 32 (spanP isWrd l)))) then .bad (min 32 (spanP isWrd l)) else .ok 1 (l.take (min 32 (spanP isWrd l))) 0 (min 32 (spanP isWrd l))) else .no

set_option maxRecDepth 100000 in
set_option maxHeartbeats 1600000 in
theorem word1_any (rb : Nat) (r : Int) (y : Nat) (W : World) (h : Boxed W rb 3 (.int .i64 r)) (h1 : -100 ≤ r) (h2 : r ≤ 100) :
    Calls Try.prog 67 #[.int .u8 ((y : Nat) : Int), .pointer (some ⟨rb, 0, none⟩)] W fun e w' => e = .returned (.bool (decide (1 ≤ r) && isWrd y)) ∧ w' = W.setCell ⟨rb, 0, none⟩ (.int .i64 (r - 1)) := by
  have c := h.cell
  have f := h.frozen
  have HC := fun w2 => Lib.hid (wrd_any y w2)
  clear h
  by_cases hr : 1 ≤ r
  · have hd : decide (0 ≤ r - 1) = true := decide_eq_true (by omega)
    cases hy : isWrd y <;> rw [hy] at HC <;>
    · clear hy
      go_enter Try.func67, Try.ntmps67
      go_wp2_with (go_at_call 68; refine ((HC _).out).mono ?_; rintro e w' ⟨rfl, rfl⟩)
      go_ret
      exact ⟨by simp [hr], rfl⟩
  · have hd : decide (0 ≤ r - 1) = false := decide_eq_false (by omega)
    go_enter Try.func67, Try.ntmps67
    go_wp2_with (go_at_call 68; refine ((HC _).out).mono ?_; rintro e w' ⟨rfl, rfl⟩)
    go_ret
    exact ⟨by simp [show ¬ 1 ≤ r by omega], rfl⟩
end Go.Proofs.Ytgdjfifnnhfonaa
