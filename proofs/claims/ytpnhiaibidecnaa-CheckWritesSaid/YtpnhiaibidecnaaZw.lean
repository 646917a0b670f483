/- The memory of CheckWrites: pieces of bytes in memory, the sum, all bytes, the copy and its bytes. No conditions beyond those named. -/
import Derived.Test.YtpnhiaibidecnaaZi
import Derived.Test.YtpnhiaibidecnaaZt
namespace Go.Proofs.Ytpnhiaibidecnaa
open Go.RowKit Go.Shelf

/-- A piece of bytes. -/
structure PcD where
  A : Option Addr
  c : Nat
  B : List Nat
instance : Inhabited PcD := ⟨⟨none, 0, []⟩⟩
structure PcD.lies (d : PcD) (W : World) (g o : Nat) : Prop where
  cell : W.cell? ⟨g, o, none⟩ = some (.slice d.A d.B.length d.c)
  src : SrcE W (.slice d.A d.B.length d.c) d.B
  low : ∀ x ∈ d.B, x < 256
/-- Pieces in memory. -/
def PcsAt (W : World) (v : Value) (L : List PcD) : Prop :=
  (v = .slice none 0 0 ∧ L = []) ∨ ∃ g o c, v = .slice (some ⟨g, o, none⟩) L.length c ∧ ∀ (i : Nat) (d : PcD), L[i]? = some d → d.lies W g (o + i)
theorem PcD.lies.lt {d : PcD} {W : World} {g o : Nat} (h : d.lies W g o) : g < W.heap.size := block_lt_of_cell h.cell
theorem PcD.lies.below {d : PcD} {W W' : World} {g o n : Nat} (h : d.lies W g o) (hb : Below W.heap.size W W') : d.lies W' g o :=
  ⟨(hb.cell (p := ⟨g, o, none⟩) h.lt).trans h.cell, h.src.below hb, h.low⟩

def catL (L : List PcD) : List Nat := (L.map (·.B)).flatten
theorem catL_nil : catL [] = [] := rfl
theorem catL_snoc (L : List PcD) (i : Nat) (h : i < L.length) : catL (L.take (i + 1)) = catL (L.take i) ++ L[i].B := by
  rw [List.take_succ_eq_append_getElem h]
  unfold catL
  rw [List.map_append, List.flatten_append]
  simp only [List.map_cons, List.map_nil, List.flatten_cons, List.flatten_nil, List.append_nil]

/-- Bytes that are none, or lie in memory. -/
theorem SrcE.some {W : World} {A : Option Addr} {c : Nat} {B : List Nat} (h : SrcE W (.slice A B.length c) B) (hB : 0 < B.length) : SrcAt W (.slice A B.length c) B := by
  rcases h with h | ⟨rfl, _⟩
  · exact h
  · simp at hB

/-- The sum and all bytes. -/
structure WA (base : Nat) (w0 W : World) (b k : Nat) (va : Value) (D : List Nat) : Prop where
  bel : Below base w0 W
  sum : SumOf W b k D
  hb : base ≤ b
  buf : Buf W va D
  own : ∀ g, va.ownBlock = some g → base ≤ g ∧ g ≠ b
/-- The copy and its bytes. -/
structure WE (base : Nat) (W : World) (b k : Nat) (va ve : Value) (c : Nat) (D : List Nat) : Prop where
  sum : SumOf W c k D
  hc : base ≤ c
  cb : c ≠ b
  buf : Buf W ve D
  own : ∀ g, ve.ownBlock = some g → base ≤ g ∧ g ≠ b ∧ g ≠ c ∧ va.ownBlock ≠ some g
  ac : va.ownBlock ≠ some c
section
variable {base : Nat} {w0 W W' : World} {b k c : Nat} {va va' ve : Value} {D D' : List Nat}
theorem WA.later (h : WA base w0 W b k va D) (hb : Below W.heap.size W W') : WA base w0 W' b k va D :=
  ⟨h.bel.trans (hb.mono (by have := h.hb; have := h.sum.lt; omega)), h.sum.below hb h.sum.lt, h.hb, h.buf.rest (S := fun _ => False) (Rest.below hb) (fun _ _ e => e), h.own⟩
theorem WE.later (h : WE base W b k va ve c D) (hb : Below W.heap.size W W') : WE base W' b k va ve c D :=
  ⟨h.sum.below hb h.sum.lt, h.hc, h.cb, h.buf.rest (S := fun _ => False) (Rest.below hb) (fun _ _ e => e), h.own, h.ac⟩
theorem grown_rest {row : Option Nat} (hg : W.grownBy W' row) : Rest (fun i => row = some i) W W' :=
  ⟨hg.os, hg.tape, hg.output, hg.size, fun i hi hs => hg.block i hi (fun e => hs e.symm)⟩
/-- More bytes behind all. -/
theorem WA.app (h : WA base w0 W b k va D) (hbase : base ≤ w0.heap.size) (hbuf : Buf W' va' D') (hg : W.grownBy W' va.ownBlock) (ho : Own2 W va va') : Below base w0 W' ∧ SumOf W' b k D ∧ base ≤ b ∧ Buf W' va' D' ∧ ∀ g, va'.ownBlock = some g → base ≤ g ∧ g ≠ b := by
  have hr := grown_rest hg
  have hlt := h.sum.lt
  have hsz := h.bel.size
  refine ⟨h.bel.trans (hr.toBelow base (by omega) (fun i hi e => by have := (h.own i e).1; omega)), h.sum.rest hr (fun e => (h.own b e).2 rfl), h.hb, hbuf, fun g hgg => ?_⟩
  rcases ho g hgg with e | e
  · exact h.own g e
  · exact ⟨by omega, by omega⟩
theorem WE.app (h : WE base W b k va ve c D) (hg : W.grownBy W' va.ownBlock) (ho : Own2 W va va') : WE base W' b k va' ve c D := by
  have hr := grown_rest hg
  have hc := h.sum.lt
  refine ⟨h.sum.rest hr h.ac, h.hc, h.cb, h.buf.rest hr (fun g hgg e => (h.own g hgg).2.2.2 e), fun g hgg => ?_, fun e => ?_⟩
  · obtain ⟨h1, h2, h3, h4⟩ := h.own g hgg
    refine ⟨h1, h2, h3, fun e => ?_⟩
    rcases ho g e with e | e
    · exact h4 e
    · have := h.buf.lt g hgg; omega
  · rcases ho c e with e | e
    · exact h.ac e
    · omega
/-- Bytes written to the sum. -/
theorem WE.wrote (h : WE base W b k va ve c D) (hr : Rest (fun j => j = b) W W') : WE base W' b k va ve c D :=
  ⟨h.sum.rest hr h.cb, h.hc, h.cb, h.buf.rest hr (fun g hgg => (h.own g hgg).2.1), h.own, h.ac⟩
end
/-- The copy's state: none yet, or made ahead of piece X. -/
def CSt (base : Nat) (W : World) (b k : Nat) (va : Value) (X i : Nat) (L : List PcD) (x12 x13 : Value) : Prop :=
  (i ≤ X ∧ x12 = .slice none 0 0 ∧ x13 = .pointer none) ∨ (X < i ∧ ∃ c, x13 = .pointer (some ⟨c, 0, none⟩) ∧ WE base W b k va x12 c (catL (L.take X)))
section
variable {base : Nat} {W W' : World} {b k X i : Nat} {va va' x12 x13 : Value} {L : List PcD}
theorem CSt.map (h : CSt base W b k va X i L x12 x13) (f : ∀ c D, WE base W b k va x12 c D → WE base W' b k va' x12 c D) : CSt base W' b k va' X i L x12 x13 := by
  rcases h with h | ⟨h1, c, h2, h3⟩
  · exact .inl h
  · exact .inr ⟨h1, c, h2, f c _ h3⟩
theorem CSt.later (h : CSt base W b k va X i L x12 x13) (hb : Below W.heap.size W W') : CSt base W' b k va X i L x12 x13 := h.map fun _ _ h => h.later hb
theorem CSt.next (h : CSt base W b k va X i L x12 x13) (hne : i ≠ X) : CSt base W b k va X (i + 1) L x12 x13 := by
  rcases h with ⟨h1, h2⟩ | ⟨h1, h2⟩
  · exact .inl ⟨by omega, h2⟩
  · exact .inr ⟨by omega, h2⟩
end

/-- A new empty slice of bytes. -/
theorem buf_empty (w : World) : Buf (w.alloc (.cells #[] 5)) (.slice (some ⟨w.heap.size, 0, none⟩) 0 0) [] :=
  ⟨some ⟨w.heap.size, 0, none⟩, w.heap.size, 0, 0, rfl, ⟨Nat.le_refl _, fun h => by omega, fun h => by omega, rfl, fun j u hu => by simp [u8s] at hu, fun j hj => by simp at hj⟩, Nat.zero_le _, fun e => by simp at e, fun a ha => by
    simp only [Option.some.injEq] at ha
    subst ha
    simp⟩

/-- The copy, made now. -/
theorem copy_new {base : Nat} {w0 W W1 W3 : World} {b k c : Nat} {va ve : Value} {D : List Nat} (h : WA base w0 W b k va D) (hbase : base ≤ w0.heap.size) (hs : SumOf W1 c k D) (hc : W.heap.size ≤ c) (hb : Below W.heap.size W W1) (hbuf : Buf W3 ve D) (hg : (W1.alloc (.cells #[] 5)).grownBy W3 (some W1.heap.size)) (ho : Own2 (W1.alloc (.cells #[] 5)) (.slice (some ⟨W1.heap.size, 0, none⟩) 0 0) ve) :
    WE base W3 b k va ve c D ∧ Below W.heap.size W W3 := by
  have hr := grown_rest hg
  have h1 := h.sum.lt
  have h2 := hs.lt
  have h3 := hb.size
  have hsz := h.bel.size
  have hal : Below W1.heap.size W1 (W1.alloc (.cells #[] 5)) := (Below.refl _ W1).alloc (Nat.le_refl _) _
  have hb3 : Below W1.heap.size W1 W3 := hal.trans (hr.toBelow W1.heap.size (by simp) (fun i hi e => by simp only [Option.some.injEq] at e; omega))
  have hve : ∀ g, ve.ownBlock = some g → W1.heap.size ≤ g := fun g hgg => by
    rcases ho g hgg with e | e
    · simp [Value.ownBlock] at e; omega
    · simp at e; omega
  have hva : ∀ g, va.ownBlock = some g → g < W.heap.size := fun g hgg => h.buf.lt g hgg
  refine ⟨⟨hs.below hb3 h2, by omega, by omega, hbuf, fun g hgg => ?_, fun e => ?_⟩, hb.trans (hb3.mono h3)⟩
  · have := hve g hgg
    refine ⟨by omega, by omega, by omega, fun e => ?_⟩
    have := hva g e
    omega
  · have := hva c e
    omega
end Go.Proofs.Ytpnhiaibidecnaa
