/- Two sources of a call's own side by side; parts of an argument's bytes; texts of bytes. No conditions: plain facts on memory. -/
import Derived.Test.YtociidinfdbaeaaKn
namespace Go.Proofs.Ytociidinfdbaeaa
open Go.RowKit Go.Shelf

/-- Two sources that share no memory. -/
structure Two (w W : World) (p : Nat) (v : Value) (B : List Nat) (L T : Nat) (C : Bool) (p2 : Nat) (v2 : Value) (B2 : List Nat) (L2 T2 : Nat) (C2 : Bool) : Prop where
  one : Mid w W p v B L T C
  two : Mid w W p2 v2 B2 L2 T2 C2
  ne : p ≠ p2
  n1 : v.ownBlock ≠ some p2
  n2 : v2.ownBlock ≠ some p
  n3 : ∀ k, v.ownBlock = some k → v2.ownBlock ≠ some k

section
variable {w w1 w2 : World} {p p2 : Nat} {v v2 v' : Value} {B B2 B' : List Nat} {L L2 T T2 T' : Nat} {C C2 C' : Bool}
theorem Two.swap (h : Two w w1 p v B L T C p2 v2 B2 L2 T2 C2) : Two w w1 p2 v2 B2 L2 T2 C2 p v B L T C :=
  ⟨h.two, h.one, fun e => h.ne e.symm, h.n2, h.n1, fun k hk e => h.n3 k e hk⟩
theorem Two.later (h : Two w w1 p v B L T C p2 v2 B2 L2 T2 C2) (hb : Below w1.heap.size w1 w2) : Two w w2 p v B L T C p2 v2 B2 L2 T2 C2 :=
  ⟨h.one.later hb, h.two.later hb, h.ne, h.n1, h.n2, h.n3⟩
/-- A step of the first one. -/
theorem Two.step (h : Two w w1 p v B L T C p2 v2 B2 L2 T2 C2) (hs : SAt w2 p v' B' L T' C') (k : SStep p v v' w1 w2) : Two w w2 p v' B' L T' C' p2 v2 B2 L2 T2 C2 := by
  have hl := h.two.at_.lt
  have hbl := h.two.at_.buf.lt
  refine ⟨h.one.step hs k, ⟨h.two.at_.rest k.rest ?_ ?_, (h.one.step hs k).below, h.two.new, h.two.own⟩, h.ne, ?_, h.n2, ?_⟩
  · rintro (e | e)
    · exact h.ne e.symm
    · exact h.n1 e
  · rintro j hj (e | e)
    · exact h.n2 (by rw [hj, e])
    · exact h.n3 j e hj
  · intro e
    rcases k.own _ e with e' | e'
    · exact h.n1 e'
    · omega
  · intro j hj e
    rcases k.own _ hj with e' | e'
    · exact h.n3 j e' e
    · have := hbl j e
      omega
/-- A new one beside one. -/
theorem Two.mk' (h : Mid w w1 p v B L T C) (hs : SAt w2 p2 v2 B2 L2 T2 C2) (hb : Below w1.heap.size w1 w2) (h2 : w1.heap.size ≤ p2) (h3 : ∀ k, v2.ownBlock = some k → w1.heap.size ≤ k) : Two w w2 p v B L T C p2 v2 B2 L2 T2 C2 := by
  have hl := h.at_.lt
  have hbl := h.at_.buf.lt
  have hs1 := h.below.size
  refine ⟨h.later hb, ⟨hs, (h.later hb).below, by omega, fun k hk => by have := h3 k hk; omega⟩, by omega, fun e => ?_, fun e => ?_, fun k hk e => ?_⟩
  · have := hbl _ e; omega
  · have := h3 _ e; omega
  · have := hbl _ hk; have := h3 _ e; omega
end

/-- A part of a slice of bytes. -/
theorem sub_src {w : World} {A : Option Addr} {n c : Nat} {B : List Nat} (h : SrcAt w (.slice A n c) B) (hnc : n ≤ c) (lo m : Nat) (hlo : lo + m ≤ n) :
    SrcAt w (.slice (if c = lo then A else A.map (·.add lo)) m (c - lo)) ((B.drop lo).take m) := by
  rcases h with ⟨e, rfl⟩ | ⟨a, c', e, ha, hc⟩
  · simp only [Value.slice.injEq] at e
    obtain ⟨rfl, rfl, rfl⟩ := e
    obtain rfl : lo = 0 := by omega
    obtain rfl : m = 0 := by omega
    exact .inl ⟨by simp, by simp⟩
  · simp only [Value.slice.injEq] at e
    obtain ⟨rfl, rfl, rfl⟩ := e
    have hl : ((B.drop lo).take m).length = m := by rw [List.length_take, List.length_drop]; omega
    by_cases h0 : c = lo
    · rw [if_pos h0]
      obtain rfl : m = 0 := by omega
      exact .inr ⟨a, c - lo, by rw [hl], ha, fun j u hu => by simp [u8s] at hu⟩
    · rw [if_neg h0]
      refine .inr ⟨a.add lo, c - lo, by rw [hl]; rfl, by rw [add_block]; exact ha, fun j u hu => ?_⟩
      have hj := (List.getElem?_eq_some_iff.1 hu).1
      rw [u8s_length, hl] at hj
      rw [Addr.add_add]
      refine hc (lo + j) u ?_
      rw [← hu]
      simp [u8s, hj]

theorem strOf_append (A B : List Nat) : strOf A ++ strOf B = strOf (A ++ B) := by
  unfold strOf
  ext1
  simp [ByteArray.data_append]

theorem take_add' (A : List Nat) (k m : Nat) : A.take k ++ (A.drop k).take m = A.take (k + m) := by
  rw [List.take_add]

theorem src_byte {w : World} {A : Option Addr} {n c : Nat} {B : List Nat} (h : SrcAt w (.slice A n c) B) (j : Nat) (hj : j < B.length) : ∃ a, A = some a ∧ w.cell? (a.add j) = some (.int .u8 (B[j] : Nat)) := by
  rcases h with ⟨e, rfl⟩ | ⟨a, c', e, ha, hc⟩
  · simp at hj
  · simp only [Value.slice.injEq] at e
    obtain ⟨rfl, rfl, rfl⟩ := e
    exact ⟨a, rfl, hc j _ (u8s_get B j hj)⟩

/-- What Take and Until of the first one leave: new bytes apart from both, and both sources. -/
def TookT (w : World) (p : Nat) (v : Value) (B : List Nat) (L T : Nat) (C : Bool) (p2 : Nat) (v2 : Value) (B2 : List Nat) (L2 T2 : Nat) (C2 : Bool) (c : Int) (N : List Nat) (w1 : World) (e : Ending) (w' : World) : Prop :=
  ∃ A d v', e = .returned (.tuple #[.slice A N.length d, .int .i64 c]) ∧ SrcAt w' (.slice A N.length d) N ∧ (∀ k, (Value.slice A N.length d).ownBlock = some k → w1.heap.size ≤ k) ∧ Two w w' p v' B L T C p2 v2 B2 L2 T2 C2 ∧ Rest (Mine p v) w1 w'

theorem took_two {w w1 : World} {p p2 : Nat} {v v2 : Value} {B B2 : List Nat} {L L2 T T2 : Nat} {C C2 : Bool} (h : Two w w1 p v B L T C p2 v2 B2 L2 T2 C2) {c : Int} {N : List Nat} {k : Nat} {e : Ending} {w' : World} (ht : TookN p v B L T C c N k w1 e w') : TookT w p v (B.drop k) L (T + k) C p2 v2 B2 L2 T2 C2 c N w1 e w' := by
  obtain ⟨s, rfl, hr, hf, v', hs, hk⟩ := ht
  obtain ⟨A, d, rfl⟩ := row_shape hr
  exact ⟨A, d, v', rfl, .of_row hr, fun j hj => (hr.lt j hj).1, h.step hs hk.step, hk.rest⟩

theorem take_two {w w1 : World} {p p2 : Nat} {v v2 : Value} {B B2 : List Nat} {L L2 T T2 : Nat} {C C2 : Bool} (h : Two w w1 p v B L T C p2 v2 B2 L2 T2 C2) (hT : T ≤ 4611686018427387904) (n : Int) :
    Calls Try.prog 19 #[.pointer (some ⟨p, 0, none⟩), .int .i64 n] w1 (TookT w p v (B.drop (takeN (peekCode L B.length C n) n)) L (T + takeN (peekCode L B.length C n) n) C p2 v2 B2 L2 T2 C2 (peekCode L B.length C n) (takeB (peekCode L B.length C n) n B) w1) :=
  (take_any p v B L T n C w1 h.one.at_ hT).mono fun e w' ht => took_two h ht

theorem until_two {w w1 : World} {p p2 : Nat} {v v2 : Value} {B B2 : List Nat} {L L2 T T2 : Nat} {C C2 : Bool} (h : Two w w1 p v B L T C p2 v2 B2 L2 T2 C2) (hT : T ≤ 4611686018427387904) (x : Nat) (n : Int) :
    Calls Try.prog 20 #[.pointer (some ⟨p, 0, none⟩), .int .u8 x, .int .i64 n] w1 (TookT w p v (B.drop (untilK L B C x n)) L (T + untilK L B C x n) C p2 v2 B2 L2 T2 C2 (untilCode L B C x n) (untilB L B C x n) w1) :=
  (until_any p v B L T x n C w1 h.one.at_ hT).mono fun e w' ht => took_two h ht

/-- The bytes that the first one gave stay, whatever the second one does. -/
theorem took_keeps {w w1 w2 w3 : World} {p p2 : Nat} {v v2 : Value} {B B2 : List Nat} {L L2 T T2 : Nat} {C C2 : Bool} (h : Two w w1 p v B L T C p2 v2 B2 L2 T2 C2) {s : Value} {N : List Nat} (hs : SrcAt w2 s N) (hn : ∀ k, s.ownBlock = some k → w1.heap.size ≤ k) (hk : Rest (Mine p2 v2) w2 w3) : SrcAt w3 s N :=
  hs.rest hk (fun k hk hm => by
    have h1 := hn k hk
    rcases hm with e | e
    · have := h.two.at_.lt; omega
    · have := h.two.at_.buf.lt k e; omega)
end Go.Proofs.Ytociidinfdbaeaa
