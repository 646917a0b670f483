/- Rows of bytes of the statements' own: a chunk copied, its bytes written; a source and the document's source side by side. No conditions: plain facts on memory. -/
import Derived.Test.YtociidinfdbaeaaAt
import Derived.Laws.OwnMore
import Derived.Laws.AppendOwnNone
namespace Go.Proofs.Ytociidinfdbaeaa
open Go.RowKit Go.Shelf

/-- append([]byte{}, x...): a row of its own. -/
theorem wpList_append_fresh {w : World} {ops : Array Oper} {rest : List Oper} {o : Oper} {a : Act} {Q : Exit → Act → World → Prop} (hgd : o.guard = none) (s x : Operand)
    (ho : o.op = .call { callee := .builtin .append, args := #[s, x], argTypes := #[29, 29] }) {base g0 c0 : Nat} (hv : a.eval s = .slice (some ⟨g0, 0, none⟩) 0 c0) (hown : w.ownsRow base 5 1 (.slice (some ⟨g0, 0, none⟩) 0 c0) 0 []) (hbase : base ≤ w.heap.size)
    {A : Option Addr} {d : Nat} {N : List Nat} (hx : a.eval x = .slice A N.length d) (hs : SrcE w (.slice A N.length d) N) (hl : N.length ≤ 1000000)
    (hK : ∀ g cap w', w'.ownsRow base 5 1 (.slice (some ⟨g, 0, none⟩) N.length cap) N.length (u8s N) → Below base w w' → wpList Try.prog ops Q rest (a.put o.dst (.slice (some ⟨g, 0, none⟩) N.length cap)) w') : wpList Try.prog ops Q (o :: rest) a w := by
  obtain ⟨i0, hi, hz0, hz1, hz2⟩ := info_parts Try.info5
  cases A with
  | none =>
    have hN : N = [] ∧ d = 0 := by
      rcases hs with h | ⟨h, a', c', e⟩
      · rcases h with ⟨e, h⟩ | ⟨a', c', e, _⟩
        · simp only [Value.slice.injEq] at e; exact ⟨h, e.2.2⟩
        · simp at e
      · simp at e
    obtain ⟨rfl, rfl⟩ := hN
    refine wpList_append_own_none hgd s x 29 ho base 5 i0 1 Try.underlying29 hi _ 0 [] hv hown hx ?_
    exact hK g0 c0 w hown (Below.refl _ _)
  | some ad =>
    have hn : ∀ j u, (u8s N)[j]? = some u → w.cell? (ad.add j) = some u := by
      rcases hs with h | ⟨rfl, a', c', e⟩
      · rcases h with ⟨e, h⟩ | ⟨a', c', e, _, hc⟩
        · simp at e
        · simp only [Value.slice.injEq, Option.some.injEq] at e
          obtain ⟨rfl, _, _⟩ := e
          exact hc
      · intro j u hu; simp [u8s] at hu
    refine wpList_append_own_at w hgd s x 29 ho base 5 i0 (.int .u8 0) 1 1 Try.underlying29 hi hz0 hz1 hz2 rfl (by decide) _ 0 [] hv hown ad N.length d (u8s N) hx (by rw [u8s_length, Nat.mul_one]) hn (fun u hu => by obtain ⟨c, _, rfl⟩ := List.mem_map.1 hu; rfl) (by show 0 + N.length ≤ 9223372036854775807; omega) (by omega) hbase ?_
    intro v' w' h1 h2 h3 h4
    have hb : Below base w w' := (Below.refl _ _).grown h2 hbase (fun k hk => (hown.lt k hk).1)
    rcases Joins.ownsRow_forms h1 with ⟨rfl, _⟩ | ⟨g, cap, rfl⟩
    · exact absurd (h3.1 rfl).1 (by simp)
    · rw [Nat.zero_add] at h1 ⊢
      exact hK g cap w' (by simpa using h1) hb

/-- A byte of a row, written. -/
theorem row_write {w : World} {base g n cap k y : Nat} {D : List Nat} (h : w.ownsRow base 5 1 (.slice (some ⟨g, 0, none⟩) n cap) n (u8s D)) :
    (w.setCell ⟨g, k, none⟩ (.int .u8 (y : Nat))).ownsRow base 5 1 (.slice (some ⟨g, 0, none⟩) n cap) n (u8s (D.set k y)) := by
  obtain ⟨hl, h⟩ := h
  refine ⟨by rw [u8s_set, List.length_set]; exact hl, ?_⟩
  rcases h with ⟨e, _⟩ | ⟨g', cap', cur, e, hb, hg, h1, h2, h3, h4⟩
  · simp at e
  · simp only [Value.slice.injEq, Option.some.injEq, Addr.mk.injEq] at e
    obtain ⟨⟨rfl, _⟩, _, rfl⟩ := e
    refine .inr ⟨g, cap, cur.setIfInBounds k (.int .u8 (y : Nat)), rfl, hb, heap_setCell_same w g k cur 5 _ hg, h1, h2, by simpa using h3, ?_⟩
    rw [u8s_set, ← h4, Array.toList_setIfInBounds, List.take_set]

theorem row_cell {w : World} {base g n cap k : Nat} {D : List Nat} (h : w.ownsRow base 5 1 (.slice (some ⟨g, 0, none⟩) n cap) n (u8s D)) (hk : k < n) : ∃ y, D[k]? = some y ∧ w.cell? ⟨g, k, none⟩ = some (.int .u8 (y : Nat)) ∧ w.frozen? ⟨g, k, none⟩ = false := by
  have hl : D.length = n := by have := h.1; rw [u8s_length] at this; omega
  have hk' : k < D.length := by omega
  refine ⟨D[k], List.getElem?_eq_getElem hk', ?_, h.frozenAt k⟩
  rw [h.cellAt k (by omega)]
  exact u8s_get D k hk'

theorem QBox.set4 {w : World} {q : Nat} {x0 x1 x2 x3 : Value} (h : QBox w q x0 x1 x2 x3) (y0 y1 y2 y3 : Value) :
    QBox ((((w.setCell ⟨q, 0, none⟩ y0).setCell ⟨q, 1, none⟩ y1).setCell ⟨q, 2, none⟩ y2).setCell ⟨q, 3, none⟩ y3) q y0 y1 y2 y3 := by
  refine ⟨?_⟩
  have h1 := heap_setCell_same w q 0 _ 31 y0 h.blk
  have h2 := heap_setCell_same _ q 1 _ 31 y1 h1
  have h3 := heap_setCell_same _ q 2 _ 31 y2 h2
  have h4 := heap_setCell_same _ q 3 _ 31 y3 h3
  simpa using h4

/-- The blocks that a source and the document's source beside it lie in. -/
def Kept (p : Nat) (v : Value) (A : Option Addr) (n c q1 q2 : Nat) (k : Nat) : Prop := Mine p v k ∨ (Value.slice A n c).ownBlock = some k ∨ k = q1 ∨ k = q2

/-- A source, the document's source of the same state, and the variables of the statement. -/
structure Env (w : World) (p L : Nat) (v : Value) (s : St) (A : Option Addr) (c q1 q2 : Nat) : Prop where
  at_ : SAt w p v s.B L s.T s.C
  src : SrcAt w (.slice A s.F.length c) s.F
  le : s.F.length ≤ c
  b1 : QBox w q1 (.int .i64 L) (.slice A s.F.length c) (.int .i64 s.T) (.bool s.C)
  b2 : QBox w q2 (.int .i64 0) (.slice none 0 0) (.int .i64 0) (.bool false)
  ne : q1 ≠ q2
  n1 : ¬ Mine p v q1
  n2 : ¬ Mine p v q2
  nA : ∀ k, (Value.slice A s.F.length c).ownBlock = some k → ¬ Mine p v k ∧ k ≠ q1 ∧ k ≠ q2

section
variable {w w' : World} {p L : Nat} {v : Value} {s : St} {A : Option Addr} {c q1 q2 : Nat}
theorem Env.rest {S : Nat → Prop} (h : Env w p L v s A c q1 q2) (hr : Rest S w w') (hk : ∀ k, Kept p v A s.F.length c q1 q2 k → ¬ S k) : Env w' p L v s A c q1 q2 :=
  ⟨h.at_.rest hr (hk p (.inl (.inl rfl))) (fun k e => hk k (.inl (.inr e))), h.src.rest hr (fun k e => hk k (.inr (.inl e))), h.le,
   ⟨(hr.block q1 h.b1.lt (hk q1 (.inr (.inr (.inl rfl))))).trans h.b1.blk⟩, ⟨(hr.block q2 h.b2.lt (hk q2 (.inr (.inr (.inr rfl))))).trans h.b2.blk⟩, h.ne, h.n1, h.n2, h.nA⟩
theorem Env.below (h : Env w p L v s A c q1 q2) (hb : Below w.heap.size w w') : Env w' p L v s A c q1 q2 :=
  h.rest (S := fun _ => False) (Rest.below hb) (fun _ _ e => e)
theorem Env.kept_lt (h : Env w p L v s A c q1 q2) {k : Nat} (hk : Kept p v A s.F.length c q1 q2 k) : k < w.heap.size := by
  rcases hk with (rfl | e) | e | rfl | rfl
  · exact h.at_.lt
  · exact h.at_.buf.lt k e
  · exact h.src.lt k e
  · exact h.b1.lt
  · exact h.b2.lt
end

/-- A call on both: the source's step, the document's new bytes, and its new state in the variable. -/
theorem Env.step {w1 w3 wc : World} {p L : Nat} {v1 v2 : Value} {s1 s2 : St} {A1 A2 : Option Addr} {c1 c2 q1 q2 : Nat} (h : Env w1 p L v1 s1 A1 c1 q1 q2) (hst : SStep p v1 v2 w1 w3) (hs3 : SAt w3 p v2 s2.B L s2.T s2.C) (hbc : Below w3.heap.size w3 wc)
    (hsF : SrcAt wc (.slice A2 s2.F.length c2) s2.F) (hle2 : s2.F.length ≤ c2) (hown2 : ∀ j, (Value.slice A2 s2.F.length c2).ownBlock = some j → (Value.slice A1 s1.F.length c1).ownBlock = some j ∨ w3.heap.size ≤ j) :
    Env ((((wc.setCell ⟨q1, 0, none⟩ (.int .i64 L)).setCell ⟨q1, 1, none⟩ (.slice A2 s2.F.length c2)).setCell ⟨q1, 2, none⟩ (.int .i64 s2.T)).setCell ⟨q1, 3, none⟩ (.bool s2.C)) p L v2 s2 A2 c2 q1 q2 := by
  have hq1 : QBox wc q1 (.int .i64 L) (.slice A1 s1.F.length c1) (.int .i64 s1.T) (.bool s1.C) := ⟨(hbc.block q1 (Nat.lt_of_lt_of_le h.b1.lt hst.rest.size)).trans ((hst.rest.block q1 h.b1.lt h.n1).trans h.b1.blk)⟩
  have hq2 : QBox wc q2 (.int .i64 0) (.slice none 0 0) (.int .i64 0) (.bool false) := ⟨(hbc.block q2 (Nat.lt_of_lt_of_le h.b2.lt hst.rest.size)).trans ((hst.rest.block q2 h.b2.lt h.n2).trans h.b2.blk)⟩
  have hsz := hst.rest.size
  have l1 := h.b1.lt
  have l2 := h.b2.lt
  have mine : ∀ k, k < w1.heap.size → ¬ Mine p v1 k → ¬ Mine p v2 k := fun k hk hm h2 => by
    rcases h2 with e | e
    · exact hm (.inl e)
    · rcases hst.own k e with e' | e'
      · exact hm (.inr e')
      · omega
  have m1 := mine q1 l1 h.n1
  have m2 := mine q2 l2 h.n2
  have hr : Rest (fun j => j = q1) wc ((((wc.setCell ⟨q1, 0, none⟩ (.int .i64 L)).setCell ⟨q1, 1, none⟩ (.slice A2 s2.F.length c2)).setCell ⟨q1, 2, none⟩ (.int .i64 s2.T)).setCell ⟨q1, 3, none⟩ (.bool s2.C)) :=
    (((((Rest.refl (fun j => j = q1) wc).setCell (p := ⟨q1, 0, none⟩) (fun _ => rfl) _).setCell (p := ⟨q1, 1, none⟩) (fun _ => rfl) _).setCell (p := ⟨q1, 2, none⟩) (fun _ => rfl) _).setCell (p := ⟨q1, 3, none⟩) (fun _ => rfl) _)
  have nA : ∀ k, (Value.slice A2 s2.F.length c2).ownBlock = some k → ¬ Mine p v2 k ∧ k ≠ q1 ∧ k ≠ q2 := fun k hk => by
    rcases hown2 k hk with e | e
    · obtain ⟨a, b, c⟩ := h.nA k e
      exact ⟨mine k (h.src.lt k e) a, b, c⟩
    · refine ⟨fun hm => ?_, by omega, by omega⟩
      rcases hm with e' | e'
      · have := hs3.lt; omega
      · have := hs3.buf.lt k e'; omega
  refine ⟨(hs3.below hbc).rest hr (fun e => m1 (.inl e.symm)) (fun k hk e => m1 (.inr (by rw [← e]; exact hk))), hsF.rest hr (fun k hk e => (nA k hk).2.1 e), hle2, hq1.set4 _ _ _ _, ⟨(hr.block q2 hq2.lt (fun e => h.ne e.symm)).trans hq2.blk⟩, h.ne, m1, m2, nA⟩
end Go.Proofs.Ytociidinfdbaeaa
