/- append([]byte{}, x...) as a row of its own; a byte of a row, written and read. No conditions beyond the bounds that each says. -/
import Derived.Test.YtboiiohpkoodpaaRd
namespace Go.Proofs.Ytboiiohpkoodpaa
open Go.RowKit Go.Shelf

theorem u8s_get (B : List Nat) (j : Nat) (h : j < B.length) : (u8s B)[j]? = some (.int .u8 (B[j] : Nat)) := by simp [u8s, h]

/-- append([]byte{}, x...): a row of its own. -/
theorem wpList_append_fresh {w : World} {ops : Array Oper} {rest : List Oper} {o : Oper} {a : Act} {Q : Exit → Act → World → Prop} (hgd : o.guard = none) (s x : Operand)
    (ho : o.op = .call { callee := .builtin .append, args := #[s, x], argTypes := #[28, 28] }) {base g0 c0 : Nat} (hv : a.eval s = .slice (some ⟨g0, 0, none⟩) 0 c0) (hown : w.ownsRow base 5 1 (.slice (some ⟨g0, 0, none⟩) 0 c0) 0 []) (hbase : base ≤ w.heap.size)
    {A : Option Addr} {d : Nat} {N : List Nat} (hx : a.eval x = .slice A N.length d) (hs : SrcE w (.slice A N.length d) N) (hl : N.length ≤ 1000000)
    (hK : ∀ g cap w', w'.ownsRow base 5 1 (.slice (some ⟨g, 0, none⟩) N.length cap) N.length (u8s N) → Below base w w' → wpList Try.prog ops Q rest (a.put o.dst (.slice (some ⟨g, 0, none⟩) N.length cap)) w') : wpList Try.prog ops Q (o :: rest) a w := by
  obtain ⟨i0, hi, hz0, hz1, hz2⟩ := info_parts Try.info5
  cases A with
  | none =>
    have hN : N = [] ∧ d = 0 := by
      rcases hs with h | ⟨h, a', c', e⟩
      · rcases h with ⟨e, h⟩ | ⟨a', c', e, _⟩
        · simp only [Value.slice.injEq] at e; exact ⟨h, e.2.2⟩
        · simp at e
      · simp at e
    obtain ⟨rfl, rfl⟩ := hN
    refine wpList_append_own_none hgd s x 28 ho base 5 i0 1 Try.underlying28 hi _ 0 [] hv hown hx ?_
    exact hK g0 c0 w hown (Below.refl _ _)
  | some ad =>
    have hn : ∀ j u, (u8s N)[j]? = some u → w.cell? (ad.add j) = some u := by
      rcases hs with h | ⟨rfl, a', c', e⟩
      · rcases h with ⟨e, h⟩ | ⟨a', c', e, _, hc⟩
        · simp at e
        · simp only [Value.slice.injEq, Option.some.injEq] at e
          obtain ⟨rfl, _, _⟩ := e
          exact hc
      · intro j u hu; simp [u8s] at hu
    refine wpList_append_own_at w hgd s x 28 ho base 5 i0 (.int .u8 0) 1 1 Try.underlying28 hi hz0 hz1 hz2 rfl (by decide) _ 0 [] hv hown ad N.length d (u8s N) hx (by rw [u8s_length, Nat.mul_one]) hn (fun u hu => by obtain ⟨c, _, rfl⟩ := List.mem_map.1 hu; rfl) (by show 0 + N.length ≤ 9223372036854775807; omega) (by omega) hbase ?_
    intro v' w' h1 h2 h3 h4
    have hb : Below base w w' := (Below.refl _ _).grown h2 hbase (fun k hk => (hown.lt k hk).1)
    rcases Joins.ownsRow_forms h1 with ⟨rfl, _⟩ | ⟨g, cap, rfl⟩
    · exact absurd (h3.1 rfl).1 (by simp)
    · rw [Nat.zero_add] at h1 ⊢
      exact hK g cap w' (by simpa using h1) hb

/-- A byte of a row, written. -/
theorem row_write {w : World} {base g n cap k y : Nat} {D : List Nat} (h : w.ownsRow base 5 1 (.slice (some ⟨g, 0, none⟩) n cap) n (u8s D)) :
    (w.setCell ⟨g, k, none⟩ (.int .u8 (y : Nat))).ownsRow base 5 1 (.slice (some ⟨g, 0, none⟩) n cap) n (u8s (D.set k y)) := by
  obtain ⟨hl, h⟩ := h
  refine ⟨by rw [u8s_set, List.length_set]; exact hl, ?_⟩
  rcases h with ⟨e, _⟩ | ⟨g', cap', cur, e, hb, hg, h1, h2, h3, h4⟩
  · simp at e
  · simp only [Value.slice.injEq, Option.some.injEq, Addr.mk.injEq] at e
    obtain ⟨⟨rfl, _⟩, _, rfl⟩ := e
    refine .inr ⟨g, cap, cur.setIfInBounds k (.int .u8 (y : Nat)), rfl, hb, heap_setCell_same w g k cur 5 _ hg, h1, h2, by simpa using h3, ?_⟩
    rw [u8s_set, ← h4, Array.toList_setIfInBounds, List.take_set]

theorem row_cell {w : World} {base g n cap k : Nat} {D : List Nat} (h : w.ownsRow base 5 1 (.slice (some ⟨g, 0, none⟩) n cap) n (u8s D)) (hk : k < n) : ∃ y, D[k]? = some y ∧ w.cell? ⟨g, k, none⟩ = some (.int .u8 (y : Nat)) ∧ w.frozen? ⟨g, k, none⟩ = false := by
  have hl : D.length = n := by have := h.1; rw [u8s_length] at this; omega
  have hk' : k < D.length := by omega
  refine ⟨D[k], List.getElem?_eq_getElem hk', ?_, h.frozenAt k⟩
  rw [h.cellAt k (by omega)]
  exact u8s_get D k hk'
end Go.Proofs.Ytboiiohpkoodpaa
