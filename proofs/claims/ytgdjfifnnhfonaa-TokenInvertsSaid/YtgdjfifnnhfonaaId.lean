/- Plain facts for the walk of TokenInverts where the text has tokens. -/
import Derived.Test.YtgdjfifnnhfonaaIb
import Derived.Test.YtgdjfifnnhfonaaTs
namespace Go.Proofs.Ytgdjfifnnhfonaa
open Go.RowKit Go.Shelf

theorem few_of : ∀ (N : Nat) (l : List UInt8) (q q' : Nat × Nat) (ts : List TokD), l.length ≤ N → scanT l q = .ok ts q' → ts.length ≤ l.length := by
  intro N
  induction N with
  | zero =>
    intro l q q' ts hl h
    have : l = [] := List.length_eq_zero_iff.1 (by omega)
    subst this
    cases h
    simp
  | succ N ih =>
    intro l q q' ts hl h
    match l, hl, h with
    | [], _, h => cases h; simp
    | b :: l, hl, h =>
      simp only [List.length_cons] at hl
      cases hb : isBlank b.toNat with
      | true =>
        rw [scanT_blank b l q hb] at h
        have := ih l _ _ _ (by omega) h
        simp; omega
      | false =>
        by_cases h35 : b.toNat = 35
        · have hf : firstOf (b :: l) = 35 := h35
          have hc := com_n hf
          rw [scanT_com _ _ hf] at h
          have := ih _ _ _ _ (by rw [List.length_drop]; simp; omega) h
          rw [List.length_drop] at this
          omega
        · rw [scanT_tok b l q hb h35] at h
          cases ht : tokR (b :: l) with
          | no => exact absurd ht (tok_no _)
          | bad m => rw [ht] at h; cases h
          | ok k t v n =>
            rw [ht] at h
            simp only at h
            have hn := tok_n ht
            cases hr : scanT ((b :: l).drop n) (adv ((b :: l).take n) q) with
            | bad q2 c => rw [hr] at h; cases h
            | ok us q2 =>
              rw [hr] at h
              cases h
              have := ih _ _ _ _ (by rw [List.length_drop]; simp; omega) hr
              rw [List.length_drop] at this
              simp only [List.length_append, List.length_cons, List.length_nil] at hn ⊢
              rw [List.length_cons] at this
              omega

/-- A token of a scan as any token. -/
def TokD.toI (d : TokD) : TokI := ⟨d.k, d.t, d.v, d.ln, d.cn⟩
theorem TokD.toI_cells (d : TokD) : d.toI.cells = d.cells := rfl
theorem joinT_eq (L : List TokD) : joinT (L.map TokD.toI) = joinD L := by
  cases L with
  | nil => rfl
  | cons d L =>
    simp only [List.map_cons, joinT, joinD, wideT, List.flatMap_map]
    rfl
theorem joinR_good (L : List TokD) (h : ∀ d ∈ L, GoodT d) : joinR (L.map TokD.toI) = (joinD L, 0) := by
  unfold joinR
  rw [if_pos, joinT_eq]
  rw [List.all_eq_true]
  intro x hx
  obtain ⟨d, hd, rfl⟩ := List.mem_map.1 hx
  exact valid_good (h d hd)
theorem joinD_one (d : TokD) : joinD [d] = wholeOf d.k d.t := by simp [joinD, wideT]

/-- Tokens in a row are tokens in a slice. -/
theorem toksAt_row {w : World} {base n c : Nat} {A : Option Addr} {L : List TokD} (h : w.ownsRow base 36 5 (.slice A n c) n (tokCells L)) (hn : n = L.length) : ToksAt w (.slice A n c) (L.map TokD.toI) := by
  subst hn
  by_cases h0 : L = []
  · subst h0; exact .inl ⟨rfl, A, c, rfl⟩
  · have hp : 0 < L.length := by
      cases L with
      | nil => exact absurd rfl h0
      | cons d L => simp
    obtain ⟨g, cp, e, _, _, h1, h2, hx⟩ := row_cells h hp
    simp only [Value.slice.injEq, true_and] at e
    obtain ⟨rfl, rfl⟩ := e
    refine .inr ⟨g, 0, c, by rw [List.length_map], by rw [List.length_map]; exact h1, h2, fun i d hi j u hu => ?_⟩
    rw [List.getElem?_map] at hi
    cases hL : L[i]? with
    | none => rw [hL] at hi; cases hi
    | some e =>
      rw [hL] at hi
      simp only [Option.map_some, Option.some.injEq] at hi
      subst hi
      rw [Nat.zero_add]
      refine hx (i * 5 + j) u ?_
      have hj : j < 5 := by
        have := (List.getElem?_eq_some_iff.1 hu).1
        simpa [TokI.cells] using this
      rw [tokCells_get L i e hL j hj]
      exact hu
/-- One token of a row as a slice. -/
theorem toksAt_one {w : World} {g o c : Nat} (d : TokD) (h1 : 1 ≤ c) (h2 : c ≤ maxLen) (hx : ∀ j u, d.cells[j]? = some u → w.cell? ⟨g, o + j, none⟩ = some u) : ToksAt w (.slice (some ⟨g, o, none⟩) 1 c) ([d].map TokD.toI) := by
  refine .inr ⟨g, o, c, rfl, h1, h2, fun i e hi j u hu => ?_⟩
  match i, hi with
  | 0, hi =>
    simp only [List.map_cons, List.map_nil, List.getElem?_cons_zero, Option.some.injEq] at hi
    subst hi
    have := hx j u hu
    simpa using this
  | i + 1, hi => simp at hi

/-- Bytes in a slice. -/
def BAt (w : World) (v : Value) (B : List Nat) : Prop :=
  ∃ ao c, v = .slice ao B.length c ∧ B.length ≤ 9223372036854775807 ∧ B.length ≤ c ∧ c ≤ 9223372036854775807 ∧ (∀ y ∈ B, y < 256) ∧ ∀ (j y : Nat), B[j]? = some y → ∃ g o, ao = some ⟨g, o, none⟩ ∧ w.cell? ⟨g, o + j, none⟩ = some (.int .u8 ((y : Nat) : Int))
theorem BAt.below {w w' : World} {v : Value} {B : List Nat} (h : BAt w v B) (hb : Below w.heap.size w w') : BAt w' v B := by
  obtain ⟨ao, c, hv, h1, h2, h3, h4, h5⟩ := h
  refine ⟨ao, c, hv, h1, h2, h3, h4, fun j y hy => ?_⟩
  obtain ⟨g, o, he, hc⟩ := h5 j y hy
  exact ⟨g, o, he, (hb.cell (p := ⟨g, o + j, none⟩) (World.block_lt_of_cell? _ _ hc)).trans hc⟩

theorem eqTok_self (k v : Int) (t : List UInt8) : eqTok k v k v t t = true := by unfold eqTok; simp

theorem equal_same (k v a b a2 b2 : Int) (t : List UInt8) (w : World) :
    Calls Try.prog 16 #[.agg #[.int .i64 k, .string (strL t), .int .i64 v, .int .i64 a, .int .i64 b], .agg #[.int .i64 k, .string (strL t), .int .i64 v, .int .i64 a2, .int .i64 b2]] w fun e w' => e = .returned (.bool true) ∧ Below w.heap.size w w' := by
  have := equal_any k v a b k v a2 b2 t t w
  rw [eqTok_self] at this
  exact this

theorem wideT_snoc (ps : List (Nat × TokD)) (s : Nat) (d : TokD) : wideT (ps ++ [(s, d)]) = wideT ps ++ [32] ++ sepOf s ++ wholeOf d.k d.t := by simp [wideT]
theorem sepOf_length (s : Nat) : (sepOf s).length ≤ 8 := by
  unfold sepOf
  split <;> simp

/-- Equal keys: equal parts. -/
theorem key_get {us ts : List TokD} (h : us.map TokD.key = ts.map TokD.key) (k : Nat) (d : TokD) (hd : ts[k]? = some d) : ∃ u, us[k]? = some u ∧ u.k = d.k ∧ u.t = d.t ∧ u.v = d.v := by
  have h1 : (us.map TokD.key)[k]? = some d.key := by rw [h, List.getElem?_map, hd]; rfl
  rw [List.getElem?_map] at h1
  cases hu : us[k]? with
  | none => rw [hu] at h1; cases h1
  | some u =>
    rw [hu] at h1
    simp only [Option.map_some, Option.some.injEq, TokD.key, Prod.mk.injEq] at h1
    exact ⟨u, rfl, h1.1, h1.2.1, h1.2.2⟩
theorem key_length {us ts : List TokD} (h : us.map TokD.key = ts.map TokD.key) : us.length = ts.length := by
  have := congrArg List.length h
  simpa using this
end Go.Proofs.Ytgdjfifnnhfonaa
