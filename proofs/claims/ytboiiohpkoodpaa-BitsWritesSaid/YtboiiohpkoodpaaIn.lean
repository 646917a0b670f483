/- What a sequence of calls leaves, as lists; rows in memory apart from each other. No conditions. -/
import Derived.Test.YtboiiohpkoodpaaRm
import Derived.Sort.CutIn
namespace Go.Proofs.Ytboiiohpkoodpaa
open Go.RowKit Go.Shelf

/-- What a sequence of calls leaves: the bits, and the calls that returned no error. -/
def runW : List ActD → List Bool × List ActD
  | L => L.foldl (fun s d => if wCode s.1 d = 0 then (s.1 ++ wBits s.1 d, s.2 ++ [d]) else s) ([], [])
theorem runW_snoc (L : List ActD) (d : ActD) : runW (L ++ [d]) = if wCode (runW L).1 d = 0 then ((runW L).1 ++ wBits (runW L).1 d, (runW L).2 ++ [d]) else runW L := by
  unfold runW
  rw [List.foldl_append]
  rfl
theorem runW_next (L : List ActD) (d : ActD) : (runW (L ++ [d])).1 = wNext (runW L).1 d := by
  rw [runW_snoc]; unfold wNext; split <;> rfl

def ActD.cells (d : ActD) : List Value := [.int .u8 d.kd, .int .i64 d.V, .int .i64 d.N, .slice d.A d.B.length d.c]
def actCells (L : List ActD) : List Value := L.flatMap ActD.cells
theorem actCells_length (L : List ActD) : (actCells L).length = L.length * 4 := by
  induction L with
  | nil => rfl
  | cons d L ih => simp [actCells, ActD.cells] at ih ⊢; omega
theorem actCells_snoc (L : List ActD) (d : ActD) : actCells (L ++ [d]) = actCells L ++ d.cells := by simp [actCells]

theorem take_snoc_act (L : List ActD) (k : Nat) (d : ActD) (h : L[k]? = some d) : L.take (k + 1) = L.take k ++ [d] := by
  obtain ⟨hk, rfl⟩ := List.getElem?_eq_some_iff.1 h
  exact List.take_succ_eq_append_getElem hk

theorem act_ind {P : List ActD → Prop} (h0 : P []) (h1 : ∀ l b, P l → P (l ++ [b])) (l : List ActD) : P l := by
  have : ∀ l : List ActD, P l.reverse := fun l => by
    induction l with
    | nil => exact h0
    | cons b l ih => simpa using h1 _ b ih
  simpa using this l.reverse

theorem runW_length (L : List ActD) : (runW L).1.length ≤ 8388608 := by
  refine act_ind (P := fun L => (runW L).1.length ≤ 8388608) (by simp [runW]) (fun l d ih => ?_) L
  rw [runW_next]
  exact wNext_length _ _ ih
theorem runW_few (L : List ActD) : (runW L).2.length ≤ L.length := by
  refine act_ind (P := fun L => (runW L).2.length ≤ L.length) (by simp [runW]) (fun l d ih => ?_) L
  rw [runW_snoc]
  split
  · simp; omega
  · simp; omega

theorem rows_apart {w : World} {b b2 : Nat} {e e2 : TypeId} {s s2 n n2 : Nat} {v v2 : Value} {xs xs2 : List Value} (h : w.ownsRow b e s v n xs) (h2 : w.ownsRow b2 e2 s2 v2 n2 xs2) (hne : e ≠ e2) : ∀ k, v.ownBlock = some k → v2.ownBlock ≠ some k := by
  intro k hk hk2
  rcases h.2 with ⟨rfl, _⟩ | ⟨g, cap, cur, rfl, _, hg, _⟩
  · simp [Value.ownBlock] at hk
  · rcases h2.2 with ⟨rfl, _⟩ | ⟨g2, cap2, cur2, rfl, _, hg2, _⟩
    · simp [Value.ownBlock] at hk2
    · simp [Value.ownBlock] at hk hk2
      subst hk hk2
      rw [hg] at hg2
      cases hg2
      exact hne rfl

theorem row_not_obj {w : World} {b x e t s n p : Nat} {v u : Value} {xs : List Value} (h : w.ownsRow b e s v n xs) (ho : Obj3 t w x u p) (hne : e ≠ t) : v.ownBlock ≠ some x := by
  intro hk
  rcases h.2 with ⟨rfl, _⟩ | ⟨g, cap, cur, rfl, _, hg, _⟩
  · simp [Value.ownBlock] at hk
  · simp [Value.ownBlock] at hk
    subst hk
    rw [show w.heap[g]? = _ from ho] at hg
    cases hg
    exact hne rfl

theorem Try.info30 : (Try.prog.info? 30).map (fun i => (i.zero, i.size, i.bytes)) = some (some (.agg #[.int .u8 0, .int .i64 0, .int .i64 0, .slice none 0 0]), 4, 48) := by kernel_rfl

end Go.Proofs.Ytboiiohpkoodpaa
