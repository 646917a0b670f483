/- What the calls without an error have written, call by call, as lists. No conditions. -/
import Derived.Test.YtboiiohpkoodpaaIn
namespace Go.Proofs.Ytboiiohpkoodpaa

/-- The bits of calls of which none returns an error. -/
def bitsOf (D : List ActD) : List Bool := D.foldl (fun l d => l ++ wBits l d) []
theorem bitsOf_snoc (D : List ActD) (d : ActD) : bitsOf (D ++ [d]) = bitsOf D ++ wBits (bitsOf D) d := by
  unfold bitsOf
  rw [List.foldl_append]
  rfl

theorem runW_bits (L : List ActD) : (runW L).1 = bitsOf (runW L).2 := by
  refine act_ind (P := fun L => (runW L).1 = bitsOf (runW L).2) rfl (fun l d ih => ?_) L
  show (runW (l ++ [d])).1 = bitsOf (runW (l ++ [d])).2
  rw [runW_snoc]
  split
  · show (runW l).1 ++ wBits (runW l).1 d = bitsOf ((runW l).2 ++ [d])
    rw [bitsOf_snoc, ← ih]
  · exact ih

/-- Every call that was kept returned no error at its place. -/
theorem runW_ok (L : List ActD) : ∀ (j : Nat) (d : ActD), (runW L).2[j]? = some d → wCode (bitsOf ((runW L).2.take j)) d = 0 ∧ d ∈ L := by
  refine act_ind (P := fun L => ∀ (j : Nat) (d : ActD), (runW L).2[j]? = some d → wCode (bitsOf ((runW L).2.take j)) d = 0 ∧ d ∈ L) (fun j d h => by simp [runW] at h) (fun l d ih => ?_) L
  intro j e h
  rw [runW_snoc] at h ⊢
  split at h
  · rename_i hc
    rw [if_pos hc]
    simp only at h ⊢
    by_cases hj : j < (runW l).2.length
    · rw [List.getElem?_append_left hj] at h
      rw [List.take_append_of_le_length (Nat.le_of_lt hj)]
      exact ⟨(ih j e h).1, List.mem_append_left _ (ih j e h).2⟩
    · have hj2 : j = (runW l).2.length := by
        have := (List.getElem?_eq_some_iff.1 h).1
        simp at this
        omega
      subst hj2
      rw [List.getElem?_append_right (Nat.le_refl _)] at h
      simp at h
      subst h
      rw [List.take_left' rfl, ← runW_bits]
      exact ⟨hc, by simp⟩
  · rename_i hc
    rw [if_neg hc]
    exact ⟨(ih j e h).1, List.mem_append_left _ (ih j e h).2⟩

theorem bitsOf_step (D : List ActD) (j : Nat) (d : ActD) (h : D[j]? = some d) : bitsOf (D.take (j + 1)) = bitsOf (D.take j) ++ wBits (bitsOf (D.take j)) d := by
  rw [take_snoc_act D j d h, bitsOf_snoc]

/-- What was written first lies first. -/
theorem bitsOf_prefix (D : List ActD) : ∀ j, ∃ r, bitsOf D = bitsOf (D.take j) ++ r := by
  refine act_ind (P := fun D => ∀ j, ∃ r, bitsOf D = bitsOf (D.take j) ++ r) (fun j => ⟨[], by simp⟩) (fun l d ih => ?_) D
  intro j
  by_cases hj : j ≤ l.length
  · obtain ⟨r, hr⟩ := ih j
    refine ⟨r ++ wBits (bitsOf l) d, ?_⟩
    rw [bitsOf_snoc, List.take_append_of_le_length hj, hr, List.append_assoc]
  · refine ⟨[], ?_⟩
    rw [List.take_of_length_le (by simp; omega), List.append_nil]

/-- The bits around a call. -/
theorem bitsOf_around (D : List ActD) (j : Nat) (d : ActD) (h : D[j]? = some d) : ∃ r, bitsOf D = bitsOf (D.take j) ++ wBits (bitsOf (D.take j)) d ++ r := by
  obtain ⟨r, hr⟩ := bitsOf_prefix D (j + 1)
  exact ⟨r, by rw [hr, bitsOf_step D j d h]⟩

/-- The four cells of a call in a row of calls. -/
theorem actCells_get (D : List ActD) (j : Nat) (d : ActD) (h : D[j]? = some d) (i : Nat) (hi : i < 4) : (actCells D)[j * 4 + i]? = d.cells[i]? := by
  have hj := (List.getElem?_eq_some_iff.1 h).1
  have e : D = D.take j ++ [d] ++ D.drop (j + 1) := by
    rw [← take_snoc_act D j d h, List.take_append_drop]
  have hc : actCells D = actCells (D.take j) ++ (d.cells ++ actCells (D.drop (j + 1))) := by
    conv => lhs; rw [e]
    simp [actCells]
  have hl : (actCells (D.take j)).length = j * 4 := by rw [actCells_length, List.length_take]; omega
  rw [hc, List.getElem?_append_right (by omega), hl, Nat.add_sub_cancel_left, List.getElem?_append_left (by simpa [ActD.cells] using hi)]
end Go.Proofs.Ytboiiohpkoodpaa
