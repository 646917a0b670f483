/- The walk of VarintWrites. Conditions: the bytes lie in memory. -/
import Derived.Test.YtfkaghfbngicmaaQz
import Derived.Test.YtfkaghfbngicmaaQo
import Derived.Laws.IdiomCopy
namespace Go.Proofs.Ytfkaghfbngicmaa
open Go.RowKit Go.Shelf

/-- A stretch of bytes of the call's own, cell by cell. -/
structure Room (W : World) (g : Nat) (D : List Nat) : Prop where
  cell : ∀ j (h : j < D.length), W.cell? ⟨g, j, none⟩ = some (.int .u8 ((D[j] : Nat) : Int))
  free : ∀ j, j < D.length → W.frozen? ⟨g, j, none⟩ = false
  lt : g < W.heap.size
theorem Room.below {W W' : World} {g : Nat} {D : List Nat} (h : Room W g D) (hb : Below W.heap.size W W') : Room W' g D :=
  ⟨fun j hj => (hb.cell (p := ⟨g, j, none⟩) h.lt).trans (h.cell j hj), fun j hj => (hb.frozen (p := ⟨g, j, none⟩) h.lt).trans (h.free j hj), Nat.lt_of_lt_of_le h.lt hb.size⟩
theorem Room.set {W : World} {g : Nat} {D : List Nat} (h : Room W g D) (k : Nat) (hk : k < D.length) (y : Nat) : Room (W.setCell ⟨g, k, none⟩ (.int .u8 ((y : Nat) : Int))) g (D.set k y) := by
  refine ⟨fun j hj => ?_, fun j hj => ?_, by simpa [World.setCell] using h.lt⟩
  · rw [List.length_set] at hj
    by_cases e : k = j
    · subst e
      rw [World.cell?_setCell_same _ _ _ (h.cell k hk)]
      simp
    · rw [World.cell?_setCell_other _ _ _ _ (fun e' => e (by cases e'; rfl)), h.cell j hj]
      simp [List.getElem_set, e]
  · rw [List.length_set] at hj
    rw [World.frozen?_setCell]
    exact h.free j hj
theorem Room.src {W : World} {g : Nat} {D : List Nat} (h : Room W g D) (n c : Nat) (hn : n ≤ D.length) : SrcAt W (.slice (some ⟨g, 0, none⟩) n c) (D.take n) := by
  have hl : (D.take n).length = n := by rw [List.length_take]; omega
  refine .inr ⟨⟨g, 0, none⟩, c, by rw [hl], h.lt, fun j u hu => ?_⟩
  have hj := (List.getElem?_eq_some_iff.1 hu).1
  rw [u8s_length, hl] at hj
  rw [Addr.add_lit, Nat.zero_add, h.cell j (by omega), ← hu]
  simp [u8s, hj, show j < D.length by omega]

/-- Bytes into room of the call's own. -/
theorem run_append_into (ty : TypeId) {w : World} {g : Nat} {D : List Nat} (h : Room w g D) {x : Value} {N : List Nat} (hs : SrcAt w x N) (hl : N.length ≤ D.length) :
    ∃ w' D', (Builtin.append_ #[22, 22] ty #[.slice (some ⟨g, 0, none⟩) 0 D.length, x]).run Try.prog w = .ok (.slice (some ⟨g, 0, none⟩) N.length D.length) w' ∧ Room w' g D' ∧ D'.length = D.length ∧ D'.take N.length = N ∧ Rest (fun k => k = g) w w' := by
  obtain ⟨i, hi, hz, hsz, hby⟩ := info_parts Try.infB
  have hsrc := hs.src
  rw [← hsz] at hsrc
  have hrun := run_append_room_src (P := Try.prog) w 22 22 ty 5 i Try.undL hi g 0 0 D.length x N.length (u8s N) hsrc (by omega) (fun j hj => by
    rw [u8s_length] at hj
    rw [hsz, show 0 + 0 * 1 + j = j by omega, h.cell j (by omega)]; rfl) (fun j hj => by
    rw [u8s_length] at hj
    rw [hsz, show 0 + 0 * 1 + j = j by omega]; exact h.free j (by omega))
  rw [hsz, show 0 + 0 * 1 = 0 by omega, Nat.zero_add] at hrun
  have hD' : ∀ j (hj : j < N.length), (N ++ D.drop N.length)[j]? = some N[j] := fun j hj => by
    rw [List.getElem?_append_left hj, List.getElem?_eq_getElem hj]
  refine ⟨_, N ++ D.drop N.length, hrun, ⟨fun j hj => ?_, fun j hj => ?_, by rw [size_setCells]; exact h.lt⟩, by simp; omega, by simp, ⟨World.os_setCells _ _ _ _, tape_setCells _ _ _ _, World.output_setCells _ _ _ _, by rw [size_setCells]; exact Nat.le_refl _, fun k hk hne => World.heap_setCells_other w g _ _ hk (fun e => hne e)⟩⟩
  · have hjl : j < D.length := by simp at hj; omega
    by_cases hjn : j < N.length
    · have := World.cell?_setCells_in g (u8s N) 0 w (fun j hj => by
        rw [u8s_length] at hj
        rw [Nat.zero_add, h.cell j (by omega)]; rfl) j (by rw [u8s_length]; exact hjn)
      rw [Nat.zero_add] at this
      rw [this]
      simp [u8s, List.getElem_append, hjn]
    · rw [World.cell?_setCells_out g _ _ _ _ (fun _ _ => Or.inr (by rw [u8s_length]; show 0 + N.length ≤ j; omega)), h.cell j hjl]
      simp [List.getElem_append, hjn]
      congr
      omega
  · rw [World.frozen?_setCells]
    exact h.free j (by simp at hj; omega)

theorem room_new (w : World) : Room (w.alloc (.cells (Array.replicate 40 (.int .u8 0)) 5)) w.heap.size (List.replicate 40 0) := by
  refine ⟨fun j hj => ?_, fun j hj => World.frozen?_alloc_new _ _ _ _, by simp⟩
  rw [World.cell?_alloc_new, List.getElem_replicate]
  rw [List.length_replicate] at hj
  simp [Array.getElem?_replicate, hj]
end Go.Proofs.Ytfkaghfbngicmaa
