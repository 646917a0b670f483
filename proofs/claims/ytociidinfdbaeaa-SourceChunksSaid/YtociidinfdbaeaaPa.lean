/- An argument of type []byte, opened: its bytes lie in memory. No conditions beyond the argument's own form. -/
import Derived.Test.YtociidinfdbaeaaRows
import Derived.Test.YtociidinfdbaeaaPn
namespace Go.Proofs.Ytociidinfdbaeaa
open Go.ChangeShapes Go.WideShapes Go.ChangeAt Go.RowKit Go.Joins

theorem shape_lt {W : World} {b : Nat} {x : TypeId × Nat} (h : W.shape? b = some x) : b < W.heap.size := by
  unfold World.shape? at h
  cases hh : W.heap[b]? with
  | none => rw [hh] at h; cases h
  | some o => exact (Array.getElem?_eq_some_iff.1 hh).1

/-- A slice of bytes as an argument. -/
theorem arg_src {H : Type} {enc : TypeId × Value → H} {W : World} {base : Nat} {v1 : Value} {d1 : DataW H} {p1 : List MemPlace} (hval : Value.okWide Try.prog W .any base 29 v1) (h1 : DataW.Trod enc Try.prog W 0 (fun _ => true) true 29 v1 d1 p1) :
    ∃ A c B, v1 = .slice A (List.length B) c ∧ SrcAt W v1 B ∧ (∀ x ∈ B, x < 256) ∧ B.length ≤ c ∧ c ≤ 9223372036854775807 := by
  obtain ⟨a1, len, cap, rfl⟩ := okWide_slice Try.underlying29 hval
  obtain ⟨fuel, hf⟩ := h1
  rcases open_ints Try.underlying29 Try.underlying5 Try.cells5 hf with ⟨hcs, hx⟩ | ⟨a, len', cap', zs, hcs, _, hl, hm, hz, hx, hcell, hwz⟩
  · simp [Value.cells] at hcs
    obtain ⟨rfl, rfl, rfl⟩ := hcs
    exact ⟨none, 0, [], rfl, .inl ⟨rfl, rfl⟩, by simp, by simp, by decide⟩
  · simp [Value.cells] at hcs
    obtain ⟨rfl, rfl, rfl⟩ := hcs
    simp only [if_true] at hz
    have hlt : a.block < W.heap.size := by
      simp only [Value.okWide, Try.underlying29, Cell.okWide, Cell.ok] at hval
      obtain ⟨_, _, _, _, row, cells, hs, _⟩ := hval
      exact shape_lt hs
    have h0 : ∀ n ∈ zs, 0 ≤ n ∧ n ≤ 255 := fun n hn => by
      have := hwz n hn
      simp [Lit.wf] at this
      have e1 : IntKind.u8.min = 0 := rfl
      have e2 : IntKind.u8.max = 255 := rfl
      omega
    have hlen : ((zs.take len).map Int.toNat).length = len := by simp; omega
    refine ⟨some a, cap, (zs.take len).map Int.toNat, by rw [hlen], .inr ⟨a, cap, by rw [hlen], hlt, fun j u hu => ?_⟩, ?_, ?_, ?_⟩
    · have hj : j < len := by
        have := (List.getElem?_eq_some_iff.1 hu).1
        rw [u8s_length, hlen] at this
        exact this
      have hjz : j < zs.length := by omega
      have hn := h0 zs[j] (List.getElem_mem _)
      have e : u = .int .u8 (zs.getD j 0) := by
        simp [u8s, hj, hjz] at hu
        rw [List.getD_eq_getElem?_getD, List.getElem?_eq_getElem hjz, ← hu]
        simp
        omega
      rw [e]
      exact hcell j hjz
    · intro x hx
      simp only [List.mem_map] at hx
      obtain ⟨n, hn, rfl⟩ := hx
      have := h0 n (List.mem_of_mem_take hn)
      omega
    · rw [hlen]
      exact hl
    · exact Nat.le_trans hm (by decide)
end Go.Proofs.Ytociidinfdbaeaa
