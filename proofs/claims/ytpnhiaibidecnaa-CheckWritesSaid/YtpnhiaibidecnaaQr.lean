/- An argument of type []byte, opened; what every row asks. No conditions beyond the argument's own form. -/
import Derived.Test.YtpnhiaibidecnaaRows
import Derived.Test.YtpnhiaibidecnaaQa
import Derived.ProofKit
import Derived.Lib.SmallJoins
import Derived.Carry
namespace Go.Proofs.Ytpnhiaibidecnaa
open Go.ChangeShapes Go.WideShapes Go.ChangeAt Go.RowKit Go.Joins

theorem Try.ownQ : ownKnob Try.prog.godebug = none := by kernel_rfl
theorem Try.laidOutQ : laidOutB Try.prog = true := by kernel_rfl
theorem Try.cellsB : Try.prog.cellsOf 5 = 1 := by kernel_rfl
theorem Try.undBool : Try.prog.underlying 4 = some .bool := by kernel_rfl
theorem Try.undInt : Try.prog.underlying 3 = some (.int .i64) := by kernel_rfl

theorem shape_ltQ {W : World} {b : Nat} {x : TypeId × Nat} (h : W.shape? b = some x) : b < W.heap.size := by
  unfold World.shape? at h
  cases hh : W.heap[b]? with
  | none => rw [hh] at h; cases h
  | some o => exact (Array.getElem?_eq_some_iff.1 hh).1

/-- A slice of bytes as an argument. -/
theorem arg_srcQ {H : Type} {enc : TypeId × Value → H} {W : World} {base : Nat} {v1 : Value} {d1 : DataW H} {p1 : List MemPlace} (hval : Value.okWide Try.prog W .any base 22 v1) (h1 : DataW.Trod enc Try.prog W 0 (fun _ => true) true 22 v1 d1 p1) :
    ∃ A c B, v1 = .slice A (List.length B) c ∧ SrcAt W v1 B ∧ (∀ x ∈ B, x < 256) ∧ B.length ≤ c ∧ c ≤ 9223372036854775807 := by
  obtain ⟨a1, len, cap, rfl⟩ := okWide_slice Try.undL hval
  obtain ⟨fuel, hf⟩ := h1
  rcases open_ints Try.undL Try.undB Try.cellsB hf with ⟨hcs, hx⟩ | ⟨a, len', cap', zs, hcs, _, hl, hm, hz, hx, hcell, hwz⟩
  · simp [Value.cells] at hcs
    obtain ⟨rfl, rfl, rfl⟩ := hcs
    exact ⟨none, 0, [], rfl, .inl ⟨rfl, rfl⟩, by simp, by simp, by decide⟩
  · simp [Value.cells] at hcs
    obtain ⟨rfl, rfl, rfl⟩ := hcs
    simp only [if_true] at hz
    have hlt : a.block < W.heap.size := by
      simp only [Value.okWide, Try.undL, Cell.okWide, Cell.ok] at hval
      obtain ⟨_, _, _, _, row, cells, hs, _⟩ := hval
      exact shape_ltQ hs
    have h0 : ∀ n ∈ zs, 0 ≤ n ∧ n ≤ 255 := fun n hn => by
      have := hwz n hn
      simp [Lit.wf] at this
      have e1 : IntKind.u8.min = 0 := rfl
      have e2 : IntKind.u8.max = 255 := rfl
      omega
    have hlen : ((zs.take len).map Int.toNat).length = len := by simp; omega
    refine ⟨some a, cap, (zs.take len).map Int.toNat, by rw [hlen], .inr ⟨a, cap, by rw [hlen], hlt, fun j u hu => ?_⟩, ?_, ?_, ?_⟩
    · have hj : j < len := by
        have := (List.getElem?_eq_some_iff.1 hu).1
        rw [u8s_length, hlen] at this
        exact this
      have hjz : j < zs.length := by omega
      have hn := h0 zs[j] (List.getElem_mem _)
      have e : u = .int .u8 (zs.getD j 0) := by
        simp [u8s, hj, hjz] at hu
        rw [List.getD_eq_getElem?_getD, List.getElem?_eq_getElem hjz, ← hu]
        simp
        omega
      rw [e]
      exact hcell j hjz
    · intro x hx
      simp only [List.mem_map] at hx
      obtain ⟨n, hn, rfl⟩ := hx
      have := h0 n (List.mem_of_mem_take hn)
      omega
    · rw [hlen]
      exact hl
    · exact Nat.le_trans hm (by decide)

/-- The bytes of an argument read afterwards as before. -/
theorem keep_src {H : Type} {enc : TypeId × Value → H} {W W' : World} {v : Value} {d : DataW H} {p : List MemPlace} (h : DataW.Trod enc Try.prog W 0 (fun _ => true) true 22 v d p) (hb : Below W.heap.size W W') (hlt : ∀ x ∈ p, x.block < W.heap.size) :
    DataW.Trod enc Try.prog W' 0 (fun b => decide (b < W.heap.size)) true 22 v d p :=
  Below.trod Try.laidOutQ (by kernel_rfl) (of_decide_eq_true (by kernel_rfl)) h hb hlt
theorem keep_int {H : Type} {enc : TypeId × Value → H} {W W' : World} {n : Int} (h : (Lit.int .i64 n).wf = true) : DataW.Trod enc Try.prog W' 0 (fun b => decide (b < W.heap.size)) true 3 (.int .i64 n) (.lit (.int .i64 n)) [] :=
  shut_int (w := W') (base := 0) (spare := fun b => decide (b < W.heap.size)) (held := true) (enc := enc) Try.undInt h
theorem keep_bool {H : Type} {enc : TypeId × Value → H} {W W' : World} (b : Bool) : DataW.Trod enc Try.prog W' 0 (fun b => decide (b < W.heap.size)) true 4 (.bool b) (.lit (.bool b)) [] :=
  shut_bool Try.undBool b

end Go.Proofs.Ytpnhiaibidecnaa
