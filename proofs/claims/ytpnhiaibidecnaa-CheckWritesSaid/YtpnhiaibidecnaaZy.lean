/- A slice of slices of bytes as an argument, opened: each piece with its bytes. Conditions: it reads as data. -/
import Derived.Test.YtpnhiaibidecnaaQr
import Derived.Test.YtpnhiaibidecnaaZw
import Derived.Deep.Slices
namespace Go.Proofs.Ytpnhiaibidecnaa
open Go.ChangeShapes Go.WideShapes Go.ChangeAt Go.RowKit Go.Joins Go.Deep

theorem read_ltQ {W : World} {a : Addr} {v : Value} (h : W.cell? a = some v) : a.block < W.heap.size :=
  Nat.lt_of_not_le fun hge => by simp [World.cell?, Array.getElem?_eq_none hge] at h
theorem Try.cellsL : Try.prog.cellsOf 22 = 1 := by kernel_rfl
theorem Try.undLL : Try.prog.underlying 37 = some (.slice 22) := by kernel_rfl

/-- The bytes of a piece, opened. -/
theorem row_srcQ {H : Type} {enc : TypeId × Value → H} {W : World} {n : Nat} {cs : List Value} {y : DataW H × List MemPlace} (h : DataW.trod enc Try.prog W 0 (fun _ => true) true n 22 cs = some y) :
    ∃ A c B, cs = [.slice A (List.length B) c] ∧ SrcE W (.slice A (List.length B) c) B ∧ (∀ x ∈ B, x < 256) ∧ B.length ≤ 9223372036854775807 := by
  rcases open_ints Try.undL Try.undB Try.cellsB h with ⟨hcs, hx⟩ | ⟨a, len, cap, zs, hcs, _, hl, hm, hz, hx, hcell, hwz⟩
  · exact ⟨none, 0, [], hcs, .inl (.inl ⟨rfl, rfl⟩), by simp, by simp⟩
  · simp only [if_true] at hz
    have h0 : ∀ n ∈ zs, 0 ≤ n ∧ n ≤ 255 := fun n hn => by
      have := hwz n hn
      simp [Lit.wf] at this
      have e1 : IntKind.u8.min = 0 := rfl
      have e2 : IntKind.u8.max = 255 := rfl
      omega
    have hlen : ((zs.take len).map Int.toNat).length = len := by simp; omega
    have hsrc : SrcE W (.slice (some a) ((zs.take len).map Int.toNat).length cap) ((zs.take len).map Int.toNat) := by
      by_cases he : len = 0
      · subst he
        exact .inr ⟨by simp, a, cap, by simp⟩
      · have hb : a.block < W.heap.size := by
          have h1 := hcell 0 (by omega)
          have := read_ltQ h1
          rwa [add_block] at this
        refine .inl (.inr ⟨a, cap, rfl, hb, fun j u hu => ?_⟩)
        have hj : j < len := by
          have := (List.getElem?_eq_some_iff.1 hu).1
          rw [u8s_length, hlen] at this
          exact this
        have hjz : j < zs.length := by omega
        have hn := h0 zs[j] (List.getElem_mem _)
        have e : u = .int .u8 (zs.getD j 0) := by
          simp [u8s, hj, hjz] at hu
          rw [List.getD_eq_getElem?_getD, List.getElem?_eq_getElem hjz, ← hu]
          simp
          omega
        rw [e]
        exact hcell j hjz
    refine ⟨some a, cap, (zs.take len).map Int.toNat, by rw [hlen]; exact hcs, hsrc, ?_, ?_⟩
    · intro x hx
      simp only [List.mem_map] at hx
      obtain ⟨n, hn, rfl⟩ := hx
      have := h0 n (List.mem_of_mem_take hn)
      omega
    · rw [hlen]
      exact Nat.le_trans hl (Nat.le_trans hm (by decide))

/-- A slice of slices of bytes as an argument. -/
theorem arg_pcs {H : Type} {enc : TypeId × Value → H} {W : World} {base : Nat} {v1 : Value} {d1 : DataW H} {p1 : List MemPlace} (hval : Value.okWide Try.prog W .any base 37 v1) (h1 : DataW.Trod enc Try.prog W 0 (fun _ => true) true 37 v1 d1 p1) :
    ∃ A c L, v1 = .slice A (List.length L) c ∧ ∀ (i : Nat) (d : PcD), L[i]? = some d → ∃ g o, A = some ⟨g, o, none⟩ ∧ d.lies W g (o + i) := by
  obtain ⟨a1, len, cap, rfl⟩ := okWide_slice Try.undLL hval
  obtain ⟨fuel, hf⟩ := h1
  rcases open_slice Try.undLL hf with ⟨hcs, hx⟩ | ⟨a, len', cap', m, n, D, Pl, hcs, _, hl, hm, hmm, _, hx⟩
  · simp [Value.cells] at hcs
    obtain ⟨rfl, rfl, rfl⟩ := hcs
    exact ⟨none, 0, [], rfl, fun i d h => by simp at h⟩
  · simp [Value.cells] at hcs
    obtain ⟨rfl, rfl, rfl⟩ := hcs
    simp only [if_true] at hmm
    obtain ⟨g, o, sp⟩ := a
    have hsp : sp = none := by
      simp only [Value.okWide, Try.undLL, Cell.okWide, Cell.ok] at hval
      obtain ⟨_, _, _, hspot, row, cells, hs, _⟩ := hval
      exact hspot
    subst hsp
    rw [Try.cellsL] at hx
    obtain ⟨f, hfl⟩ := choose_lt (α := PcD) (n := m) (p := fun i d => d.lies W g (o + i)) (fun i hi => by
      obtain ⟨cs', hc1, hc2⟩ := hx i hi
      obtain ⟨_, _, hcc⟩ := World.cells?_some hc1
      obtain ⟨A, c, B, rfl, hs, hB, _⟩ := row_srcQ hc2
      refine ⟨⟨A, c, B⟩, ?_, hs, hB⟩
      have := hcc 0 (by omega); simpa [Addr.add_lit] using this)
    refine ⟨some ⟨g, o, none⟩, cap, (List.range len).map f, by simp, fun i d hi => ⟨g, o, rfl, ?_⟩⟩
    have hil : i < len := by
      have := (List.getElem?_eq_some_iff.1 hi).1
      simpa using this
    simp [hil] at hi
    subst hi
    exact hfl i (by omega)
/-- The pieces of an argument read afterwards as before. -/
theorem keep_pcs {H : Type} {enc : TypeId × Value → H} {W W' : World} {v : Value} {d : DataW H} {p : List MemPlace} (h : DataW.Trod enc Try.prog W 0 (fun _ => true) true 37 v d p) (hb : Below W.heap.size W W') (hlt : ∀ x ∈ p, x.block < W.heap.size) :
    DataW.Trod enc Try.prog W' 0 (fun b => decide (b < W.heap.size)) true 37 v d p :=
  Below.trod Try.laidOutQ (by kernel_rfl) (of_decide_eq_true (by kernel_rfl)) h hb hlt
end Go.Proofs.Ytpnhiaibidecnaa
