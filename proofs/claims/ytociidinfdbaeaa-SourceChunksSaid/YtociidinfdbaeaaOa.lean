/- A slice of calls as an argument is opened: each call with its four cells, its bytes with them. Conditions: it reads as data. -/
import Derived.Test.YtociidinfdbaeaaPa
import Derived.Test.YtociidinfdbaeaaRr
import Derived.Deep.Slices
namespace Go.Proofs.Ytociidinfdbaeaa
open Go.ChangeShapes Go.WideShapes Go.ChangeAt Go.RowKit Go.Joins Go.Deep

instance : Inhabited ActD := ⟨⟨0, 0, 0, none, 0, []⟩⟩

theorem read_lt {W : World} {a : Addr} {v : Value} (h : W.cell? a = some v) : a.block < W.heap.size :=
  Nat.lt_of_not_le fun hge => by simp [World.cell?, Array.getElem?_eq_none hge] at h

/-- The bytes of a call, opened. -/
theorem row_src {H : Type} {enc : TypeId × Value → H} {W : World} {n : Nat} {cs : List Value} {y : DataW H × List MemPlace} (h : DataW.trod enc Try.prog W 0 (fun _ => true) true n 29 cs = some y) :
    ∃ A c B, cs = [.slice A (List.length B) c] ∧ SrcE W (.slice A (List.length B) c) B ∧ (∀ x ∈ B, x < 256) ∧ B.length ≤ 9223372036854775807 := by
  rcases open_ints Try.underlying29 Try.underlying5 Try.cells5 h with ⟨hcs, hx⟩ | ⟨a, len, cap, zs, hcs, _, hl, hm, hz, hx, hcell, hwz⟩
  · exact ⟨none, 0, [], hcs, .inl (.inl ⟨rfl, rfl⟩), by simp, by simp⟩
  · simp only [if_true] at hz
    have h0 : ∀ n ∈ zs, 0 ≤ n ∧ n ≤ 255 := fun n hn => by
      have := hwz n hn
      simp [Lit.wf] at this
      have e1 : IntKind.u8.min = 0 := rfl
      have e2 : IntKind.u8.max = 255 := rfl
      omega
    have hlen : ((zs.take len).map Int.toNat).length = len := by simp; omega
    have hsrc : SrcE W (.slice (some a) ((zs.take len).map Int.toNat).length cap) ((zs.take len).map Int.toNat) := by
      by_cases he : len = 0
      · subst he
        exact .inr ⟨by simp, a, cap, by simp⟩
      · have hb : a.block < W.heap.size := by
          have h1 := hcell 0 (by omega)
          have := read_lt h1
          rwa [add_block] at this
        refine .inl (.inr ⟨a, cap, rfl, hb, fun j u hu => ?_⟩)
        have hj : j < len := by
          have := (List.getElem?_eq_some_iff.1 hu).1
          rw [u8s_length, hlen] at this
          exact this
        have hjz : j < zs.length := by omega
        have hn := h0 zs[j] (List.getElem_mem _)
        have e : u = .int .u8 (zs.getD j 0) := by
          simp [u8s, hj, hjz] at hu
          rw [List.getD_eq_getElem?_getD, List.getElem?_eq_getElem hjz, ← hu]
          simp
          omega
        rw [e]
        exact hcell j hjz
    refine ⟨some a, cap, (zs.take len).map Int.toNat, by rw [hlen]; exact hcs, hsrc, ?_, ?_⟩
    · intro x hx
      simp only [List.mem_map] at hx
      obtain ⟨n, hn, rfl⟩ := hx
      have := h0 n (List.mem_of_mem_take hn)
      omega
    · rw [hlen]
      exact Nat.le_trans hl (Nat.le_trans hm (by decide))

theorem ones53 : ∃ f0 f1 f2 f3 : Field, Try.prog.underlying 53 = some (.struct #[f0, f1, f2, f3]) ∧ f0.offset = 0 ∧ f1.offset = 1 ∧ f2.offset = 2 ∧ f3.offset = 3 ∧ f0.type = 5 ∧ f1.type = 29 ∧ f2.type = 3 ∧ f3.type = 5 := ⟨_, _, _, _, Try.underlying53, rfl, rfl, rfl, rfl, rfl, rfl, rfl, rfl⟩
theorem Try.cells3 : Try.prog.cellsOf 3 = 1 := by kernel_rfl
theorem Try.cells29 : Try.prog.cellsOf 29 = 1 := by kernel_rfl

/-- The cells of a call, opened. -/
theorem act_open {H : Type} {enc : TypeId × Value → H} {W : World} {n : Nat} {cs : List Value} {y : DataW H × List MemPlace} (h : DataW.trod enc Try.prog W 0 (fun _ => true) true n 53 cs = some y) :
    ∃ d : ActD, cs = [.int .u8 d.kd, .slice d.A d.B.length d.c, .int .i64 d.V, .int .u8 d.E] ∧ SrcE W (.slice d.A d.B.length d.c) d.B ∧ (∀ x ∈ d.B, x < 256) ∧ d.kd ≤ 255 ∧ d.E ≤ 255 ∧ d.B.length ≤ 9223372036854775807 := by
  obtain ⟨f0, f1, f2, f3, hu, o0, o1, o2, o3, t0, t1, t2, t3⟩ := ones53
  obtain ⟨y0, y1, y2, y3, n', _, hlen, h0, h1, h2, h3⟩ := trod_struct4 hu h
  rw [Try.cells53] at hlen
  obtain ⟨c0, c1, c2, c3, hcs⟩ := array4 (cs := cs.toArray) (by simpa using hlen)
  have hcs' : cs = [c0, c1, c2, c3] := by simpa using congrArg Array.toList hcs
  subst hcs'
  rw [o0, t0, Try.cells5] at h0
  rw [o1, t1, Try.cells29] at h1
  rw [o2, t2, Try.cells3] at h2
  rw [o3, t3, Try.cells5] at h3
  simp at h0 h1 h2 h3
  obtain ⟨kd, e0, _, wk⟩ := DataW.trod_int Try.underlying5 h0
  obtain ⟨A, c, B, e1, hs, hB, hBl⟩ := row_src h1
  obtain ⟨V, e2, _, _⟩ := DataW.trod_int Try.underlying3 h2
  obtain ⟨E, e3, _, wE⟩ := DataW.trod_int Try.underlying5 h3
  simp at e0 e1 e2 e3
  subst e0 e1 e2 e3
  have b8 : ∀ {z : Int}, (Lit.int .u8 z).wf = true → 0 ≤ z ∧ z ≤ 255 := fun {z} h => by
    simp [Lit.wf] at h
    have e1 : IntKind.u8.min = 0 := rfl
    have e2 : IntKind.u8.max = 255 := rfl
    omega
  have hkd := b8 wk
  have hE := b8 wE
  obtain ⟨k, rfl⟩ := Int.eq_ofNat_of_zero_le hkd.1
  obtain ⟨e, rfl⟩ := Int.eq_ofNat_of_zero_le hE.1
  exact ⟨⟨k, V, e, A, c, B⟩, rfl, hs, hB, by show k ≤ 255; omega, by show e ≤ 255; omega, hBl⟩

/-- A slice of calls as an argument. -/
theorem arg_acts {H : Type} {enc : TypeId × Value → H} {W : World} {base : Nat} {v1 : Value} {d1 : DataW H} {p1 : List MemPlace} (hval : Value.okWide Try.prog W .any base 22 v1) (h1 : DataW.Trod enc Try.prog W 0 (fun _ => true) true 22 v1 d1 p1) :
    ∃ L, ActsAt W v1 L ∧ L.length ≤ 9223372036854775807 := by
  obtain ⟨a1, len, cap, rfl⟩ := okWide_slice Try.underlying22 hval
  obtain ⟨fuel, hf⟩ := h1
  rcases open_slice Try.underlying22 hf with ⟨hcs, hx⟩ | ⟨a, len', cap', m, n, D, Pl, hcs, _, hl, hm, hmm, _, hx⟩
  · simp [Value.cells] at hcs
    obtain ⟨rfl, rfl, rfl⟩ := hcs
    exact ⟨[], .inl ⟨rfl, rfl⟩, by simp⟩
  · simp [Value.cells] at hcs
    obtain ⟨rfl, rfl, rfl⟩ := hcs
    simp only [if_true] at hmm
    obtain ⟨g, o, sp⟩ := a
    have hsp : sp = none ∧ g < W.heap.size := by
      simp only [Value.okWide, Try.underlying22, Cell.okWide, Cell.ok] at hval
      obtain ⟨_, _, _, hspot, row, cells, hs, _⟩ := hval
      exact ⟨hspot, shape_lt hs⟩
    obtain ⟨rfl, hg⟩ := hsp
    rw [Try.cells53] at hx
    obtain ⟨f, hfl⟩ := choose_lt (α := ActD) (n := m) (p := fun i d => d.lies W g (o + i * 4)) (fun i hi => by
      obtain ⟨cs', hc1, hc2⟩ := hx i hi
      obtain ⟨_, _, hcc⟩ := World.cells?_some hc1
      obtain ⟨d, rfl, hs, hB, hk, hE, hBl⟩ := act_open hc2
      refine ⟨d, hg, ?_, ?_, ?_, ?_, hs, hB, hk, hE, hBl⟩
      · have := hcc 0 (by omega); simpa [Addr.add_lit] using this
      · have := hcc 1 (by omega); simpa [Addr.add_lit] using this
      · have := hcc 2 (by omega); simpa [Addr.add_lit] using this
      · have := hcc 3 (by omega); simpa [Addr.add_lit] using this)
    refine ⟨(List.range len).map f, .inr ⟨g, o, cap, by simp, fun i d hi => ?_⟩, by simp; exact Nat.le_trans hl (Nat.le_trans hm (by decide))⟩
    have hil : i < len := by
      have := (List.getElem?_eq_some_iff.1 hi).1
      simpa using this
    simp [hil] at hi
    subst hi
    exact hfl i (by omega)
end Go.Proofs.Ytociidinfdbaeaa
