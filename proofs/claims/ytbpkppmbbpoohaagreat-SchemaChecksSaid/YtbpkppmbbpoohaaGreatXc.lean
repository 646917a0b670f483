/- What the writing into a copied definition leaves: texts, factors and names can be written, the lists lead where they led. No conditions beyond those named. Definitions that are equal: the other way round, and a copy; bounds. No conditions beyond those named. The walk of SchemaChecks. Conditions: the definition lies in memory, with lists within the reach. The row of SchemaChecks: the definition is opened, the walk ends in true, and what it reads reads as it did. No conditions beyond the form's reach. -/
import Derived.Test.YtbpkppmbbpoohaaGreatVl
import Derived.Test.YtbpkppmbbpoohaaGreatEy
import Derived.Test.YtbpkppmbbpoohaaGreatFb
import Derived.Test.YtbpkppmbbpoohaaGreatWo
import Derived.Test.YtbpkppmbbpoohaaGreatKb
import Derived.Test.YtbpkppmbbpoohaaGreatOz
import Derived.Carry
namespace Go.Proofs.YtbpkppmbbpoohaaGreat
open Go.RowKit Go.Shelf

/-- A text that can be written, of a bounded length. -/
structure PutS (B : Nat) (W : World) (p : Addr) : Prop where
  fr : W.frozen? p = false
  ex : ∃ s : ByteArray, W.cell? p = some (.string s) ∧ s.size ≤ B
/-- A number that can be written. -/
structure PutI (W : World) (p : Addr) : Prop where
  fr : W.frozen? p = false
  ex : ∃ k : Int, W.cell? p = some (.int .i64 k)

/-- Fields that are written to. -/
def FShp (τ : Nat → Nat) (lo hi B : Nat) (W : World) (A : Option Addr) (D : List FieldD) : Prop :=
  ∀ (k : Nat) (d : FieldD), D[k]? = some d → ∃ g, A = some ⟨g, 0, none⟩ ∧ (lo ≤ g ∧ g < hi) ∧ τ g = 55 ∧ (∀ o, W.frozen? ⟨g, o, none⟩ = false) ∧ (∃ s : ByteArray, W.cell? ⟨g, k * 15, none⟩ = some (.string s)) ∧
    (∀ j u, 0 < j → (FieldD.cells d)[j]? = some u → W.cell? ⟨g, k * 15 + j, none⟩ = some u) ∧
    (∀ (n : Nat) (t : TermD), d.terms[n]? = some t → ∃ g2, d.ta = some ⟨g2, 0, none⟩ ∧ (lo ≤ g2 ∧ g2 < hi) ∧ τ g2 = 67 ∧ PutI W ⟨g2, n * 2 + 1, none⟩) ∧
    (∀ (n : Nat) (c : CaseD), d.cases[n]? = some c → ∃ g2, d.ca = some ⟨g2, 0, none⟩ ∧ (lo ≤ g2 ∧ g2 < hi) ∧ τ g2 = 65 ∧ PutS B W ⟨g2, n * 3 + 2, none⟩)
/-- Messages that are written to. -/
def CShp (τ : Nat → Nat) (lo hi B : Nat) (W : World) (A : Option Addr) (D : List MsgD) : Prop :=
  ∀ (i : Nat) (m : MsgD), D[i]? = some m → ∃ g, A = some ⟨g, 0, none⟩ ∧ (lo ≤ g ∧ g < hi) ∧ τ g = 36 ∧ (∀ o, W.frozen? ⟨g, o, none⟩ = false) ∧ (∃ v, W.cell? ⟨g, i * 2, none⟩ = some v) ∧
    W.cell? ⟨g, i * 2 + 1, none⟩ = some (.slice m.fa m.fields.length m.fc) ∧ FShp τ lo hi B W m.fa m.fields

/-- A place that may be written, and what may be written there. -/
def MayPut (τ : Nat → Nat) (B : Nat) (q off : Nat) (v : Value) : Prop :=
  (τ q = 65 ∧ (∃ n, off = n * 3 + 2) ∧ ∃ s : ByteArray, v = .string s ∧ s.size ≤ B) ∨ (τ q = 67 ∧ (∃ n, off = n * 2 + 1) ∧ ∃ k : Int, v = .int .i64 k) ∨ (τ q = 55 ∧ (∃ k, off = k * 15) ∧ ∃ s : ByteArray, v = .string s) ∨ (τ q = 36 ∧ ∃ i, off = i * 2)

theorem PutS.mono {B B' : Nat} {W : World} {p : Addr} (h : PutS B W p) (hb : B ≤ B') : PutS B' W p := by
  obtain ⟨s, h1, h2⟩ := h.ex
  exact ⟨h.fr, s, h1, by omega⟩
theorem PutS.later {B : Nat} {W W' : World} {p : Addr} (h : PutS B W p) (hb : Below W.heap.size W W') : PutS B W' p := by
  obtain ⟨u, hu, hs⟩ := h.ex
  have hl := World.block_lt_of_cell? _ _ hu
  exact ⟨(hb.frozen (p := p) hl).trans h.fr, u, (hb.cell (p := p) hl).trans hu, hs⟩
theorem PutI.later {W W' : World} {p : Addr} (h : PutI W p) (hb : Below W.heap.size W W') : PutI W' p := by
  obtain ⟨u, hu⟩ := h.ex
  have hl := World.block_lt_of_cell? _ _ hu
  exact ⟨(hb.frozen (p := p) hl).trans h.fr, u, (hb.cell (p := p) hl).trans hu⟩
theorem str_set {W : World} {p q : Addr} {v : Value} (h : ∃ s : ByteArray, W.cell? p = some (.string s)) (hv : q = p → ∃ s : ByteArray, v = .string s) : ∃ s : ByteArray, (W.setCell q v).cell? p = some (.string s) := by
  obtain ⟨u, hu⟩ := h
  by_cases e : q = p
  · obtain ⟨s, rfl⟩ := hv e
    subst e
    exact ⟨s, World.cell?_setCell_same _ _ _ hu⟩
  · exact ⟨u, by rw [World.cell?_setCell_other _ _ _ _ e]; exact hu⟩
theorem any_set {W : World} {p q : Addr} {v : Value} (h : ∃ u, W.cell? p = some u) : ∃ u, (W.setCell q v).cell? p = some u := by
  obtain ⟨u, hu⟩ := h
  by_cases e : q = p
  · subst e
    exact ⟨v, World.cell?_setCell_same _ _ _ hu⟩
  · exact ⟨u, by rw [World.cell?_setCell_other _ _ _ _ e]; exact hu⟩
theorem PutS.set {B : Nat} {W : World} {p q : Addr} {v : Value} (h : PutS B W p) (hv : q = p → ∃ s : ByteArray, v = .string s ∧ s.size ≤ B) : PutS B (W.setCell q v) p := by
  obtain ⟨u, hu, hs⟩ := h.ex
  refine ⟨by rw [World.frozen?_setCell]; exact h.fr, ?_⟩
  by_cases e : q = p
  · obtain ⟨s, rfl, hs2⟩ := hv e
    subst e
    exact ⟨s, World.cell?_setCell_same _ _ _ hu, hs2⟩
  · exact ⟨u, by rw [World.cell?_setCell_other _ _ _ _ e]; exact hu, hs⟩
theorem PutI.set {W : World} {p q : Addr} {v : Value} (h : PutI W p) (hv : q = p → ∃ k : Int, v = .int .i64 k) : PutI (W.setCell q v) p := by
  obtain ⟨u, hu⟩ := h.ex
  refine ⟨by rw [World.frozen?_setCell]; exact h.fr, ?_⟩
  by_cases e : q = p
  · obtain ⟨s, rfl⟩ := hv e
    subst e
    exact ⟨s, World.cell?_setCell_same _ _ _ hu⟩
  · exact ⟨u, by rw [World.cell?_setCell_other _ _ _ _ e]; exact hu⟩
section
variable {τ : Nat → Nat} {lo hi B B' : Nat} {W W' : World} {A : Option Addr}
theorem FShp.set {D : List FieldD} (h : FShp τ lo hi B W A D) {q off : Nat} {v : Value} (hm : MayPut τ B' q off v) (hb : B ≤ B') : FShp τ lo hi B' (W.setCell ⟨q, off, none⟩ v) A D := by
  intro k d hd
  obtain ⟨g, hA, hl, ht, hf, h0, hc, hT, hC⟩ := h k d hd
  have hne : ∀ j, 0 < j → j < 15 → (⟨q, off, none⟩ : Addr) ≠ ⟨g, k * 15 + j, none⟩ := fun j hj hj2 e => by
    simp only [Addr.mk.injEq, and_true] at e
    obtain ⟨rfl, rfl⟩ := e
    rcases hm with ⟨h1, _⟩ | ⟨h1, _⟩ | ⟨_, ⟨k', h2⟩, _⟩ | ⟨h1, _⟩
    · rw [h1] at ht; exact absurd ht (by decide)
    · rw [h1] at ht; exact absurd ht (by decide)
    · omega
    · rw [h1] at ht; exact absurd ht (by decide)
  refine ⟨g, hA, hl, ht, fun o => by rw [World.frozen?_setCell]; exact hf o, str_set h0 (fun e => ?_), fun j u hj hu => ?_, fun n t hn => ?_, fun n c hn => ?_⟩
  · simp only [Addr.mk.injEq, and_true] at e
    obtain ⟨rfl, rfl⟩ := e
    rcases hm with ⟨h1, _⟩ | ⟨h1, _⟩ | ⟨_, _, h2⟩ | ⟨h1, _⟩
    · rw [h1] at ht; exact absurd ht (by decide)
    · rw [h1] at ht; exact absurd ht (by decide)
    · exact h2
    · rw [h1] at ht; exact absurd ht (by decide)
  · have hj2 : j < 15 := by
      have := (List.getElem?_eq_some_iff.1 hu).1
      simpa [FieldD.cells] using this
    rw [World.cell?_setCell_other _ _ _ _ (hne j hj hj2)]; exact hc j u hj hu
  · obtain ⟨g2, e, hl2, ht2, hp⟩ := hT n t hn
    refine ⟨g2, e, hl2, ht2, hp.set (fun e => ?_)⟩
    simp only [Addr.mk.injEq, and_true] at e
    obtain ⟨rfl, rfl⟩ := e
    rcases hm with ⟨h1, _⟩ | ⟨_, _, hk⟩ | ⟨h1, _⟩ | ⟨h1, _⟩
    · rw [h1] at ht2; exact absurd ht2 (by decide)
    · exact hk
    · rw [h1] at ht2; exact absurd ht2 (by decide)
    · rw [h1] at ht2; exact absurd ht2 (by decide)
  · obtain ⟨g2, e, hl2, ht2, hp⟩ := hC n c hn
    refine ⟨g2, e, hl2, ht2, (hp.mono hb).set (fun e => ?_)⟩
    simp only [Addr.mk.injEq, and_true] at e
    obtain ⟨rfl, rfl⟩ := e
    rcases hm with ⟨_, _, hk⟩ | ⟨h1, _⟩ | ⟨h1, _⟩ | ⟨h1, _⟩
    · exact hk
    · rw [h1] at ht2; exact absurd ht2 (by decide)
    · rw [h1] at ht2; exact absurd ht2 (by decide)
    · rw [h1] at ht2; exact absurd ht2 (by decide)
theorem CShp.set {D : List MsgD} (h : CShp τ lo hi B W A D) {q off : Nat} {v : Value} (hm : MayPut τ B' q off v) (hb : B ≤ B') : CShp τ lo hi B' (W.setCell ⟨q, off, none⟩ v) A D := by
  intro i m hd
  obtain ⟨g, hA, hl, ht, hf, h0, h1, hF⟩ := h i m hd
  refine ⟨g, hA, hl, ht, fun o => by rw [World.frozen?_setCell]; exact hf o, any_set h0, ?_, hF.set hm hb⟩
  rw [World.cell?_setCell_other _ _ _ _ (fun e => ?_)]
  · exact h1
  · simp only [Addr.mk.injEq, and_true] at e
    obtain ⟨rfl, rfl⟩ := e
    rcases hm with ⟨h1, _⟩ | ⟨h1, _⟩ | ⟨h1, _⟩ | ⟨_, k', h2⟩
    · rw [h1] at ht; exact absurd ht (by decide)
    · rw [h1] at ht; exact absurd ht (by decide)
    · rw [h1] at ht; exact absurd ht (by decide)
    · omega
theorem FShp.later {D : List FieldD} (h : FShp τ lo hi B W A D) (hb : Below W.heap.size W W') : FShp τ lo hi B W' A D := by
  intro k d hd
  obtain ⟨g, hA, hl, ht, hf, ⟨s, h0⟩, hc, hT, hC⟩ := h k d hd
  have hg : g < W.heap.size := World.block_lt_of_cell? _ _ h0
  refine ⟨g, hA, hl, ht, fun o => (hb.frozen (p := ⟨g, o, none⟩) hg).trans (hf o), ⟨s, (hb.cell (p := ⟨g, _, none⟩) hg).trans h0⟩, fun j u hj hu => (hb.cell (p := ⟨g, _, none⟩) hg).trans (hc j u hj hu), fun n t hn => ?_, fun n c hn => ?_⟩
  · obtain ⟨g2, e, hl2, ht2, hp⟩ := hT n t hn
    exact ⟨g2, e, hl2, ht2, hp.later hb⟩
  · obtain ⟨g2, e, hl2, ht2, hp⟩ := hC n c hn
    exact ⟨g2, e, hl2, ht2, hp.later hb⟩
theorem CShp.later {D : List MsgD} (h : CShp τ lo hi B W A D) (hb : Below W.heap.size W W') : CShp τ lo hi B W' A D := by
  intro i m hd
  obtain ⟨g, hA, hl, ht, hf, ⟨v, h0⟩, h1, hF⟩ := h i m hd
  have hg : g < W.heap.size := World.block_lt_of_cell? _ _ h1
  exact ⟨g, hA, hl, ht, fun o => (hb.frozen (p := ⟨g, o, none⟩) hg).trans (hf o), ⟨v, (hb.cell (p := ⟨g, _, none⟩) hg).trans h0⟩, (hb.cell (p := ⟨g, _, none⟩) hg).trans h1, hF.later hb⟩
end

section
variable {τ : Nat → Nat} {lo hi B : Nat} {W W' : World} {A : Option Addr} {S : Nat → Prop}
theorem PutS.rest {B : Nat} {W W' : World} {p : Addr} (h : PutS B W p) (hr : Rest S W W') (hs : ¬ S p.block) : PutS B W' p := by
  obtain ⟨u, hu, hl⟩ := h.ex
  have hlt := World.block_lt_of_cell? _ _ hu
  exact ⟨(hr.frozen (p := p) hlt hs).trans h.fr, u, (hr.cell (p := p) hlt hs).trans hu, hl⟩
theorem PutI.rest {W W' : World} {p : Addr} (h : PutI W p) (hr : Rest S W W') (hs : ¬ S p.block) : PutI W' p := by
  obtain ⟨u, hu⟩ := h.ex
  have hlt := World.block_lt_of_cell? _ _ hu
  exact ⟨(hr.frozen (p := p) hlt hs).trans h.fr, u, (hr.cell (p := p) hlt hs).trans hu⟩
theorem FShp.rest {D : List FieldD} (h : FShp τ lo hi B W A D) (hr : Rest S W W') (hs : ∀ k, lo ≤ k → k < hi → ¬ S k) : FShp τ lo hi B W' A D := by
  intro k d hd
  obtain ⟨g, hA, hl, ht, hf, ⟨s, h0⟩, hc, hT, hC⟩ := h k d hd
  have hg : g < W.heap.size := World.block_lt_of_cell? _ _ h0
  have hn := hs g hl.1 hl.2
  refine ⟨g, hA, hl, ht, fun o => (hr.frozen (p := ⟨g, o, none⟩) hg hn).trans (hf o), ⟨s, (hr.cell (p := ⟨g, _, none⟩) hg hn).trans h0⟩, fun j u hj hu => (hr.cell (p := ⟨g, _, none⟩) hg hn).trans (hc j u hj hu), fun n t hn => ?_, fun n c hn => ?_⟩
  · obtain ⟨g2, e, hl2, ht2, hp⟩ := hT n t hn
    exact ⟨g2, e, hl2, ht2, hp.rest hr (hs g2 hl2.1 hl2.2)⟩
  · obtain ⟨g2, e, hl2, ht2, hp⟩ := hC n c hn
    exact ⟨g2, e, hl2, ht2, hp.rest hr (hs g2 hl2.1 hl2.2)⟩
theorem CShp.rest {D : List MsgD} (h : CShp τ lo hi B W A D) (hr : Rest S W W') (hs : ∀ k, lo ≤ k → k < hi → ¬ S k) : CShp τ lo hi B W' A D := by
  intro i m hd
  obtain ⟨g, hA, hl, ht, hf, ⟨v, h0⟩, h1, hF⟩ := h i m hd
  have hg : g < W.heap.size := World.block_lt_of_cell? _ _ h1
  have hn := hs g hl.1 hl.2
  exact ⟨g, hA, hl, ht, fun o => (hr.frozen (p := ⟨g, o, none⟩) hg hn).trans (hf o), ⟨v, (hr.cell (p := ⟨g, _, none⟩) hg hn).trans h0⟩, (hr.cell (p := ⟨g, _, none⟩) hg hn).trans h1, hF.rest hr hs⟩
end

theorem FShp.mono {τ : Nat → Nat} {lo hi B B' : Nat} {W : World} {A : Option Addr} {D : List FieldD} (h : FShp τ lo hi B W A D) (hb : B ≤ B') : FShp τ lo hi B' W A D := by
  intro k d hd
  obtain ⟨g, hA, hl, ht, hf, h0, hc, hT, hC⟩ := h k d hd
  exact ⟨g, hA, hl, ht, hf, h0, hc, hT, fun n c hn => by
    obtain ⟨g2, e, hl2, ht2, hp⟩ := hC n c hn
    exact ⟨g2, e, hl2, ht2, hp.mono hb⟩⟩
theorem CShp.mono {τ : Nat → Nat} {lo hi B B' : Nat} {W : World} {A : Option Addr} {D : List MsgD} (h : CShp τ lo hi B W A D) (hb : B ≤ B') : CShp τ lo hi B' W A D := by
  intro i m hd
  obtain ⟨g, hA, hl, ht, hf, h0, h1, hF⟩ := h i m hd
  exact ⟨g, hA, hl, ht, hf, h0, h1, hF.mono hb⟩

/-- The type of a block. -/
def tyOf (W : World) (g : Nat) : Nat := match W.heap[g]? with | some (.cells _ t _) => t | _ => 0
theorem tyOf_eq {W : World} {g : Nat} {cs : Array Value} {t : Nat} {f : Nat × Nat} (h : W.heap[g]? = some (.cells cs t f)) : tyOf W g = t := by
  unfold tyOf
  rw [h]

theorem FShp.of_cop {lo hi B : Nat} {W : World} {m m' : MsgD} (h : CopM lo W m m') (hh : W.heap.size ≤ hi) (hz : ∀ d ∈ m.fields, ∀ c ∈ d.cases, c.of_.length ≤ B) : FShp (tyOf W) lo hi B W m'.fa m'.fields := by
  intro i d' hd'
  have hi2 : i < m.fields.length := by rw [← h.len]; exact (List.getElem?_eq_some_iff.1 hd').1
  have hmd : m.fields[i]? = some m.fields[i] := List.getElem?_eq_getElem hi2
  have hcf := h.cop i _ d' hmd hd'
  have hzd := hz _ (List.mem_of_getElem? hmd)
  have hrow := h.row
  rcases hrow.2 with ⟨_, hn⟩ | ⟨g, cap, cur, e, hg, hb, _⟩
  · have := (List.getElem?_eq_some_iff.1 hd').1
    omega
  · simp only [Value.slice.injEq] at e
    obtain ⟨g1, o1, e1, _, hx⟩ := h.ok.1.2.2 i d' hd'
    rw [e.1] at e1 ⊢
    simp only [Option.some.injEq, Addr.mk.injEq, and_true] at e1
    obtain ⟨rfl, rfl⟩ := e1
    have hlt := (Array.getElem?_eq_some_iff.1 hb).1
    have hx2 : ∀ j u, (FieldD.cells d')[j]? = some u → W.cell? ⟨g, i * 15 + j, none⟩ = some u := fun j u hu => by
      have := hx j u hu
      rwa [Nat.zero_add] at this
    refine ⟨g, rfl, ⟨hg, by omega⟩, tyOf_eq hb, fun q => by simp [World.frozen?, hb], ⟨_, hx2 0 _ rfl⟩, fun j u _ hu => hx2 j u hu, fun k t hk => ?_, fun k c hk => ?_⟩
    · rcases hcf.terms.2 with ⟨_, hn⟩ | ⟨g2, cap2, cur2, e2, hg2, hb2, _⟩
      · have := (List.getElem?_eq_some_iff.1 hk).1
        omega
      · simp only [Value.slice.injEq] at e2
        obtain ⟨g3, o3, e3, _, hy⟩ := hcf.ok.1.2.2 k t hk
        rw [e2.1] at e3 ⊢
        simp only [Option.some.injEq, Addr.mk.injEq, and_true] at e3
        obtain ⟨rfl, rfl⟩ := e3
        have hlt2 := (Array.getElem?_eq_some_iff.1 hb2).1
        have h1 := hy 1 _ rfl
        rw [Nat.zero_add] at h1
        exact ⟨g2, rfl, ⟨hg2, by omega⟩, tyOf_eq hb2, ⟨by simp [World.frozen?, hb2], _, h1⟩⟩
    · rcases hcf.cases.2 with ⟨_, hn⟩ | ⟨g2, cap2, cur2, e2, hg2, hb2, _⟩
      · have := (List.getElem?_eq_some_iff.1 hk).1
        omega
      · simp only [Value.slice.injEq] at e2
        obtain ⟨g3, o3, e3, _, hy⟩ := hcf.ok.2.2.2 k c hk
        rw [e2.1] at e3 ⊢
        simp only [Option.some.injEq, Addr.mk.injEq, and_true] at e3
        obtain ⟨rfl, rfl⟩ := e3
        have hlt2 := (Array.getElem?_eq_some_iff.1 hb2).1
        have h2 := hy 2 _ rfl
        rw [Nat.zero_add] at h2
        refine ⟨g2, rfl, ⟨hg2, by omega⟩, tyOf_eq hb2, ⟨by simp [World.frozen?, hb2], _, h2, ?_⟩⟩
        rw [strL_size]
        have hs := hcf.same
        refine hzd c ?_
        have hmem := List.mem_of_getElem? hk
        rw [hs] at hmem
        exact hmem
theorem CShp.of_cop {lo hi B : Nat} {W : World} {D D' : List MsgD} {A : Option Addr} (h : CopD lo W D A D') (hh : W.heap.size ≤ hi) (hz : ∀ m ∈ D, ∀ d ∈ m.fields, ∀ c ∈ d.cases, c.of_.length ≤ B) : CShp (tyOf W) lo hi B W A D' := by
  intro i m' hm'
  have hi2 : i < D.length := by rw [← h.len]; exact (List.getElem?_eq_some_iff.1 hm').1
  have hmd : D[i]? = some D[i] := List.getElem?_eq_getElem hi2
  have hcm := h.cop i _ m' hmd hm'
  rcases h.row.2 with ⟨_, hn⟩ | ⟨g, cap, cur, e, hg, hb, _⟩
  · omega
  · simp only [Value.slice.injEq] at e
    obtain ⟨g1, o1, e1, _, hx⟩ := h.ok.1.2.2 i m' hm'
    rw [e.1] at e1 ⊢
    simp only [Option.some.injEq, Addr.mk.injEq, and_true] at e1
    obtain ⟨rfl, rfl⟩ := e1
    have hlt := (Array.getElem?_eq_some_iff.1 hb).1
    have h0 := hx 0 _ rfl
    have h1 := hx 1 _ rfl
    rw [Nat.zero_add] at h0 h1
    exact ⟨g, rfl, ⟨hg, by omega⟩, tyOf_eq hb, fun q => by simp [World.frozen?, hb], ⟨_, h0⟩, h1, FShp.of_cop hcm hh (hz _ (List.mem_of_getElem? hmd))⟩
end Go.Proofs.YtbpkppmbbpoohaaGreat

namespace Go.Proofs.YtbpkppmbbpoohaaGreat
open Go.RowKit Go.Shelf

theorem eqL_symm {α : Type} {R : α → α → Bool} (hs : ∀ a b, R a b = R b a) : ∀ D E : List α, eqL R D E = eqL R E D
  | [], [] => rfl
  | [], _ :: _ => rfl
  | _ :: _, [] => rfl
  | a :: D, b :: E => by rw [eqL, eqL, hs a b, eqL_symm hs D E]
theorem sameP_symm {d e : FieldD} (h : sameP d e) : sameP e d := by
  obtain ⟨⟨h0, h1, h2, h3, h4, h5, h6, h7, h8, h9, h10, h11, h12, h13, h14⟩, h15, h16⟩ := h
  exact ⟨⟨h0.symm, h1.symm, h2.symm, h3.symm, h4.symm, h5.symm, h6.symm, h7.symm, h8.symm, h9.symm, h10.symm, h11.symm, h12.symm, h13.symm, h14.symm⟩, h15.symm, h16.symm⟩
theorem sameR_symm (d e : FieldD) : sameR d e = sameR e d := decide_eq_decide.2 ⟨sameP_symm, sameP_symm⟩
theorem sameM_symm (m n : MsgD) : sameM m n = sameM n m := by
  unfold sameM
  rw [eqL_symm sameR_symm, decide_eq_decide.2 (⟨Eq.symm, Eq.symm⟩ : m.name = n.name ↔ n.name = m.name)]
theorem sameD_symm (na st na2 st2 : List UInt8) (D D2 : List MsgD) : sameD na st na2 st2 D D2 = sameD na2 st2 na st D2 D := by
  unfold sameD
  rw [eqL_symm sameM_symm, decide_eq_decide.2 (⟨Eq.symm, Eq.symm⟩ : na = na2 ↔ na2 = na), decide_eq_decide.2 (⟨Eq.symm, Eq.symm⟩ : st = st2 ↔ st2 = st)]
theorem eqL_of {α : Type} {R : α → α → Bool} : ∀ D E : List α, E.length = D.length → (∀ (i : Nat) (a b : α), D[i]? = some a → E[i]? = some b → R a b = true) → eqL R D E = true
  | [], [], _, _ => rfl
  | [], _ :: _, h, _ => by simp at h
  | _ :: _, [], h, _ => by simp at h
  | a :: D, b :: E, h, hk => by
    rw [eqL, hk 0 a b rfl rfl, eqL_of D E (by simpa using h) (fun i x y hx hy => hk (i + 1) x y (by simpa using hx) (by simpa using hy))]
    rfl
theorem copF_same {lo : Nat} {W : World} {d d' : FieldD} (h : CopF lo W d d') : sameR d d' = true := by
  have := h.same
  unfold sameR
  apply decide_eq_true
  rw [this]
  exact ⟨⟨rfl, rfl, rfl, rfl, rfl, rfl, rfl, rfl, rfl, rfl, rfl, rfl, rfl, rfl, rfl⟩, rfl, rfl⟩
theorem copM_same {lo : Nat} {W : World} {m m' : MsgD} (h : CopM lo W m m') : sameM m m' = true := by
  unfold sameM
  rw [h.name, eqL_of _ _ h.len (fun i a b ha hb => copF_same (h.cop i a b ha hb))]
  simp
theorem copD_same {lo : Nat} {W : World} {D D' : List MsgD} {A : Option Addr} (h : CopD lo W D A D') (na st : List UInt8) : sameD na st na st D D' = true := by
  unfold sameD
  rw [eqL_of _ _ h.len (fun i a b ha hb => copM_same (h.cop i a b ha hb))]
  simp
theorem sum_mem : ∀ {D : List MsgD} {m : MsgD}, m ∈ D → m.fields.length ≤ sumF D
  | x :: D, m, h => by
    simp only [sumF, List.map_cons, List.sum_cons]
    rcases List.mem_cons.1 h with rfl | h
    · omega
    · have := sum_mem h
      unfold sumF at this
      omega
  | [], _, h => by simp at h
theorem slAt_free {α : Type} {cf : α → List Value} {s c : Nat} {S : Nat → Prop} {W : World} {A : Option Addr} {D : List α} (h : SlAt cf s S W A c D) : SlAt cf s (fun _ => False) W A c D :=
  ⟨h.1, h.2.1, fun i d hd => by
    obtain ⟨g, o, e, _, hx⟩ := h.2.2 i d hd
    exact ⟨g, o, e, fun x => x, hx⟩⟩
theorem fields_free {c : Nat} {S : Nat → Prop} {W : World} {A : Option Addr} {D : List FieldD} (h : FieldsAt S W A c D) : FieldsAt (fun _ => False) W A c D :=
  ⟨slAt_free h.1, fun d hd => ⟨slAt_free (h.2 d hd).1, slAt_free (h.2 d hd).2⟩⟩
theorem msgs_free {c : Nat} {S : Nat → Prop} {W : World} {A : Option Addr} {D : List MsgD} (h : MsgsAt S W A c D) : MsgsAt (fun _ => False) W A c D :=
  ⟨slAt_free h.1, fun d hd => fields_free (h.2 d hd)⟩
/-- A copy's fields, as few as those that were copied. -/
theorem copM_few {lo : Nat} {W : World} {m m' : MsgD} (h : CopM lo W m m') (hk : ∀ f ∈ m.fields, okF f) : ∀ f ∈ m'.fields, okF f := fun f hf => by
  obtain ⟨j, hj, e⟩ := List.getElem_of_mem hf
  have hj' : m'.fields[j]? = some f := by rw [List.getElem?_eq_getElem hj, e]
  have hl : j < m.fields.length := by rw [← h.len]; exact hj
  have := (h.cop j _ f (List.getElem?_eq_getElem hl) hj').same
  have h2 := hk _ (List.getElem_mem hl)
  rw [this]
  exact h2
theorem copD_few {lo : Nat} {W : World} {D D' : List MsgD} {A : Option Addr} (h : CopD lo W D A D') (hf : FitsP D) : D'.length ≤ 70 ∧ ∀ m ∈ D', m.fields.length ≤ 400 ∧ ∀ f ∈ m.fields, okF f := by
  refine ⟨by rw [h.len]; exact hf.1, fun m hm => ?_⟩
  obtain ⟨j, hj, e⟩ := List.getElem_of_mem hm
  have hj' : D'[j]? = some m := by rw [List.getElem?_eq_getElem hj, e]
  have hl : j < D.length := by rw [← h.len]; exact hj
  have hc := h.cop j _ m (List.getElem?_eq_getElem hl) hj'
  exact ⟨by have := sum_mem (List.getElem_mem hl); have := hf.2.1; rw [hc.len]; omega, copM_few hc (hf.2.2 _ (List.getElem_mem hl))⟩
end Go.Proofs.YtbpkppmbbpoohaaGreat

namespace Go.Proofs.YtbpkppmbbpoohaaGreat
open Go.RowKit Go.Shelf

set_option maxRecDepth 100000 in
set_option maxHeartbeats 12800000 in
theorem checksLaw_walk (na st : List UInt8) (A : Option Addr) (c : Nat) (D : List MsgD) (S : Nat → Prop) (w : World) (hD : MsgsAt S w A c D) (hS : ∀ k, w.heap.size ≤ k → S k) (hz : HSZ D) :
    Calls Tryz.prog 3 #[.agg #[.string (strL na), .slice A D.length c, .string (strL st)]] w fun e w' => e = .returned (.bool true) ∧ Below w.heap.size w w' := by
  have hdl : D.length ≤ 9223372036854775807 := Nat.le_trans hD.1.1 hD.1.2.1
  have hb1 := below_alloc w (.cells #[.string (strL na), .slice A D.length c, .string (strL st)] 24)
  have x1 : (w.alloc (.cells #[.string (strL na), .slice A D.length c, .string (strL st)] 24)).heap[w.heap.size]? = some (.cells #[.string (strL na), .slice A D.length c, .string (strL st)] 24 (0, 0)) := heap_alloc_new w _
  obtain ⟨b, eb⟩ : ∃ b, w.heap.size = b := ⟨_, rfl⟩
  obtain ⟨w1, hw1⟩ : ∃ w1, w.alloc (.cells #[.string (strL na), .slice A D.length c, .string (strL st)] 24) = w1 := ⟨_, rfl⟩
  rw [hw1] at hb1 x1
  have hS1 : ∀ wx : World, Below w1.heap.size w1 wx → ∀ k, wx.heap.size ≤ k → S k := fun wx hb k hk => hS k (by have := hb1.size; have := hb.size; omega)
  rw [eb] at x1
  have KD : Hid (∀ wx, Below w1.heap.size w1 wx → wx.cell? ⟨b, 0, none⟩ = some (.string (strL na)) ∧ wx.cell? ⟨b, 1, none⟩ = some (.slice A D.length c) ∧ wx.cell? ⟨b, 2, none⟩ = some (.string (strL st))) := Lib.hid (fun wx hb => by
    have h1 := (hb.block b (Array.getElem?_eq_some_iff.1 x1).1).trans x1
    exact ⟨by simp [World.cell?, h1], by simp [World.cell?, h1], by simp [World.cell?, h1]⟩)
  have K1 : Hid (∀ wx, Below w1.heap.size w1 wx → MsgsAt S wx A c D) := Lib.hid (fun wx hb => MsgsAt.rest hD (Rest.below (S := fun _ => False) (hb1.trans (hb.mono hb1.size))) (fun _ _ e => e.elim))
  have HKN : ∀ wx, Hid (Calls Tryz.prog 11 #[] wx fun e w' => e = .returned (.bool true) ∧ Below wx.heap.size wx w') := fun wx => Lib.hid (known_any wx)
  obtain ⟨r, hr⟩ : ∃ r, defAllR na st D = r := ⟨_, rfl⟩
  obtain ⟨⟨fm, ff, fc⟩, hfl⟩ : ∃ t, flawT r = t := ⟨_, rfl⟩
  obtain ⟨fd, hfd⟩ : ∃ fd, r.isSome = fd := ⟨_, rfl⟩
  have HCK : Hid (∀ wx, Below w1.heap.size w1 wx → Calls Tryz.prog 13 #[.agg #[.string (strL na), .slice A D.length c, .string (strL st)]] wx fun e w' => e = .returned (.tuple #[.agg #[.int .i64 fm, .int .i64 ff, .int .i64 fc], .bool fd]) ∧ Below wx.heap.size wx w') := Lib.hid (fun wx hb => by
    have := check_all na st A c D S wx (K1.out wx hb) (hS1 wx hb)
    rwa [hr, hfl, hfd] at this)
  have HRC : Hid (∀ wx, Below w1.heap.size w1 wx → Calls Tryz.prog 14 #[.agg #[.string (strL na), .slice A D.length c, .string (strL st)]] wx fun e w' => e = .returned (.tuple #[.agg #[.int .i64 fm, .int .i64 ff, .int .i64 fc], .bool fd]) ∧ Below wx.heap.size wx w') := Lib.hid (fun wx hb => by
    have := refCheck na st A c D S wx (K1.out wx hb)
    rwa [hr, hfl, hfd] at this)
  have HVL : Hid (∀ wx, Below w1.heap.size w1 wx → Calls Tryz.prog 15 #[.agg #[.string (strL na), .slice A D.length c, .string (strL st)]] wx fun e w' => e = .returned (.bool (!fd)) ∧ Below wx.heap.size wx w') := Lib.hid (fun wx hb => by
    have := valid_all na st A c D S wx (K1.out wx hb) (hS1 wx hb)
    rwa [hr, hfd] at this)
  have hcmp : ∀ w, (binOp .eql 30 (.agg #[.int .i64 fm, .int .i64 ff, .int .i64 fc]) (.agg #[.int .i64 fm, .int .i64 ff, .int .i64 fc])).run Tryz.prog w = .ok (.bool true) w := fun w => by
    simp [go_sem]
  have HW := Lib.hid hw1
  have EB := Lib.hid eb
  have HB1 := Lib.hid hb1
  have HZ := Lib.hid hz
  have HF1 := Lib.hid (fits_any na st A c D S w1 (K1.out w1 (Below.refl _ _)))
  obtain ⟨p0, p1, p2⟩ := KD.out w1 (Below.refl _ _)
  clear hD hS hz hb1 x1 eb hw1 hS1 hr hfl hfd
  go_enter Tryz.func3, Tryz.ntmps3
  go_upto_region 1 with fail
  rw [HW.out, EB.out]
  go_wp2_with fail
  refine HF1.out.mono ?_
  rintro e w2 ⟨fb, rfl, hfit, hb2⟩
  have HB2 := Lib.hid hb2
  have HFT := Lib.hid hfit
  clear hfit hb2 p0 p1 p2 HF1
  obtain ⟨p0, p1, p2⟩ := KD.out w2 HB2.out
  cases fb with
  | false =>
    go_wp2_with (go_at_call 11; refine ((HKN _).out).mono ?_; rintro e w3 ⟨rfl, hb3⟩)
    go_ret
    exact ⟨rfl, HB1.out.trans ((HB2.out.trans (hb3.mono HB2.out.size)).mono HB1.out.size)⟩
  | true =>
  have FIT := Lib.hid (HFT.out (by first | exact rfl | trivial) HZ.out)
  clear HFT
  have CFEW := Lib.hid (show ∀ m ∈ D, m.fields.length ≤ 1000000 ∧ ∀ d ∈ m.fields, d.terms.length ≤ 1000000 ∧ d.cases.length ≤ 1000000 from fun m hm => ⟨by
      have h1 := FIT.out.2.1
      have h2 := sum_mem hm
      omega, fun d hd => ⟨by have := (FIT.out.2.2 m hm d hd).2; omega, by have := (FIT.out.2.2 m hm d hd).1; omega⟩⟩)
  have HCP := Lib.hid (copyDef na st A c D S w2 (K1.out w2 HB2.out) (by have := FIT.out.1; omega) CFEW.out)
  go_wp2_with fail
  refine HCP.out.mono ?_
  rintro e w3 ⟨A', D', rfl, hc, hb3⟩
  have HB3 := Lib.hid (HB2.out.trans (hb3.mono HB2.out.size))
  have hal4 := below_alloc w3 (.cells #[.string (strL na), .slice A' D.length D.length, .string (strL st)] 24)
  have hx4 : (w3.alloc (.cells #[.string (strL na), .slice A' D.length D.length, .string (strL st)] 24)).heap[w3.heap.size]? = some (.cells #[.string (strL na), .slice A' D.length D.length, .string (strL st)] 24 (0, 0)) := heap_alloc_new w3 _
  obtain ⟨g4, eg4⟩ : ∃ g, w3.heap.size = g := ⟨_, rfl⟩
  obtain ⟨w4, hw4⟩ : ∃ w4, w3.alloc (.cells #[.string (strL na), .slice A' D.length D.length, .string (strL st)] 24) = w4 := ⟨_, rfl⟩
  rw [hw4] at hal4 hx4
  rw [eg4] at hx4
  have CP4 := Lib.hid (hc.below hal4)
  have K4 : Hid (∀ wx, Below w4.heap.size w4 wx → wx.cell? ⟨g4, 0, none⟩ = some (.string (strL na)) ∧ wx.cell? ⟨g4, 1, none⟩ = some (.slice A' D.length D.length) ∧ wx.cell? ⟨g4, 2, none⟩ = some (.string (strL st))) := Lib.hid (fun wx hb => by
    have h1 := (hb.block g4 (Array.getElem?_eq_some_iff.1 hx4).1).trans hx4
    exact ⟨by simp [World.cell?, h1], by simp [World.cell?, h1], by simp [World.cell?, h1]⟩)
  have HB4 := Lib.hid (HB3.out.trans (hal4.mono HB3.out.size))
  have W4 := Lib.hid hw4
  have EG4 := Lib.hid eg4
  clear hc hb3 hal4 hx4 eg4 hw4 p0 p1 p2 HCP
  go_upto_region 4 with fail
  rw [W4.out, EG4.out]
  obtain ⟨p0, p1, p2⟩ := KD.out w4 HB4.out
  go_wp2_with fail
  refine (HCK.out _ HB4.out).mono ?_
  rintro e w5 ⟨rfl, hb5⟩
  have hal6 := below_alloc w5 (.cells #[.int .i64 fm, .int .i64 ff, .int .i64 fc] 30)
  have hx6 : (w5.alloc (.cells #[.int .i64 fm, .int .i64 ff, .int .i64 fc] 30)).heap[w5.heap.size]? = some (.cells #[.int .i64 fm, .int .i64 ff, .int .i64 fc] 30 (0, 0)) := heap_alloc_new w5 _
  obtain ⟨g6, eg6⟩ : ∃ g, w5.heap.size = g := ⟨_, rfl⟩
  obtain ⟨w6, hw6⟩ : ∃ w6, w5.alloc (.cells #[.int .i64 fm, .int .i64 ff, .int .i64 fc] 30) = w6 := ⟨_, rfl⟩
  rw [hw6] at hal6 hx6
  rw [eg6] at hx6
  have HB46 := Lib.hid (hb5.trans (hal6.mono hb5.size))
  have HB6 := Lib.hid (HB4.out.trans (HB46.out.mono HB4.out.size))
  have X6 := Lib.hid (FlB.mk hx6)
  have W6 := Lib.hid hw6
  have EG6 := Lib.hid eg6
  clear hb5 hal6 hx6 eg6 hw6 p0 p1 p2
  go_upto_region 5 with fail
  rw [W6.out, EG6.out]
  obtain ⟨p0, p1, p2⟩ := KD.out w6 HB6.out
  go_wp2_with fail
  refine (HRC.out _ HB6.out).mono ?_
  rintro e w7 ⟨rfl, hb7⟩
  have hal8 := below_alloc w7 (.cells #[.int .i64 fm, .int .i64 ff, .int .i64 fc] 30)
  have hx8 : (w7.alloc (.cells #[.int .i64 fm, .int .i64 ff, .int .i64 fc] 30)).heap[w7.heap.size]? = some (.cells #[.int .i64 fm, .int .i64 ff, .int .i64 fc] 30 (0, 0)) := heap_alloc_new w7 _
  obtain ⟨g8, eg8⟩ : ∃ g, w7.heap.size = g := ⟨_, rfl⟩
  obtain ⟨w8, hw8⟩ : ∃ w8, w7.alloc (.cells #[.int .i64 fm, .int .i64 ff, .int .i64 fc] 30) = w8 := ⟨_, rfl⟩
  rw [hw8] at hal8 hx8
  rw [eg8] at hx8
  have HB68 := Lib.hid (hb7.trans (hal8.mono hb7.size))
  have HB48 := Lib.hid (HB46.out.trans (HB68.out.mono HB46.out.size))
  have HB8 := Lib.hid (HB6.out.trans (HB68.out.mono HB6.out.size))
  have X8 := Lib.hid (FlB.mk hx8)
  have X68 := Lib.hid (X6.out.rest (S := fun _ => False) (Rest.below HB68.out) (fun e => e))
  have W8 := Lib.hid hw8
  have EG8 := Lib.hid eg8
  clear hb7 hal8 hx8 eg8 hw8 p0 p1 p2
  go_upto_region 6 with fail
  rw [W8.out, EG8.out]
  obtain ⟨p0, p1, p2⟩ := KD.out w8 HB8.out
  have a0 := X68.out.c0
  have a1 := X68.out.c1
  have a2 := X68.out.c2
  have b0 := X8.out.c0
  have b1 := X8.out.c1
  have b2 := X8.out.c2
  have KDS : Hid (∀ wx, Below w8.heap.size w8 wx → (wx.cell? ⟨b, 0, none⟩ = some (.string (strL na)) ∧ wx.cell? ⟨b, 1, none⟩ = some (.slice A D.length c) ∧ wx.cell? ⟨b, 2, none⟩ = some (.string (strL st))) ∧ (wx.cell? ⟨g4, 0, none⟩ = some (.string (strL na)) ∧ wx.cell? ⟨g4, 1, none⟩ = some (.slice A' D.length D.length) ∧ wx.cell? ⟨g4, 2, none⟩ = some (.string (strL st)))) := Lib.hid (fun wx hb => ⟨KD.out wx (HB8.out.trans (hb.mono HB8.out.size)), K4.out wx (HB48.out.trans (hb.mono HB48.out.size))⟩)
  have HEQ : Hid (∀ wx, Below w8.heap.size w8 wx → Calls Tryz.prog 16 #[.agg #[.string (strL na), .slice A' D.length D.length, .string (strL st)], .agg #[.string (strL na), .slice A D.length c, .string (strL st)]] wx fun e w' => e = .returned (.bool true) ∧ Below wx.heap.size wx w') := Lib.hid (fun wx hb => by
    have h4 := CP4.out.below (HB48.out.trans (hb.mono HB48.out.size))
    have := refEqual_any na st na st A' A D.length c D' D (fun _ => False) wx (msgs_free h4.ok) (msgs_free (K1.out wx (HB8.out.trans (hb.mono HB8.out.size))))
    rw [CP4.out.len, sameD_symm, copD_same h4] at this
    exact this)
  cases fd
  all_goals
    go_wp2_with (first
      | (go_at_call 15; refine (HVL.out _ HB8.out).mono ?_; rintro e9 w9 ⟨rfl, hb9⟩; obtain ⟨⟨s0, s1, s2⟩, ⟨u0, u1, u2⟩⟩ := KDS.out w9 hb9; clear p0 p1 p2 a0 a1 a2 b0 b1 b2)
      | (go_at_call 16; refine (HEQ.out _ hb9).mono ?_; rintro e10 w10 ⟨rfl, hb10⟩; clear s0 s1 s2 u0 u1 u2)
      | (go_at_call 11; refine ((HKN _).out).mono ?_; rintro e11 w11 ⟨rfl, hb11⟩))
    go_ret
    exact ⟨rfl, HB1.out.trans ((((HB8.out.trans (hb9.mono HB8.out.size)).trans (hb10.mono (HB8.out.trans (hb9.mono HB8.out.size)).size)).trans (hb11.mono ((HB8.out.trans (hb9.mono HB8.out.size)).trans (hb10.mono (HB8.out.trans (hb9.mono HB8.out.size)).size)).size)).mono HB1.out.size)⟩
end Go.Proofs.YtbpkppmbbpoohaaGreat

namespace Go.Proofs.YtbpkppmbbpoohaaGreat
open Go.ChangeShapes Go.WideShapes Go.ChangeAt Go.RowKit Go.Joins Go.Deep

theorem Tryz.own : ownKnob Tryz.prog.godebug = none := by kernel_rfl
theorem Tryz.laidOut : laidOutB Tryz.prog = true := by kernel_rfl
theorem reach_le : reachBytes ≤ 140737488355328 := by decide
theorem hsz_of {D : List MsgD} (h : ∀ m ∈ D, MsgZ m) : HSZ D := fun i m hm => .inr (by
  have := (h m (List.mem_of_getElem? hm)).1
  have := reach_le
  omega)

set_option maxRecDepth 100000 in
theorem checks_lifted (os : Os) (started : os.Started) (H : Type) (enc : TypeId × Value → H) :
    ReturnsInHanded {} Tryz.checked os 3 .any (Rows.schemaChecksSpec.pre6 enc Tryz.prog Tryz.f3 Rows.schemaChecksRow.domain false) (Rows.schemaChecksSpec.post enc Tryz.prog Tryz.f3 false true false false) := by
  refine returnsInHanded_of_change_sized (C := Tryz.checked) Tryz.own started (by kernel_rfl) Tryz.func3
    (ChangeSpec.witness6 (enc := enc) (C := Tryz.checked) false ⟨#[], #[.agg #[.string ⟨#[]⟩, .slice none 0 0, .string ⟨#[]⟩]], []⟩ 12 (by kernel_rfl) (by kernel_rfl) (by kernel_rfl) (by kernel_rfl)) ?_
  intro W base args ds gs before hval0 hW hcnd hz _
  have hval : ∀ (j : Nat) t v, Tryz.f3.params[j]? = some t → args[j]? = some v → Value.okWide Tryz.prog W .any base t v := hval0
  have hW' := hW
  obtain ⟨p, q, hA0, hV, rfl, hfz, hnd⟩ := hW
  have hA : DataW.TrodAll enc Tryz.prog W 0 (fun _ => true) true Tryz.f3.params.toList args.toList ds p := hA0
  have hz2 : (DataW.weightsEach Tryz.prog (Tryz.f3.params.toList ++ Rows.schemaChecksSpec.plain.varTypes Tryz.prog) (ds ++ gs)).all (· ≤ reachBytes) = true := hz
  rw [Tryz.params3] at hA hval hz2
  obtain ⟨v0, d0, rfl, rfl, h0⟩ := trodAll_one hA
  obtain ⟨rfl, rfl⟩ := trodVars_none hV
  have z0 : Wok 24 (d0, p) := fun n hn => by
    have := List.all_eq_true.1 hz2 n (DataW.weights_mem_each (j := 0) rfl rfl n hn)
    simpa using this
  have h0k := h0
  obtain ⟨na, st, A, c, D, rfl, hD⟩ := arg_defz (hval 0 24 v0 rfl rfl) h0 z0
  have hlt0 : ∀ x ∈ p, x.block < W.heap.size := fun x hx => hW'.lt x (by simp [hx])
  clear hA0 hval0 hz hz2
  simp only [List.append_nil] at hW'
  have hwalk := checksLaw_walk na st A c D _ W hD.1 (fun k hk => hk) (hsz_of hD.2)
  refine hwalk.mono fun e W' ⟨he, hb⟩ => ?_
  subst he
  refine ⟨_, rfl, _, _, _, [], p, [], hW', ?_, ?_, rfl, hb.frame _, fun h => by cases h⟩
  · exact trodAll_mk1 (shut_bool Tryz.ob true)
  · exact trodAll_mk1 (Below.trod Tryz.laidOut (by kernel_rfl) (of_decide_eq_true (by kernel_rfl)) h0k hb hlt0)

theorem schemaChecks_holds : Rows.SchemaChecksSaid :=
  OpenClaim.holds_of_wide 3 Tryz.f3 rfl rfl rfl rfl rfl rfl rfl ⟨rfl, rfl, rfl, rfl, rfl⟩ rfl rfl rfl rfl rfl (by kernel_rfl) Tryz.func3 (by kernel_rfl)
    (of_decide_eq_true (by kernel_rfl)) (by unfold Func.isWrapper; first | (rw [if_pos (by decide +kernel)]; kernel_rfl) | (rw [if_neg (by decide +kernel)]; exact ⟨rfl, rfl⟩))
    (fun os started H enc _ => checks_lifted os started H enc)

#print axioms schemaChecks_holds
end Go.Proofs.YtbpkppmbbpoohaaGreat
