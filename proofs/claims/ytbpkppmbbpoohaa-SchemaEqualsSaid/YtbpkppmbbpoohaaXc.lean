/- What the writing into a copied definition leaves: texts, factors and names can be written, the lists lead where they led. No conditions beyond those named. -/
import Derived.Test.YtbpkppmbbpoohaaCd
namespace Go.Proofs.Ytbpkppmbbpoohaa
open Go.RowKit Go.Shelf

/-- A text that can be written, of a bounded length. -/
structure PutS (B : Nat) (W : World) (p : Addr) : Prop where
  fr : W.frozen? p = false
  ex : ∃ s : ByteArray, W.cell? p = some (.string s) ∧ s.size ≤ B
/-- A number that can be written. -/
structure PutI (W : World) (p : Addr) : Prop where
  fr : W.frozen? p = false
  ex : ∃ k : Int, W.cell? p = some (.int .i64 k)

/-- Fields that are written to. -/
def FShp (τ : Nat → Nat) (lo hi B : Nat) (W : World) (A : Option Addr) (D : List FieldD) : Prop :=
  ∀ (k : Nat) (d : FieldD), D[k]? = some d → ∃ g, A = some ⟨g, 0, none⟩ ∧ (lo ≤ g ∧ g < hi) ∧ τ g = 28 ∧ (∀ o, W.frozen? ⟨g, o, none⟩ = false) ∧ (∃ s : ByteArray, W.cell? ⟨g, k * 15, none⟩ = some (.string s)) ∧
    (∀ j u, 0 < j → (FieldD.cells d)[j]? = some u → W.cell? ⟨g, k * 15 + j, none⟩ = some u) ∧
    (∀ (n : Nat) (t : TermD), d.terms[n]? = some t → ∃ g2, d.ta = some ⟨g2, 0, none⟩ ∧ (lo ≤ g2 ∧ g2 < hi) ∧ τ g2 = 76 ∧ PutI W ⟨g2, n * 2 + 1, none⟩) ∧
    (∀ (n : Nat) (c : CaseD), d.cases[n]? = some c → ∃ g2, d.ca = some ⟨g2, 0, none⟩ ∧ (lo ≤ g2 ∧ g2 < hi) ∧ τ g2 = 62 ∧ PutS B W ⟨g2, n * 3 + 2, none⟩)
/-- Messages that are written to. -/
def CShp (τ : Nat → Nat) (lo hi B : Nat) (W : World) (A : Option Addr) (D : List MsgD) : Prop :=
  ∀ (i : Nat) (m : MsgD), D[i]? = some m → ∃ g, A = some ⟨g, 0, none⟩ ∧ (lo ≤ g ∧ g < hi) ∧ τ g = 50 ∧ (∀ o, W.frozen? ⟨g, o, none⟩ = false) ∧ (∃ v, W.cell? ⟨g, i * 2, none⟩ = some v) ∧
    W.cell? ⟨g, i * 2 + 1, none⟩ = some (.slice m.fa m.fields.length m.fc) ∧ FShp τ lo hi B W m.fa m.fields

/-- A place that may be written, and what may be written there. -/
def MayPut (τ : Nat → Nat) (B : Nat) (q off : Nat) (v : Value) : Prop :=
  (τ q = 62 ∧ (∃ n, off = n * 3 + 2) ∧ ∃ s : ByteArray, v = .string s ∧ s.size ≤ B) ∨ (τ q = 76 ∧ (∃ n, off = n * 2 + 1) ∧ ∃ k : Int, v = .int .i64 k) ∨ (τ q = 28 ∧ (∃ k, off = k * 15) ∧ ∃ s : ByteArray, v = .string s) ∨ (τ q = 50 ∧ ∃ i, off = i * 2)

theorem PutS.mono {B B' : Nat} {W : World} {p : Addr} (h : PutS B W p) (hb : B ≤ B') : PutS B' W p := by
  obtain ⟨s, h1, h2⟩ := h.ex
  exact ⟨h.fr, s, h1, by omega⟩
theorem PutS.later {B : Nat} {W W' : World} {p : Addr} (h : PutS B W p) (hb : Below W.heap.size W W') : PutS B W' p := by
  obtain ⟨u, hu, hs⟩ := h.ex
  have hl := World.block_lt_of_cell? _ _ hu
  exact ⟨(hb.frozen (p := p) hl).trans h.fr, u, (hb.cell (p := p) hl).trans hu, hs⟩
theorem PutI.later {W W' : World} {p : Addr} (h : PutI W p) (hb : Below W.heap.size W W') : PutI W' p := by
  obtain ⟨u, hu⟩ := h.ex
  have hl := World.block_lt_of_cell? _ _ hu
  exact ⟨(hb.frozen (p := p) hl).trans h.fr, u, (hb.cell (p := p) hl).trans hu⟩
theorem str_set {W : World} {p q : Addr} {v : Value} (h : ∃ s : ByteArray, W.cell? p = some (.string s)) (hv : q = p → ∃ s : ByteArray, v = .string s) : ∃ s : ByteArray, (W.setCell q v).cell? p = some (.string s) := by
  obtain ⟨u, hu⟩ := h
  by_cases e : q = p
  · obtain ⟨s, rfl⟩ := hv e
    subst e
    exact ⟨s, World.cell?_setCell_same _ _ _ hu⟩
  · exact ⟨u, by rw [World.cell?_setCell_other _ _ _ _ e]; exact hu⟩
theorem any_set {W : World} {p q : Addr} {v : Value} (h : ∃ u, W.cell? p = some u) : ∃ u, (W.setCell q v).cell? p = some u := by
  obtain ⟨u, hu⟩ := h
  by_cases e : q = p
  · subst e
    exact ⟨v, World.cell?_setCell_same _ _ _ hu⟩
  · exact ⟨u, by rw [World.cell?_setCell_other _ _ _ _ e]; exact hu⟩
theorem PutS.set {B : Nat} {W : World} {p q : Addr} {v : Value} (h : PutS B W p) (hv : q = p → ∃ s : ByteArray, v = .string s ∧ s.size ≤ B) : PutS B (W.setCell q v) p := by
  obtain ⟨u, hu, hs⟩ := h.ex
  refine ⟨by rw [World.frozen?_setCell]; exact h.fr, ?_⟩
  by_cases e : q = p
  · obtain ⟨s, rfl, hs2⟩ := hv e
    subst e
    exact ⟨s, World.cell?_setCell_same _ _ _ hu, hs2⟩
  · exact ⟨u, by rw [World.cell?_setCell_other _ _ _ _ e]; exact hu, hs⟩
theorem PutI.set {W : World} {p q : Addr} {v : Value} (h : PutI W p) (hv : q = p → ∃ k : Int, v = .int .i64 k) : PutI (W.setCell q v) p := by
  obtain ⟨u, hu⟩ := h.ex
  refine ⟨by rw [World.frozen?_setCell]; exact h.fr, ?_⟩
  by_cases e : q = p
  · obtain ⟨s, rfl⟩ := hv e
    subst e
    exact ⟨s, World.cell?_setCell_same _ _ _ hu⟩
  · exact ⟨u, by rw [World.cell?_setCell_other _ _ _ _ e]; exact hu⟩
section
variable {τ : Nat → Nat} {lo hi B B' : Nat} {W W' : World} {A : Option Addr}
theorem FShp.set {D : List FieldD} (h : FShp τ lo hi B W A D) {q off : Nat} {v : Value} (hm : MayPut τ B' q off v) (hb : B ≤ B') : FShp τ lo hi B' (W.setCell ⟨q, off, none⟩ v) A D := by
  intro k d hd
  obtain ⟨g, hA, hl, ht, hf, h0, hc, hT, hC⟩ := h k d hd
  have hne : ∀ j, 0 < j → j < 15 → (⟨q, off, none⟩ : Addr) ≠ ⟨g, k * 15 + j, none⟩ := fun j hj hj2 e => by
    simp only [Addr.mk.injEq, and_true] at e
    obtain ⟨rfl, rfl⟩ := e
    rcases hm with ⟨h1, _⟩ | ⟨h1, _⟩ | ⟨_, ⟨k', h2⟩, _⟩ | ⟨h1, _⟩
    · rw [h1] at ht; exact absurd ht (by decide)
    · rw [h1] at ht; exact absurd ht (by decide)
    · omega
    · rw [h1] at ht; exact absurd ht (by decide)
  refine ⟨g, hA, hl, ht, fun o => by rw [World.frozen?_setCell]; exact hf o, str_set h0 (fun e => ?_), fun j u hj hu => ?_, fun n t hn => ?_, fun n c hn => ?_⟩
  · simp only [Addr.mk.injEq, and_true] at e
    obtain ⟨rfl, rfl⟩ := e
    rcases hm with ⟨h1, _⟩ | ⟨h1, _⟩ | ⟨_, _, h2⟩ | ⟨h1, _⟩
    · rw [h1] at ht; exact absurd ht (by decide)
    · rw [h1] at ht; exact absurd ht (by decide)
    · exact h2
    · rw [h1] at ht; exact absurd ht (by decide)
  · have hj2 : j < 15 := by
      have := (List.getElem?_eq_some_iff.1 hu).1
      simpa [FieldD.cells] using this
    rw [World.cell?_setCell_other _ _ _ _ (hne j hj hj2)]; exact hc j u hj hu
  · obtain ⟨g2, e, hl2, ht2, hp⟩ := hT n t hn
    refine ⟨g2, e, hl2, ht2, hp.set (fun e => ?_)⟩
    simp only [Addr.mk.injEq, and_true] at e
    obtain ⟨rfl, rfl⟩ := e
    rcases hm with ⟨h1, _⟩ | ⟨_, _, hk⟩ | ⟨h1, _⟩ | ⟨h1, _⟩
    · rw [h1] at ht2; exact absurd ht2 (by decide)
    · exact hk
    · rw [h1] at ht2; exact absurd ht2 (by decide)
    · rw [h1] at ht2; exact absurd ht2 (by decide)
  · obtain ⟨g2, e, hl2, ht2, hp⟩ := hC n c hn
    refine ⟨g2, e, hl2, ht2, (hp.mono hb).set (fun e => ?_)⟩
    simp only [Addr.mk.injEq, and_true] at e
    obtain ⟨rfl, rfl⟩ := e
    rcases hm with ⟨_, _, hk⟩ | ⟨h1, _⟩ | ⟨h1, _⟩ | ⟨h1, _⟩
    · exact hk
    · rw [h1] at ht2; exact absurd ht2 (by decide)
    · rw [h1] at ht2; exact absurd ht2 (by decide)
    · rw [h1] at ht2; exact absurd ht2 (by decide)
theorem CShp.set {D : List MsgD} (h : CShp τ lo hi B W A D) {q off : Nat} {v : Value} (hm : MayPut τ B' q off v) (hb : B ≤ B') : CShp τ lo hi B' (W.setCell ⟨q, off, none⟩ v) A D := by
  intro i m hd
  obtain ⟨g, hA, hl, ht, hf, h0, h1, hF⟩ := h i m hd
  refine ⟨g, hA, hl, ht, fun o => by rw [World.frozen?_setCell]; exact hf o, any_set h0, ?_, hF.set hm hb⟩
  rw [World.cell?_setCell_other _ _ _ _ (fun e => ?_)]
  · exact h1
  · simp only [Addr.mk.injEq, and_true] at e
    obtain ⟨rfl, rfl⟩ := e
    rcases hm with ⟨h1, _⟩ | ⟨h1, _⟩ | ⟨h1, _⟩ | ⟨_, k', h2⟩
    · rw [h1] at ht; exact absurd ht (by decide)
    · rw [h1] at ht; exact absurd ht (by decide)
    · rw [h1] at ht; exact absurd ht (by decide)
    · omega
theorem FShp.later {D : List FieldD} (h : FShp τ lo hi B W A D) (hb : Below W.heap.size W W') : FShp τ lo hi B W' A D := by
  intro k d hd
  obtain ⟨g, hA, hl, ht, hf, ⟨s, h0⟩, hc, hT, hC⟩ := h k d hd
  have hg : g < W.heap.size := World.block_lt_of_cell? _ _ h0
  refine ⟨g, hA, hl, ht, fun o => (hb.frozen (p := ⟨g, o, none⟩) hg).trans (hf o), ⟨s, (hb.cell (p := ⟨g, _, none⟩) hg).trans h0⟩, fun j u hj hu => (hb.cell (p := ⟨g, _, none⟩) hg).trans (hc j u hj hu), fun n t hn => ?_, fun n c hn => ?_⟩
  · obtain ⟨g2, e, hl2, ht2, hp⟩ := hT n t hn
    exact ⟨g2, e, hl2, ht2, hp.later hb⟩
  · obtain ⟨g2, e, hl2, ht2, hp⟩ := hC n c hn
    exact ⟨g2, e, hl2, ht2, hp.later hb⟩
theorem CShp.later {D : List MsgD} (h : CShp τ lo hi B W A D) (hb : Below W.heap.size W W') : CShp τ lo hi B W' A D := by
  intro i m hd
  obtain ⟨g, hA, hl, ht, hf, ⟨v, h0⟩, h1, hF⟩ := h i m hd
  have hg : g < W.heap.size := World.block_lt_of_cell? _ _ h1
  exact ⟨g, hA, hl, ht, fun o => (hb.frozen (p := ⟨g, o, none⟩) hg).trans (hf o), ⟨v, (hb.cell (p := ⟨g, _, none⟩) hg).trans h0⟩, (hb.cell (p := ⟨g, _, none⟩) hg).trans h1, hF.later hb⟩
end

section
variable {τ : Nat → Nat} {lo hi B : Nat} {W W' : World} {A : Option Addr} {S : Nat → Prop}
theorem PutS.rest {B : Nat} {W W' : World} {p : Addr} (h : PutS B W p) (hr : Rest S W W') (hs : ¬ S p.block) : PutS B W' p := by
  obtain ⟨u, hu, hl⟩ := h.ex
  have hlt := World.block_lt_of_cell? _ _ hu
  exact ⟨(hr.frozen (p := p) hlt hs).trans h.fr, u, (hr.cell (p := p) hlt hs).trans hu, hl⟩
theorem PutI.rest {W W' : World} {p : Addr} (h : PutI W p) (hr : Rest S W W') (hs : ¬ S p.block) : PutI W' p := by
  obtain ⟨u, hu⟩ := h.ex
  have hlt := World.block_lt_of_cell? _ _ hu
  exact ⟨(hr.frozen (p := p) hlt hs).trans h.fr, u, (hr.cell (p := p) hlt hs).trans hu⟩
theorem FShp.rest {D : List FieldD} (h : FShp τ lo hi B W A D) (hr : Rest S W W') (hs : ∀ k, lo ≤ k → k < hi → ¬ S k) : FShp τ lo hi B W' A D := by
  intro k d hd
  obtain ⟨g, hA, hl, ht, hf, ⟨s, h0⟩, hc, hT, hC⟩ := h k d hd
  have hg : g < W.heap.size := World.block_lt_of_cell? _ _ h0
  have hn := hs g hl.1 hl.2
  refine ⟨g, hA, hl, ht, fun o => (hr.frozen (p := ⟨g, o, none⟩) hg hn).trans (hf o), ⟨s, (hr.cell (p := ⟨g, _, none⟩) hg hn).trans h0⟩, fun j u hj hu => (hr.cell (p := ⟨g, _, none⟩) hg hn).trans (hc j u hj hu), fun n t hn => ?_, fun n c hn => ?_⟩
  · obtain ⟨g2, e, hl2, ht2, hp⟩ := hT n t hn
    exact ⟨g2, e, hl2, ht2, hp.rest hr (hs g2 hl2.1 hl2.2)⟩
  · obtain ⟨g2, e, hl2, ht2, hp⟩ := hC n c hn
    exact ⟨g2, e, hl2, ht2, hp.rest hr (hs g2 hl2.1 hl2.2)⟩
theorem CShp.rest {D : List MsgD} (h : CShp τ lo hi B W A D) (hr : Rest S W W') (hs : ∀ k, lo ≤ k → k < hi → ¬ S k) : CShp τ lo hi B W' A D := by
  intro i m hd
  obtain ⟨g, hA, hl, ht, hf, ⟨v, h0⟩, h1, hF⟩ := h i m hd
  have hg : g < W.heap.size := World.block_lt_of_cell? _ _ h1
  have hn := hs g hl.1 hl.2
  exact ⟨g, hA, hl, ht, fun o => (hr.frozen (p := ⟨g, o, none⟩) hg hn).trans (hf o), ⟨v, (hr.cell (p := ⟨g, _, none⟩) hg hn).trans h0⟩, (hr.cell (p := ⟨g, _, none⟩) hg hn).trans h1, hF.rest hr hs⟩
end

theorem FShp.mono {τ : Nat → Nat} {lo hi B B' : Nat} {W : World} {A : Option Addr} {D : List FieldD} (h : FShp τ lo hi B W A D) (hb : B ≤ B') : FShp τ lo hi B' W A D := by
  intro k d hd
  obtain ⟨g, hA, hl, ht, hf, h0, hc, hT, hC⟩ := h k d hd
  exact ⟨g, hA, hl, ht, hf, h0, hc, hT, fun n c hn => by
    obtain ⟨g2, e, hl2, ht2, hp⟩ := hC n c hn
    exact ⟨g2, e, hl2, ht2, hp.mono hb⟩⟩
theorem CShp.mono {τ : Nat → Nat} {lo hi B B' : Nat} {W : World} {A : Option Addr} {D : List MsgD} (h : CShp τ lo hi B W A D) (hb : B ≤ B') : CShp τ lo hi B' W A D := by
  intro i m hd
  obtain ⟨g, hA, hl, ht, hf, h0, h1, hF⟩ := h i m hd
  exact ⟨g, hA, hl, ht, hf, h0, h1, hF.mono hb⟩

/-- The type of a block. -/
def tyOf (W : World) (g : Nat) : Nat := match W.heap[g]? with | some (.cells _ t _) => t | _ => 0
theorem tyOf_eq {W : World} {g : Nat} {cs : Array Value} {t : Nat} {f : Nat × Nat} (h : W.heap[g]? = some (.cells cs t f)) : tyOf W g = t := by
  unfold tyOf
  rw [h]

theorem FShp.of_cop {lo hi B : Nat} {W : World} {m m' : MsgD} (h : CopM lo W m m') (hh : W.heap.size ≤ hi) (hz : ∀ d ∈ m.fields, ∀ c ∈ d.cases, c.of_.length ≤ B) : FShp (tyOf W) lo hi B W m'.fa m'.fields := by
  intro i d' hd'
  have hi2 : i < m.fields.length := by rw [← h.len]; exact (List.getElem?_eq_some_iff.1 hd').1
  have hmd : m.fields[i]? = some m.fields[i] := List.getElem?_eq_getElem hi2
  have hcf := h.cop i _ d' hmd hd'
  have hzd := hz _ (List.mem_of_getElem? hmd)
  have hrow := h.row
  rcases hrow.2 with ⟨_, hn⟩ | ⟨g, cap, cur, e, hg, hb, _⟩
  · have := (List.getElem?_eq_some_iff.1 hd').1
    omega
  · simp only [Value.slice.injEq] at e
    obtain ⟨g1, o1, e1, _, hx⟩ := h.ok.1.2.2 i d' hd'
    rw [e.1] at e1 ⊢
    simp only [Option.some.injEq, Addr.mk.injEq, and_true] at e1
    obtain ⟨rfl, rfl⟩ := e1
    have hlt := (Array.getElem?_eq_some_iff.1 hb).1
    have hx2 : ∀ j u, (FieldD.cells d')[j]? = some u → W.cell? ⟨g, i * 15 + j, none⟩ = some u := fun j u hu => by
      have := hx j u hu
      rwa [Nat.zero_add] at this
    refine ⟨g, rfl, ⟨hg, by omega⟩, tyOf_eq hb, fun q => by simp [World.frozen?, hb], ⟨_, hx2 0 _ rfl⟩, fun j u _ hu => hx2 j u hu, fun k t hk => ?_, fun k c hk => ?_⟩
    · rcases hcf.terms.2 with ⟨_, hn⟩ | ⟨g2, cap2, cur2, e2, hg2, hb2, _⟩
      · have := (List.getElem?_eq_some_iff.1 hk).1
        omega
      · simp only [Value.slice.injEq] at e2
        obtain ⟨g3, o3, e3, _, hy⟩ := hcf.ok.1.2.2 k t hk
        rw [e2.1] at e3 ⊢
        simp only [Option.some.injEq, Addr.mk.injEq, and_true] at e3
        obtain ⟨rfl, rfl⟩ := e3
        have hlt2 := (Array.getElem?_eq_some_iff.1 hb2).1
        have h1 := hy 1 _ rfl
        rw [Nat.zero_add] at h1
        exact ⟨g2, rfl, ⟨hg2, by omega⟩, tyOf_eq hb2, ⟨by simp [World.frozen?, hb2], _, h1⟩⟩
    · rcases hcf.cases.2 with ⟨_, hn⟩ | ⟨g2, cap2, cur2, e2, hg2, hb2, _⟩
      · have := (List.getElem?_eq_some_iff.1 hk).1
        omega
      · simp only [Value.slice.injEq] at e2
        obtain ⟨g3, o3, e3, _, hy⟩ := hcf.ok.2.2.2 k c hk
        rw [e2.1] at e3 ⊢
        simp only [Option.some.injEq, Addr.mk.injEq, and_true] at e3
        obtain ⟨rfl, rfl⟩ := e3
        have hlt2 := (Array.getElem?_eq_some_iff.1 hb2).1
        have h2 := hy 2 _ rfl
        rw [Nat.zero_add] at h2
        refine ⟨g2, rfl, ⟨hg2, by omega⟩, tyOf_eq hb2, ⟨by simp [World.frozen?, hb2], _, h2, ?_⟩⟩
        rw [strL_size]
        have hs := hcf.same
        refine hzd c ?_
        have hmem := List.mem_of_getElem? hk
        rw [hs] at hmem
        exact hmem
theorem CShp.of_cop {lo hi B : Nat} {W : World} {D D' : List MsgD} {A : Option Addr} (h : CopD lo W D A D') (hh : W.heap.size ≤ hi) (hz : ∀ m ∈ D, ∀ d ∈ m.fields, ∀ c ∈ d.cases, c.of_.length ≤ B) : CShp (tyOf W) lo hi B W A D' := by
  intro i m' hm'
  have hi2 : i < D.length := by rw [← h.len]; exact (List.getElem?_eq_some_iff.1 hm').1
  have hmd : D[i]? = some D[i] := List.getElem?_eq_getElem hi2
  have hcm := h.cop i _ m' hmd hm'
  rcases h.row.2 with ⟨_, hn⟩ | ⟨g, cap, cur, e, hg, hb, _⟩
  · omega
  · simp only [Value.slice.injEq] at e
    obtain ⟨g1, o1, e1, _, hx⟩ := h.ok.1.2.2 i m' hm'
    rw [e.1] at e1 ⊢
    simp only [Option.some.injEq, Addr.mk.injEq, and_true] at e1
    obtain ⟨rfl, rfl⟩ := e1
    have hlt := (Array.getElem?_eq_some_iff.1 hb).1
    have h0 := hx 0 _ rfl
    have h1 := hx 1 _ rfl
    rw [Nat.zero_add] at h0 h1
    exact ⟨g, rfl, ⟨hg, by omega⟩, tyOf_eq hb, fun q => by simp [World.frozen?, hb], ⟨_, h0⟩, h1, FShp.of_cop hcm hh (hz _ (List.mem_of_getElem? hmd))⟩
end Go.Proofs.Ytbpkppmbbpoohaa
