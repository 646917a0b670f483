/- Facts for the walk of SchemaRefers: bounds of targets, a copy's targets, a message in a row of one, what writing into the copy leaves. No conditions beyond those named. -/
import Derived.Test.YtbpkppmbbpoohaaTb
import Derived.Test.YtbpkppmbbpoohaaCd
import Derived.Test.YtbpkppmbbpoohaaFb
namespace Go.Proofs.Ytbpkppmbbpoohaa
open Go.RowKit Go.Shelf

theorem targB_le (d : FieldD) (h : d.cases.length ≤ 50) : (targB d).length ≤ 50 := by
  unfold targB
  split
  · simpa using h
  · split <;> simp
theorem targs_len : ∀ (fs : List FieldD), (∀ f ∈ fs, okF f) → (fs.flatMap targB).length ≤ 50 * fs.length
  | [], _ => by simp
  | f :: fs, h => by
    rw [List.flatMap_cons, List.length_append, List.length_cons]
    have h1 := targB_le f (h f (by simp)).1
    have h2 := targs_len fs (fun x hx => h x (by simp [hx]))
    omega
theorem flat_same : ∀ (fs gs : List FieldD), gs.length = fs.length → (∀ (j : Nat) (d d' : FieldD), fs[j]? = some d → gs[j]? = some d' → targB d' = targB d) → gs.flatMap targB = fs.flatMap targB
  | [], [], _, _ => rfl
  | [], _ :: _, h, _ => by simp at h
  | _ :: _, [], h, _ => by simp at h
  | f :: fs, g :: gs, h, hk => by
    rw [List.flatMap_cons, List.flatMap_cons, hk 0 f g rfl rfl, flat_same fs gs (by simpa using h) (fun j d d' a b => hk (j + 1) d d' (by simpa using a) (by simpa using b))]
theorem cop_refs {lo : Nat} {W : World} {m m' : MsgD} (h : CopM lo W m m') : m'.fields.flatMap targB = m.fields.flatMap targB :=
  flat_same _ _ h.len (fun j d d' a b => by
    have := (h.cop j d d' a b).same
    rw [this]
    rfl)
theorem cop_few {lo : Nat} {W : World} {m m' : MsgD} (h : CopM lo W m m') (hk : ∀ f ∈ m.fields, okF f) : ∀ f ∈ m'.fields, okF f := fun f hf => by
  obtain ⟨j, hj, e⟩ := List.getElem_of_mem hf
  have hj' : m'.fields[j]? = some f := by rw [List.getElem?_eq_getElem hj, e]
  have hl : j < m.fields.length := by rw [← h.len]; exact hj
  have := (h.cop j _ f (List.getElem?_eq_getElem hl) hj').same
  have h2 := hk _ (List.getElem_mem hl)
  rw [this]
  exact h2

/-- One message in a block of its own, as a slice. -/
theorem msgs_one {S : Nat → Prop} {W : World} {g : Nat} {m : MsgD} (h : W.heap[g]? = some (.cells #[.string (strL m.name), .slice m.fa m.fields.length m.fc] 50 (0, 0))) (hs : ¬ S g) (hm : MsgOk S W m) : MsgsAt S W (some ⟨g, 0, none⟩) 1 [m] := by
  refine ⟨⟨Nat.le_refl _, by omega, fun i d hi => ?_⟩, fun d hd => ?_⟩
  · have h0 : i = 0 := by
      have := (List.getElem?_eq_some_iff.1 hi).1
      simp at this; omega
    subst h0
    simp only [List.getElem?_cons_zero, Option.some.injEq] at hi
    subst hi
    refine ⟨g, 0, rfl, hs, fun j u hj => ?_⟩
    match j, hj with
    | 0, hj => simp only [MsgD.cells, List.getElem?_cons_zero, Option.some.injEq] at hj; subst hj; simp [World.cell?, h]
    | 1, hj => simp only [MsgD.cells, List.getElem?_cons_succ, List.getElem?_cons_zero, Option.some.injEq] at hj; subst hj; simp [World.cell?, h]
    | j + 2, hj => simp [MsgD.cells] at hj
  · simp only [List.mem_singleton] at hd
    subst hd
    exact hm

/-- A cell that can be written. -/
structure Put (W : World) (p : Addr) : Prop where
  fr : W.frozen? p = false
  ex : ∃ v, W.cell? p = some v
theorem Put.set {W : World} {p : Addr} (h : Put W p) (q : Addr) (v : Value) : Put (W.setCell q v) p := by
  obtain ⟨u, hu⟩ := h.ex
  refine ⟨by rw [World.frozen?_setCell]; exact h.fr, ?_⟩
  by_cases e : q = p
  · subst e
    exact ⟨v, World.cell?_setCell_same _ _ _ hu⟩
  · exact ⟨u, by rw [World.cell?_setCell_other _ _ _ _ e]; exact hu⟩

/-- What the writing into the copy leaves. -/
def Shp (lo hi : Nat) (W : World) (A : Option Addr) (D : List FieldD) : Prop :=
  ∀ (i : Nat) (d : FieldD), D[i]? = some d → ∃ g o, A = some ⟨g, o, none⟩ ∧ (lo ≤ g ∧ g < hi) ∧ Put W ⟨g, o + i * 15 + 9, none⟩ ∧ W.cell? ⟨g, o + i * 15 + 12, none⟩ = some (.slice d.ca d.cases.length d.cc) ∧
    ∀ (k : Nat) (c : CaseD), d.cases[k]? = some c → ∃ g2 o2, d.ca = some ⟨g2, o2, none⟩ ∧ (lo ≤ g2 ∧ g2 < hi) ∧ g2 ≠ g ∧ Put W ⟨g2, o2 + k * 3 + 2, none⟩
theorem Shp.setOf {lo hi : Nat} {W : World} {g o : Nat} {D : List FieldD} (h : Shp lo hi W (some ⟨g, o, none⟩) D) (i : Nat) (v : Value) : Shp lo hi (W.setCell ⟨g, o + i * 15 + 9, none⟩ v) (some ⟨g, o, none⟩) D := by
  intro j d hd
  obtain ⟨g1, o1, e1, hl, hp, hc, hk⟩ := h j d hd
  simp only [Option.some.injEq, Addr.mk.injEq, and_true] at e1
  obtain ⟨rfl, rfl⟩ := e1
  refine ⟨g, o, rfl, hl, hp.set _ _, ?_, fun k c hc2 => ?_⟩
  · rw [World.cell?_setCell_other _ _ _ _ (fun e => by simp only [Addr.mk.injEq] at e; omega)]
    exact hc
  · obtain ⟨g2, o2, e2, hl2, hn, hp2⟩ := hk k c hc2
    exact ⟨g2, o2, e2, hl2, hn, hp2.set _ _⟩
theorem Shp.setCase {lo hi : Nat} {W : World} {g o g2 : Nat} {D : List FieldD} (h : Shp lo hi W (some ⟨g, o, none⟩) D) (hne : g2 ≠ g) (off : Nat) (v : Value) : Shp lo hi (W.setCell ⟨g2, off, none⟩ v) (some ⟨g, o, none⟩) D := by
  intro j d hd
  obtain ⟨g1, o1, e1, hl, hp, hc, hk⟩ := h j d hd
  simp only [Option.some.injEq, Addr.mk.injEq, and_true] at e1
  obtain ⟨rfl, rfl⟩ := e1
  refine ⟨g, o, rfl, hl, hp.set _ _, ?_, fun k c hc2 => ?_⟩
  · rw [World.cell?_setCell_other _ _ _ _ (fun e => hne (by simp only [Addr.mk.injEq] at e; exact e.1))]
    exact hc
  · obtain ⟨g3, o3, e3, hl3, hn, hp3⟩ := hk k c hc2
    exact ⟨g3, o3, e3, hl3, hn, hp3.set _ _⟩
theorem Put.later {W W' : World} {p : Addr} (h : Put W p) (hb : Below W.heap.size W W') : Put W' p := by
  obtain ⟨u, hu⟩ := h.ex
  have hl := World.block_lt_of_cell? _ _ hu
  exact ⟨(hb.frozen (p := p) hl).trans h.fr, ⟨u, (hb.cell (p := p) hl).trans hu⟩⟩
theorem Shp.later {lo hi : Nat} {W W' : World} {A : Option Addr} {D : List FieldD} (h : Shp lo hi W A D) (hb : Below W.heap.size W W') : Shp lo hi W' A D := by
  intro i d hd
  obtain ⟨g, o, e, hl, hp, hc, hk⟩ := h i d hd
  refine ⟨g, o, e, hl, hp.later hb, (hb.cell (p := ⟨g, o + i * 15 + 12, none⟩) (World.block_lt_of_cell? _ _ hc)).trans hc, fun k c hc2 => ?_⟩
  obtain ⟨g2, o2, e2, hl2, hn, hp2⟩ := hk k c hc2
  exact ⟨g2, o2, e2, hl2, hn, hp2.later hb⟩
theorem Shp.of_cop {lo hi : Nat} {W : World} {m m' : MsgD} (h : CopM lo W m m') (hh : W.heap.size ≤ hi) : Shp lo hi W m'.fa m'.fields := by
  intro i d' hd'
  have hi2 : i < m.fields.length := by rw [← h.len]; exact (List.getElem?_eq_some_iff.1 hd').1
  have hcf := h.cop i _ d' (List.getElem?_eq_getElem hi2) hd'
  have hrow := h.row
  rcases hrow.2 with ⟨_, hn⟩ | ⟨g, cap, cur, e, hg, hb, _⟩
  · have := (List.getElem?_eq_some_iff.1 hd').1
    omega
  · simp only [Value.slice.injEq] at e
    obtain ⟨g1, o1, e1, _, hx⟩ := h.ok.1.2.2 i d' hd'
    rw [e.1] at e1 ⊢
    simp only [Option.some.injEq, Addr.mk.injEq, and_true] at e1
    obtain ⟨rfl, rfl⟩ := e1
    have hlt := (Array.getElem?_eq_some_iff.1 hb).1
    have hfz : ∀ q, W.frozen? ⟨g, q, none⟩ = false := fun q => by simp [World.frozen?, hb]
    refine ⟨g, 0, rfl, ⟨hg, by omega⟩, ⟨hfz _, ⟨_, hx 9 _ rfl⟩⟩, hx 12 _ rfl, fun k c hk => ?_⟩
    rcases hcf.cases.2 with ⟨_, hn⟩ | ⟨g2, cap2, cur2, e2, hg2, hb2, _⟩
    · have := (List.getElem?_eq_some_iff.1 hk).1
      omega
    · simp only [Value.slice.injEq] at e2
      obtain ⟨g3, o3, e3, _, hy⟩ := hcf.ok.2.2.2 k c hk
      rw [e2.1] at e3 ⊢
      simp only [Option.some.injEq, Addr.mk.injEq, and_true] at e3
      obtain ⟨rfl, rfl⟩ := e3
      have hlt2 := (Array.getElem?_eq_some_iff.1 hb2).1
      refine ⟨g2, 0, rfl, ⟨hg2, by omega⟩, fun e => ?_, ⟨by simp [World.frozen?, hb2], ⟨_, hy 2 _ rfl⟩⟩⟩
      rw [e, hb] at hb2
      simp only [Option.some.injEq, Obj.cells.injEq] at hb2
      exact absurd hb2.2.1 (by decide)
end Go.Proofs.Ytbpkppmbbpoohaa
