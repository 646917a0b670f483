/- A reader in memory: its tokens, its end; whether there is one, the next token. Conditions: the reader lies in memory, its end's line is not 0. -/
import Derived.Test.YtgdjfifnnhfonaaTs
import Derived.Test.YtgdjfifnnhfonaaX
namespace Go.Proofs.Ytgdjfifnnhfonaa
open Go.RowKit Go.Shelf

/-- Elements of s cells each in a slice, in blocks that are not of S. -/
def SlAt {α : Type} (cs : α → List Value) (s : Nat) (S : Nat → Prop) (W : World) (A : Option Addr) (c : Nat) (D : List α) : Prop :=
  D.length ≤ c ∧ c ≤ 9223372036854775807 ∧ ∀ (i : Nat) (d : α), D[i]? = some d → ∃ g o, A = some ⟨g, o, none⟩ ∧ ¬ S g ∧ ∀ j u, (cs d)[j]? = some u → W.cell? ⟨g, o + i * s + j, none⟩ = some u

section
variable {α : Type} {cs : α → List Value} {s c : Nat} {S : Nat → Prop} {W W' : World} {A : Option Addr} {D : List α} {d : α}
theorem SlAt.rest {T : Nat → Prop} (h : SlAt cs s S W A c D) (hr : Rest T W W') (hT : ∀ i, i < W.heap.size → T i → S i) : SlAt cs s S W' A c D := by
  refine ⟨h.1, h.2.1, fun i d hi => ?_⟩
  obtain ⟨g, o, hA, hS, hc⟩ := h.2.2 i d hi
  refine ⟨g, o, hA, hS, fun j u hu => ?_⟩
  have hcc := hc j u hu
  have hlt := World.block_lt_of_cell? _ _ hcc
  exact (hr.cell (p := ⟨g, o + i * s + j, none⟩) hlt (fun e => hS (hT g hlt e))).trans hcc
theorem SlAt.below (h : SlAt cs s S W A c D) (hb : Below W.heap.size W W') : SlAt cs s S W' A c D := h.rest (T := fun _ => False) (Rest.below hb) (fun _ _ e => e.elim)
theorem SlAt.head (h : SlAt cs s S W A c (d :: D)) : ∃ g o, A = some ⟨g, o, none⟩ ∧ ¬ S g ∧ ∀ j u, (cs d)[j]? = some u → W.cell? ⟨g, o + j, none⟩ = some u := by
  obtain ⟨g, o, hA, hS, hc⟩ := h.2.2 0 d rfl
  refine ⟨g, o, hA, hS, fun j u hu => ?_⟩
  have := hc j u hu
  rw [Nat.zero_mul, Nat.add_zero] at this
  exact this
theorem SlAt.last (h : SlAt cs s S W A 1 (d :: D)) (A' : Option Addr) : D = [] ∧ SlAt cs s S W A' 0 D := by
  have h0 : D = [] := by
    have := h.1
    simp only [List.length_cons] at this
    exact List.length_eq_zero_iff.1 (by omega)
  subst h0
  exact ⟨rfl, Nat.le_refl _, by omega, fun i d hi => by simp at hi⟩
theorem SlAt.tail {g o : Nat} (h : SlAt cs s S W (some ⟨g, o, none⟩) c (d :: D)) : SlAt cs s S W (some ⟨g, o + s, none⟩) (c - 1) D := by
  have h1 := h.1
  have h2 := h.2.1
  simp only [List.length_cons] at h1
  refine ⟨by omega, by omega, fun i e hi => ?_⟩
  obtain ⟨g', o', hA, hS, hc⟩ := h.2.2 (i + 1) e (by simpa using hi)
  simp only [Option.some.injEq, Addr.mk.injEq, and_true] at hA
  obtain ⟨rfl, rfl⟩ := hA
  refine ⟨g, o + s, rfl, hS, fun j u hu => ?_⟩
  have := hc j u hu
  rw [show o + s + i * s + j = o + (i + 1) * s + j by rw [Nat.add_mul]; omega]
  exact this
/-- A row as a slice. -/
theorem slAt_row {base n : Nat} {t : TypeId} (h : W.ownsRow base t s (.slice A n c) n (D.flatMap cs)) (hn : n = D.length) (hget : ∀ (i : Nat) (d : α), D[i]? = some d → ∀ j, j < s → (D.flatMap cs)[i * s + j]? = (cs d)[j]?) (hlen : ∀ d, (cs d).length = s) (hS : ∀ k, A.map (·.block) = some k → ¬ S k) : SlAt cs s S W A c D := by
  subst hn
  rcases h.2 with ⟨hv, h0⟩ | ⟨g, cap, cur, hv, _, hg, h1, h2, h3, h4⟩
  · simp only [Value.slice.injEq] at hv
    obtain ⟨rfl, h5, rfl⟩ := hv
    have hD : D = [] := List.length_eq_zero_iff.1 h5
    subst hD
    exact ⟨Nat.le_refl _, by omega, fun i d hi => by simp at hi⟩
  · simp only [Value.slice.injEq, true_and] at hv
    obtain ⟨rfl, rfl⟩ := hv
    refine ⟨h1, h2, fun i d hi => ⟨g, 0, rfl, hS g rfl, fun j u hu => ?_⟩⟩
    have hj : j < s := by
      have := (List.getElem?_eq_some_iff.1 hu).1
      rwa [hlen] at this
    have hh := hget i d hi j hj
    rw [hu, ← h4, List.getElem?_take] at hh
    split at hh
    · rw [Nat.zero_add]
      simp only [World.cell?, hg]
      simpa using hh
    · cases hh
end

/-- A reader's three cells. -/
structure RdAt (W : World) (p : Nat) (A : Option Addr) (n c : Nat) (E : Nat × Nat) : Prop where
  obj : W.heap[p]? = some (.cells #[.slice A n c, .int .i64 E.1, .int .i64 E.2] 69 (0, 0))
section
variable {W W' : World} {p n c : Nat} {A : Option Addr} {E : Nat × Nat}
theorem RdAt.lt (h : RdAt W p A n c E) : p < W.heap.size := (Array.getElem?_eq_some_iff.1 h.obj).1
theorem RdAt.c0 (h : RdAt W p A n c E) : W.cell? ⟨p, 0, none⟩ = some (.slice A n c) := by simp [World.cell?, h.obj]
theorem RdAt.c1 (h : RdAt W p A n c E) : W.cell? ⟨p, 1, none⟩ = some (.int .i64 E.1) := by simp [World.cell?, h.obj]
theorem RdAt.c2 (h : RdAt W p A n c E) : W.cell? ⟨p, 2, none⟩ = some (.int .i64 E.2) := by simp [World.cell?, h.obj]
theorem RdAt.fr (h : RdAt W p A n c E) (o : Nat) : W.frozen? ⟨p, o, none⟩ = false := by simp [World.frozen?, h.obj]
theorem RdAt.below {m : Nat} (h : RdAt W p A n c E) (hb : Below m W W') (hm : p < m) : RdAt W' p A n c E := ⟨(hb.block p hm).trans h.obj⟩
theorem RdAt.rest {S : Nat → Prop} (h : RdAt W p A n c E) (hr : Rest S W W') (hs : ¬ S p) : RdAt W' p A n c E := ⟨(hr.block p h.lt hs).trans h.obj⟩
theorem RdAt.set (h : RdAt W p A n c E) (A' : Option Addr) (n' c' : Nat) : RdAt (W.setCell ⟨p, 0, none⟩ (.slice A' n' c')) p A' n' c' E := ⟨heap_setCell_same W p 0 _ 69 _ h.obj⟩
end

/-- A reader with tokens that have not been passed. -/
def Reads (S : Nat → Prop) (p : Nat) (E : Nat × Nat) (D : List TokD) (W : World) : Prop := ∃ A c, RdAt W p A D.length c E ∧ SlAt TokD.cells 5 S W A c D
theorem Reads.lt {S : Nat → Prop} {p : Nat} {E : Nat × Nat} {D : List TokD} {W : World} (h : Reads S p E D W) : p < W.heap.size := by
  obtain ⟨A, c, hR, _⟩ := h
  exact hR.lt
theorem Reads.below {S : Nat → Prop} {p : Nat} {E : Nat × Nat} {D : List TokD} {W W' : World} (h : Reads S p E D W) (hb : Below W.heap.size W W') : Reads S p E D W' := by
  obtain ⟨A, c, hR, hT⟩ := h
  exact ⟨A, c, hR.below hb hR.lt, hT.below hb⟩
theorem Reads.rest {S T : Nat → Prop} {p : Nat} {E : Nat × Nat} {D : List TokD} {W W' : World} (h : Reads S p E D W) (hr : Rest T W W') (hp : ¬ T p) (hT : ∀ i, i < W.heap.size → T i → S i) : Reads S p E D W' := by
  obtain ⟨A, c, hR, hS⟩ := h
  exact ⟨A, c, hR.rest hr hp, hS.rest hr hT⟩

/-- A token as a value; no token. -/
def TokD.agg (d : TokD) : Value := .agg #[.int .i64 d.k, .string (strL d.t), .int .i64 d.v, .int .i64 d.ln, .int .i64 d.cn]
def zeroTok : Value := .agg #[.int .i64 0, .string ⟨#[]⟩, .int .i64 0, .int .i64 0, .int .i64 0]

set_option maxRecDepth 100000 in
set_option maxHeartbeats 1600000 in
theorem rd_none (p : Nat) (A : Option Addr) (n c : Nat) (E : Nat × Nat) (W : World) (h : RdAt W p A n c E) (hE : 1 ≤ E.1) : Calls Try.prog 44 #[.pointer (some ⟨p, 0, none⟩)] W fun e w' => e = .returned (.bool false) ∧ W = w' := by
  have c1 := h.c1
  have hz : (((E.1 : Nat) : Int) == 0) = false := by simp; omega
  clear h hE
  go_enter Try.func44, Try.ntmps44
  go_wp2
  go_ret
  exact ⟨rfl, rfl⟩

set_option maxRecDepth 100000 in
set_option maxHeartbeats 1600000 in
theorem rd_peek_end (p : Nat) (A : Option Addr) (c : Nat) (E : Nat × Nat) (w : World) (h : RdAt w p A 0 c E) (hE : 1 ≤ E.1) :
    Calls Try.prog 20 #[.pointer (some ⟨p, 0, none⟩)] w fun e w' => e = .returned (.tuple #[zeroTok, .int .i64 9]) ∧ Below w.heap.size w w' := by
  unfold zeroTok
  have hal := (Below.refl w.heap.size w).alloc (Nat.le_refl _) (.cells #[.int .i64 0, .string ⟨#[]⟩, .int .i64 0, .int .i64 0, .int .i64 0] 36)
  have hbx := tbox_new w (.int .i64 0) (.string ⟨#[]⟩) (.int .i64 0) (.int .i64 0) (.int .i64 0)
  have hp := h.lt
  have h1 := h.below hal hp
  obtain ⟨w1, hw1⟩ : ∃ w1, w.alloc (.cells #[.int .i64 0, .string ⟨#[]⟩, .int .i64 0, .int .i64 0, .int .i64 0] 36) = w1 := ⟨_, rfl⟩
  obtain ⟨b, eb⟩ : ∃ b, w.heap.size = b := ⟨_, rfl⟩
  rw [hw1] at hal hbx h1
  rw [eb] at hbx hp
  have HN := Lib.hid (rd_none p A 0 c E w1 h1 hE)
  have c0 := h1.c0
  have HW := Lib.hid hw1
  have EB := Lib.hid eb
  have HAL := Lib.hid hal
  have Hx := Lib.hid hbx
  have xc0 := Hx.out.c0
  have xc1 := Hx.out.c1
  have xc2 := Hx.out.c2
  have xc3 := Hx.out.c3
  have xc4 := Hx.out.c4
  have xf0 := Hx.out.fr 0
  have xf1 := Hx.out.fr 1
  have xf2 := Hx.out.fr 2
  have xf3 := Hx.out.fr 3
  have xf4 := Hx.out.fr 4
  clear hw1 eb hal hbx h h1 hE
  go_enter Try.func20, Try.ntmps20
  go_wp2_with fail
  rw [HW.out, EB.out]
  go_wp2_with (go_at_call 44; refine HN.out.mono ?_; rintro e w2 ⟨rfl, rfl⟩)
  obtain ⟨hs1, hs2⟩ := set5 Hx.out (.int .i64 0) (.string ⟨#[]⟩) (.int .i64 0) (.int .i64 0) (.int .i64 0)
  generalize (((((w1.setCell ⟨b, 0, none⟩ (.int .i64 0)).setCell ⟨b, 1, none⟩ (.string ⟨#[]⟩)).setCell ⟨b, 2, none⟩ (.int .i64 0)).setCell ⟨b, 3, none⟩ (.int .i64 0)).setCell ⟨b, 4, none⟩ (.int .i64 0)) = w5 at hs1 hs2 ⊢
  have e0 := hs1.c0
  have e1 := hs1.c1
  have e2 := hs1.c2
  have e3 := hs1.c3
  have e4 := hs1.c4
  have hb5 : Below w.heap.size w w5 := HAL.out.trans (hs2.toBelow w.heap.size HAL.out.size (fun i hi e => by have := EB.out; omega))
  refine bodyPost_ret (by simp [results, Try.results20, go_sem, *]; try rfl) rfl ?_
  exact ⟨rfl, hb5⟩

set_option maxRecDepth 100000 in
set_option maxHeartbeats 1600000 in
theorem rd_peek (S : Nat → Prop) (p : Nat) (E : Nat × Nat) (d : TokD) (D : List TokD) (w : World) (h : Reads S p E (d :: D) w) (hE : 1 ≤ E.1) :
    Calls Try.prog 20 #[.pointer (some ⟨p, 0, none⟩)] w fun e w' => e = .returned (.tuple #[d.agg, .int .i64 0]) ∧ Below w.heap.size w w' := by
  unfold TokD.agg
  obtain ⟨A, c, hR, hS⟩ := h
  obtain ⟨g, o, rfl, _, hx⟩ := hS.head
  have hcap := hS.2.1
  have hlen := hS.1
  have hal := (Below.refl w.heap.size w).alloc (Nat.le_refl _) (.cells #[.int .i64 0, .string ⟨#[]⟩, .int .i64 0, .int .i64 0, .int .i64 0] 36)
  have hbx := tbox_new w (.int .i64 0) (.string ⟨#[]⟩) (.int .i64 0) (.int .i64 0) (.int .i64 0)
  have hp := hR.lt
  have h1 := hR.below hal hp
  have hx1 : ∀ j u, d.cells[j]? = some u → (w.alloc (.cells #[.int .i64 0, .string ⟨#[]⟩, .int .i64 0, .int .i64 0, .int .i64 0] 36)).cell? ⟨g, o + j, none⟩ = some u := fun j u hu => (hal.cell (p := ⟨g, o + j, none⟩) (World.block_lt_of_cell? _ _ (hx j u hu))).trans (hx j u hu)
  have hgl := World.block_lt_of_cell? _ _ (hx 0 _ rfl)
  obtain ⟨w1, hw1⟩ : ∃ w1, w.alloc (.cells #[.int .i64 0, .string ⟨#[]⟩, .int .i64 0, .int .i64 0, .int .i64 0] 36) = w1 := ⟨_, rfl⟩
  obtain ⟨b, eb⟩ : ∃ b, w.heap.size = b := ⟨_, rfl⟩
  rw [hw1] at hal hbx h1 hx1
  rw [eb] at hbx hp hgl
  have HN := Lib.hid (rd_none p _ _ c E w1 h1 hE)
  have c0 : w1.cell? ⟨p, 0, none⟩ = some (.slice (some ⟨g, o, none⟩) (D.length + 1) c) := h1.c0
  have g0 : w1.cell? ⟨g, o, none⟩ = some (.int .i64 d.k) := hx1 0 _ rfl
  have g1 : w1.cell? ⟨g, o + 1, none⟩ = some (.string (strL d.t)) := hx1 1 _ rfl
  have g2 : w1.cell? ⟨g, o + 2, none⟩ = some (.int .i64 d.v) := hx1 2 _ rfl
  have g3 : w1.cell? ⟨g, o + 3, none⟩ = some (.int .i64 d.ln) := hx1 3 _ rfl
  have g4 : w1.cell? ⟨g, o + 4, none⟩ = some (.int .i64 d.cn) := hx1 4 _ rfl
  have hmx : D.length + 1 ≤ 9223372036854775807 := by simp only [List.length_cons] at hlen; omega
  have hne : (((D.length : Nat) : Int) + 1 == 0) = false := by simp; omega
  have HW := Lib.hid hw1
  have EB := Lib.hid eb
  have HAL := Lib.hid hal
  have Hx := Lib.hid hbx
  have xc0 := Hx.out.c0
  have xc1 := Hx.out.c1
  have xc2 := Hx.out.c2
  have xc3 := Hx.out.c3
  have xc4 := Hx.out.c4
  have xf0 := Hx.out.fr 0
  have xf1 := Hx.out.fr 1
  have xf2 := Hx.out.fr 2
  have xf3 := Hx.out.fr 3
  have xf4 := Hx.out.fr 4
  clear hw1 eb hal hbx h1 hE hx hx1 hlen hcap hR hS
  go_enter Try.func20, Try.ntmps20
  go_wp2_with fail
  rw [HW.out, EB.out]
  go_wp2_with (go_at_call 44; refine HN.out.mono ?_; rintro e w2 ⟨rfl, rfl⟩)
  obtain ⟨hs1, hs2⟩ := set5 Hx.out (.int .i64 d.k) (.string (strL d.t)) (.int .i64 d.v) (.int .i64 d.ln) (.int .i64 d.cn)
  generalize (((((w1.setCell ⟨b, 0, none⟩ (.int .i64 d.k)).setCell ⟨b, 1, none⟩ (.string (strL d.t))).setCell ⟨b, 2, none⟩ (.int .i64 d.v)).setCell ⟨b, 3, none⟩ (.int .i64 d.ln)).setCell ⟨b, 4, none⟩ (.int .i64 d.cn)) = w5 at hs1 hs2 ⊢
  have e0 := hs1.c0
  have e1 := hs1.c1
  have e2 := hs1.c2
  have e3 := hs1.c3
  have e4 := hs1.c4
  have hb5 : Below w.heap.size w w5 := HAL.out.trans (hs2.toBelow w.heap.size HAL.out.size (fun i hi e => by have := EB.out; omega))
  refine bodyPost_ret (by simp [results, Try.results20, go_sem, *]; try rfl) rfl ?_
  exact ⟨rfl, hb5⟩
end Go.Proofs.Ytgdjfifnnhfonaa
