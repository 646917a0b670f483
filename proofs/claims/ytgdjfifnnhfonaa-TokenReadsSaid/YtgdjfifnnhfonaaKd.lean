/- New: a reader of the tokens of a text, or the place and the error. Conditions: the text has at most 1048576 bytes. -/
import Derived.Test.YtgdjfifnnhfonaaKc
namespace Go.Proofs.Ytgdjfifnnhfonaa
open Go.RowKit Go.Shelf

/-- What New answers. -/
def NewR (r : SRes) (w : World) (e : Ending) (w' : World) : Prop :=
  Below w.heap.size w w' ∧ match r with
  | .ok ts q => ∃ p A c, e = .returned (.tuple #[.pointer (some ⟨p, 0, none⟩), .agg #[.int .i64 0, .int .i64 0], .int .i64 0]) ∧ w.heap.size ≤ p ∧ RdAt w' p A ts.length c q ∧ SlAt TokD.cells 5 (fun i => i < w.heap.size ∨ p ≤ i) w' A c ts
  | .bad q c => e = .returned (.tuple #[.pointer none, .agg #[.int .i64 q.1, .int .i64 q.2], .int .i64 c])

theorem tokCells_at (L : List TokD) (i : Nat) (d : TokD) (h : L[i]? = some d) (j : Nat) (hj : j < 5) : (L.flatMap TokD.cells)[i * 5 + j]? = d.cells[j]? := tokCells_get L i d h j hj

set_option maxRecDepth 100000 in
set_option maxHeartbeats 3200000 in
theorem new_any (l : List UInt8) (w : World) (h3 : l.length ≤ 1048576) :
    Calls Try.prog 18 #[.string (strL l)] w (NewR (scanS l) w) := by
  have hal := below_alloc w (.cells #[.int .i64 0, .int .i64 0] 25)
  have hpl : (w.alloc (.cells #[.int .i64 0, .int .i64 0] 25)).heap[w.heap.size]? = some (.cells #[.int .i64 0, .int .i64 0] 25 (0, 0)) := heap_alloc_new w _
  obtain ⟨rb, erb⟩ : ∃ rb, w.heap.size = rb := ⟨_, rfl⟩
  obtain ⟨w1, hw1⟩ : ∃ w1, w.alloc (.cells #[.int .i64 0, .int .i64 0] 25) = w1 := ⟨_, rfl⟩
  rw [hw1] at hal hpl
  rw [erb] at hpl
  have HS := Lib.hid (scan_any l w1 h3)
  obtain ⟨R, hR⟩ : ∃ R, scanS l = R := ⟨_, rfl⟩
  have hbad : ∀ q c, R = .bad q c → c = 4 ∨ c = 6 := fun q c e => scanG_bad _ _ _ q c (hR.trans e)
  have HBD := Lib.hid hbad
  rw [hR] at HS ⊢
  have W1 := Lib.hid hw1
  have HAL := Lib.hid hal
  have HPL := Lib.hid hpl
  have ERB := Lib.hid erb
  clear hw1 hal hpl erb hR hbad
  go_enter Try.func18, Try.ntmps18
  go_wp2_with fail
  rw [W1.out, ERB.out]
  refine HS.out.mono ?_
  rintro e w2 ⟨hb2, hm⟩
  have hb2' := HAL.out.trans (hb2.mono HAL.out.size)
  have hpl2 := (hb2.block rb (Array.getElem?_eq_some_iff.1 HPL.out).1).trans HPL.out
  cases R with
  | bad q c =>
    subst hm
    have hc : ((c : Nat) : Int) = 4 ∨ ((c : Nat) : Int) = 6 := by rcases HBD.out q c rfl with h | h <;> simp [h]
    have hq : (((c : Nat) : Int) != 0) = true := by simp; omega
    have hal := below_alloc w2 (.cells #[.int .i64 q.1, .int .i64 q.2] 25)
    have hb3 := hb2'.trans (hal.mono (by have := hb2'.size; omega))
    have hpl3 := (hal.block rb (Array.getElem?_eq_some_iff.1 hpl2).1).trans hpl2
    have hpn : (w2.alloc (.cells #[.int .i64 q.1, .int .i64 q.2] 25)).heap[w2.heap.size]? = some (.cells #[.int .i64 q.1, .int .i64 q.2] 25 (0, 0)) := heap_alloc_new w2 _
    have hlt := (Array.getElem?_eq_some_iff.1 hpl2).1
    obtain ⟨nb, enb⟩ : ∃ nb, w2.heap.size = nb := ⟨_, rfl⟩
    obtain ⟨w3, hw3⟩ : ∃ w3, w2.alloc (.cells #[.int .i64 q.1, .int .i64 q.2] 25) = w3 := ⟨_, rfl⟩
    rw [hw3] at hb3 hpl3 hpn
    rw [enb] at hpn hlt
    have W3 := Lib.hid hw3
    have ENB := Lib.hid enb
    have B3 := Lib.hid hb3
    have r0 : w3.cell? ⟨rb, 0, none⟩ = some (.int .i64 0) := by simp [World.cell?, hpl3]
    have r1 : w3.cell? ⟨rb, 1, none⟩ = some (.int .i64 0) := by simp [World.cell?, hpl3]
    have s0 : w3.frozen? ⟨rb, 0, none⟩ = false := by simp [World.frozen?, hpl3]
    have s1 : w3.frozen? ⟨rb, 1, none⟩ = false := by simp [World.frozen?, hpl3]
    have n0 : w3.cell? ⟨nb, 0, none⟩ = some (.int .i64 q.1) := by simp [World.cell?, hpn]
    have n1 : w3.cell? ⟨nb, 1, none⟩ = some (.int .i64 q.2) := by simp [World.cell?, hpn]
    have PL3 := Lib.hid hpl3
    clear hc hal hb3 hpl3 hpn hlt hw3 enb hb2 hb2' hpl2
    go_upto_region 3 with fail
    rw [W3.out, ENB.out]
    go_region
    have hpl5 : ((w3.setCell ⟨rb, 0, none⟩ (.int .i64 q.1)).setCell ⟨rb, 1, none⟩ (.int .i64 q.2)).drew.heap[rb]? = some (.cells #[.int .i64 q.1, .int .i64 q.2] 25 (0, 0)) :=
      heap_setCell_same _ rb 1 _ 25 (.int .i64 q.2) (heap_setCell_same w3 rb 0 _ 25 (.int .i64 q.1) PL3.out)
    have hr5 : Rest (fun i => i = rb) w3 ((w3.setCell ⟨rb, 0, none⟩ (.int .i64 q.1)).setCell ⟨rb, 1, none⟩ (.int .i64 q.2)).drew :=
      (((Rest.refl (fun i => i = rb) w3).setCell (S := fun i => i = rb) (p := ⟨rb, 0, none⟩) (fun _ => rfl) _).setCell (S := fun i => i = rb) (p := ⟨rb, 1, none⟩) (fun _ => rfl) _).drew
    generalize ((w3.setCell ⟨rb, 0, none⟩ (.int .i64 q.1)).setCell ⟨rb, 1, none⟩ (.int .i64 q.2)).drew = w5 at hpl5 hr5 ⊢
    have z0 : w5.cell? ⟨rb, 0, none⟩ = some (.int .i64 q.1) := by simp [World.cell?, hpl5]
    have z1 : w5.cell? ⟨rb, 1, none⟩ = some (.int .i64 q.2) := by simp [World.cell?, hpl5]
    have B5 := Lib.hid (B3.out.trans (hr5.toBelow w.heap.size B3.out.size (fun i hi e => by have := ERB.out; omega)))
    clear hpl5 hr5 r0 r1 s0 s1 n0 n1
    go_wp2_with fail
    refine bodyPost_ret (by simp [results, Try.results18, go_sem, *]; try rfl) rfl ?_
    exact ⟨B5.out, rfl⟩
  | ok ts q =>
    obtain ⟨v1, rfl, hrow⟩ := hm
    obtain ⟨A, c, rfl⟩ := row_shape hrow
    have hal := below_alloc w2 (.cells #[.int .i64 q.1, .int .i64 q.2] 25)
    have hb3 := hb2'.trans (hal.mono (by have := hb2'.size; omega))
    have hpl3 := (hal.block rb (Array.getElem?_eq_some_iff.1 hpl2).1).trans hpl2
    have hpn : (w2.alloc (.cells #[.int .i64 q.1, .int .i64 q.2] 25)).heap[w2.heap.size]? = some (.cells #[.int .i64 q.1, .int .i64 q.2] 25 (0, 0)) := heap_alloc_new w2 _
    have hlt := (Array.getElem?_eq_some_iff.1 hpl2).1
    have hsl : SlAt TokD.cells 5 (fun i => i < w1.heap.size ∨ w2.heap.size + 1 ≤ i) w2 A c ts := slAt_row hrow rfl (tokCells_at ts) (fun d => rfl) (fun k hk hS => by
      rcases hrow.2 with ⟨hn, _⟩ | ⟨g, cap, cur, hv, hg1, hg2, _⟩
      · simp only [Value.slice.injEq] at hn; rw [hn.1] at hk; cases hk
      · simp only [Value.slice.injEq] at hv
        rw [hv.1] at hk
        simp only [Option.map_some, Option.some.injEq] at hk
        have := (Array.getElem?_eq_some_iff.1 hg2).1
        omega)
    have hsl3 := hsl.below hal
    have hsz3 : (w2.alloc (.cells #[.int .i64 q.1, .int .i64 q.2] 25)).heap.size = w2.heap.size + 1 := by simp
    obtain ⟨nb, enb⟩ : ∃ nb, w2.heap.size = nb := ⟨_, rfl⟩
    obtain ⟨w3, hw3⟩ : ∃ w3, w2.alloc (.cells #[.int .i64 q.1, .int .i64 q.2] 25) = w3 := ⟨_, rfl⟩
    rw [hw3] at hb3 hpl3 hpn hsl3 hsz3
    rw [enb] at hpn hlt hsl3 hsz3
    have hal4 := below_alloc w3 (.cells #[.slice A ts.length c, .int .i64 q.1, .int .i64 q.2] 69)
    have hrd4 : RdAt (w3.alloc (.cells #[.slice A ts.length c, .int .i64 q.1, .int .i64 q.2] 69)) w3.heap.size A ts.length c q := ⟨heap_alloc_new w3 _⟩
    have hpl4 := (hal4.block rb (Array.getElem?_eq_some_iff.1 hpl3).1).trans hpl3
    have hsl4 := hsl3.below hal4
    have hb4 := hb3.trans (hal4.mono hb3.size)
    obtain ⟨pb, epb⟩ : ∃ pb, w3.heap.size = pb := ⟨_, rfl⟩
    obtain ⟨w4, hw4⟩ : ∃ w4, w3.alloc (.cells #[.slice A ts.length c, .int .i64 q.1, .int .i64 q.2] 69) = w4 := ⟨_, rfl⟩
    rw [hw4] at hrd4 hpl4 hsl4 hb4
    rw [epb] at hrd4 hsz3
    have W3 := Lib.hid hw3
    have ENB := Lib.hid enb
    have W4 := Lib.hid hw4
    have EPB := Lib.hid epb
    have B4 := Lib.hid hb4
    have RD4 := Lib.hid hrd4
    have SL4 := Lib.hid hsl4
    have PL4 := Lib.hid hpl4
    have SZ := Lib.hid (And.intro hsz3 hlt)
    have n0 : w3.cell? ⟨nb, 0, none⟩ = some (.int .i64 q.1) := by simp [World.cell?, hpn]
    have n1 : w3.cell? ⟨nb, 1, none⟩ = some (.int .i64 q.2) := by simp [World.cell?, hpn]
    have r0 : w4.cell? ⟨rb, 0, none⟩ = some (.int .i64 0) := by simp [World.cell?, hpl4]
    have r1 : w4.cell? ⟨rb, 1, none⟩ = some (.int .i64 0) := by simp [World.cell?, hpl4]
    have s0 : w4.frozen? ⟨rb, 0, none⟩ = false := by simp [World.frozen?, hpl4]
    have s1 : w4.frozen? ⟨rb, 1, none⟩ = false := by simp [World.frozen?, hpl4]
    clear hal hb3 hpl3 hpn hlt hw3 enb hb2 hb2' hpl2 hrow hsl hsl3 hsz3 hal4 hrd4 hpl4 hsl4 hb4 epb hw4
    go_upto_region 4 with fail
    rw [W3.out, ENB.out]
    have r0' : (w3.alloc (.cells #[.slice A ts.length c, .int .i64 q.1, .int .i64 q.2] 69)).cell? ⟨rb, 0, none⟩ = some (.int .i64 0) := by rw [W4.out]; exact r0
    have r1' : (w3.alloc (.cells #[.slice A ts.length c, .int .i64 q.1, .int .i64 q.2] 69)).cell? ⟨rb, 1, none⟩ = some (.int .i64 0) := by rw [W4.out]; exact r1
    have s0' : (w3.alloc (.cells #[.slice A ts.length c, .int .i64 q.1, .int .i64 q.2] 69)).frozen? ⟨rb, 0, none⟩ = false := by rw [W4.out]; exact s0
    have s1' : (w3.alloc (.cells #[.slice A ts.length c, .int .i64 q.1, .int .i64 q.2] 69)).frozen? ⟨rb, 1, none⟩ = false := by rw [W4.out]; exact s1
    clear r0 r1 s0 s1
    go_wp2_with fail
    rw [W4.out, EPB.out]
    have hpl5 : ((w4.setCell ⟨rb, 0, none⟩ (.int .i64 0)).setCell ⟨rb, 1, none⟩ (.int .i64 0)).heap[rb]? = some (.cells #[.int .i64 0, .int .i64 0] 25 (0, 0)) :=
      heap_setCell_same _ rb 1 _ 25 (.int .i64 0) (heap_setCell_same w4 rb 0 _ 25 (.int .i64 0) PL4.out)
    have hr5 : Rest (fun i => i = rb) w4 ((w4.setCell ⟨rb, 0, none⟩ (.int .i64 0)).setCell ⟨rb, 1, none⟩ (.int .i64 0)) :=
      ((Rest.refl (fun i => i = rb) w4).setCell (S := fun i => i = rb) (p := ⟨rb, 0, none⟩) (fun _ => rfl) _).setCell (S := fun i => i = rb) (p := ⟨rb, 1, none⟩) (fun _ => rfl) _
    generalize (w4.setCell ⟨rb, 0, none⟩ (.int .i64 0)).setCell ⟨rb, 1, none⟩ (.int .i64 0) = w5 at hpl5 hr5 ⊢
    have z0 : w5.cell? ⟨rb, 0, none⟩ = some (.int .i64 0) := by simp [World.cell?, hpl5]
    have z1 : w5.cell? ⟨rb, 1, none⟩ = some (.int .i64 0) := by simp [World.cell?, hpl5]
    have B5 := Lib.hid (B4.out.trans (hr5.toBelow w.heap.size B4.out.size (fun i hi e => by have := ERB.out; omega)))
    have hn : ¬ pb = rb := by have := SZ.out; omega
    have R5 := Lib.hid (RD4.out.rest hr5 hn)
    have S5 : Hid (SlAt TokD.cells 5 (fun i => i < w.heap.size ∨ pb ≤ i) w5 A c ts) := Lib.hid (by
      have hs := SL4.out
      refine ⟨hs.1, hs.2.1, fun i d hi => ?_⟩
      obtain ⟨g, o, h1, h2, h3⟩ := hs.2.2 i d hi
      have hrl := (Array.getElem?_eq_some_iff.1 HPL.out).1
      have hgr : ¬ g = rb := fun e => h2 (.inl (by omega))
      refine ⟨g, o, h1, fun h => h2 (by have := SZ.out; have := HAL.out.size; omega), fun j u hu => ?_⟩
      have hc := h3 j u hu
      exact (hr5.cell (p := ⟨g, o + i * 5 + j, none⟩) (World.block_lt_of_cell? _ _ hc) hgr).trans hc)
    clear hpl5 hr5 r0' r1' s0' s1' n0 n1
    refine bodyPost_ret (by simp [results, Try.results18, go_sem, *]; try rfl) rfl ?_
    exact ⟨B5.out, pb, A, c, rfl, by have := SZ.out; have := B4.out.size; have := ERB.out; omega, R5.out, S5.out⟩
end Go.Proofs.Ytgdjfifnnhfonaa
