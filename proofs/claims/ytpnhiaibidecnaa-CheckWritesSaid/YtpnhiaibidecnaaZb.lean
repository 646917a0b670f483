/- The small functions of package check: exists, remainder; a sum in memory. Conditions: numbers in bounds. -/
import Derived.Test.YtpnhiaibidecnaaZa
import Derived.Test.YtpnhiaibidecnaaQa
namespace Go.Proofs.Ytpnhiaibidecnaa
open Go.RowKit Go.Shelf

/-- A kind that exists. -/
def kindB (k : Int) : Bool := decide (1 ≤ k ∧ k ≤ 3)
theorem ret_ii {a b c d : Int} (h : a = c) (k : b = d) : Ending.returned (.tuple #[.int .i64 a, .int .i64 b]) = .returned (.tuple #[.int .i64 c, .int .i64 d]) := by rw [h, k]

set_option maxRecDepth 100000 in
set_option maxHeartbeats 800000 in
theorem exists_any (v : Int) (w : World) : Calls Try.prog 26 #[.int .i64 v] w fun e w' => e = .returned (.bool (kindB v)) ∧ w = w' := by
  go_enter Try.func26, Try.ntmps26
  go_wp2
  all_goals (go_ret; refine ⟨ret_bool' ?_, rfl⟩; rw [Bool.eq_iff_iff]; simp [kindB, *]; try omega)

theorem rem_eq (v : Int) : (v.tmod 65521 + 65521).tmod 65521 = v % 65521 := by
  rw [Int.tmod_eq_emod, Int.tmod_eq_emod]
  simp only [show (65521 : Int).natAbs = 65521 from rfl]
  split <;> split <;> omega
theorem wrapi_in {v : Int} (h0 : -9223372036854775808 ≤ v) (h1 : v < 9223372036854775808) : IntKind.i64.wrap v = v := by
  simp [IntKind.wrap, IntKind.bits, IntKind.signed]
  omega
theorem wrap_in {v : Int} (h0 : -9223372036854775808 ≤ v) (h1 : v < 9223372036854775808) : wrap64 v = v := IntWalk.wrap64_in _ ⟨by omega, by omega⟩

set_option maxRecDepth 100000 in
set_option maxHeartbeats 800000 in
theorem rem_any (v : Int) (w : World) : Calls Try.prog 36 #[.int .i64 v] w fun e w' => e = .returned (.int .i64 (v % 65521)) ∧ w = w' := by
  go_enter Try.func36, Try.ntmps36
  go_wp2
  go_ret
  refine ⟨ret_int' ?_, rfl⟩
  have h1 := Int.tmod_lt_of_pos v (show (0 : Int) < 65521 by decide)
  have h2 : -65521 < v.tmod 65521 := by
    have := Int.lt_tmod_of_pos v (show (0 : Int) < 65521 by decide)
    omega
  rw [wrap_in (by omega) (by omega), rem_eq]

set_option maxRecDepth 100000 in
set_option maxHeartbeats 800000 in
theorem mod_any (v : Int) (w : World) : Calls Try.prog 37 #[.int .i64 v] w fun e w' => e = .returned (.int .i64 (v % 65521)) ∧ w = w' := by
  go_enter Try.func37, Try.ntmps37
  go_wp2
  go_ret
  refine ⟨ret_int' ?_, rfl⟩
  have h1 := Int.tmod_lt_of_pos v (show (0 : Int) < 65521 by decide)
  have h2 : -65521 < v.tmod 65521 := by
    have := Int.lt_tmod_of_pos v (show (0 : Int) < 65521 by decide)
    omega
  rw [wrap_in (by omega) (by omega), rem_eq]

/-- A sum in memory: its two numbers, how many bytes, its kind. -/
structure SumAt (w : World) (b : Nat) (s : Nat × Nat) (n k : Nat) : Prop where
  c0 : w.cell? ⟨b, 0, none⟩ = some (.int .i64 ((s.1 : Nat) : Int))
  c1 : w.cell? ⟨b, 1, none⟩ = some (.int .i64 ((s.2 : Nat) : Int))
  c2 : w.cell? ⟨b, 2, none⟩ = some (.int .i64 ((n : Nat) : Int))
  c3 : w.cell? ⟨b, 3, none⟩ = some (.int .i64 ((k : Nat) : Int))
  f0 : w.frozen? ⟨b, 0, none⟩ = false
  f1 : w.frozen? ⟨b, 1, none⟩ = false
  f2 : w.frozen? ⟨b, 2, none⟩ = false
theorem SumAt.lt {w : World} {b : Nat} {s : Nat × Nat} {n k : Nat} (h : SumAt w b s n k) : b < w.heap.size := block_lt_of_cell h.c0
theorem SumAt.rest {w w' : World} {b : Nat} {s : Nat × Nat} {n k : Nat} {S : Nat → Prop} (h : SumAt w b s n k) (hr : Rest S w w') (hs : ¬ S b) : SumAt w' b s n k :=
  ⟨(hr.cell (p := ⟨b, 0, none⟩) h.lt hs).trans h.c0, (hr.cell (p := ⟨b, 1, none⟩) h.lt hs).trans h.c1, (hr.cell (p := ⟨b, 2, none⟩) h.lt hs).trans h.c2, (hr.cell (p := ⟨b, 3, none⟩) h.lt hs).trans h.c3,
   (hr.frozen (p := ⟨b, 0, none⟩) h.lt hs).trans h.f0, (hr.frozen (p := ⟨b, 1, none⟩) h.lt hs).trans h.f1, (hr.frozen (p := ⟨b, 2, none⟩) h.lt hs).trans h.f2⟩
theorem SumAt.below {w w' : World} {b : Nat} {s : Nat × Nat} {n k : Nat} {m : Nat} (h : SumAt w b s n k) (hb : Below m w w') (hm : b < m) : SumAt w' b s n k :=
  ⟨(hb.cell (p := ⟨b, 0, none⟩) hm).trans h.c0, (hb.cell (p := ⟨b, 1, none⟩) hm).trans h.c1, (hb.cell (p := ⟨b, 2, none⟩) hm).trans h.c2, (hb.cell (p := ⟨b, 3, none⟩) hm).trans h.c3,
   (hb.frozen (p := ⟨b, 0, none⟩) hm).trans h.f0, (hb.frozen (p := ⟨b, 1, none⟩) hm).trans h.f1, (hb.frozen (p := ⟨b, 2, none⟩) hm).trans h.f2⟩
theorem SumAt.drew {w : World} {b : Nat} {s : Nat × Nat} {n k : Nat} (h : SumAt w b s n k) : SumAt w.drew b s n k := ⟨h.c0, h.c1, h.c2, h.c3, h.f0, h.f1, h.f2⟩
theorem SumAt.set0 {w : World} {b : Nat} {s : Nat × Nat} {n k : Nat} (h : SumAt w b s n k) (x : Nat) : SumAt (w.setCell ⟨b, 0, none⟩ (.int .i64 ((x : Nat) : Int))) b (x, s.2) n k :=
  ⟨World.cell?_setCell_same _ _ _ h.c0, (World.cell?_setCell_other _ _ _ _ (by simp)).trans h.c1, (World.cell?_setCell_other _ _ _ _ (by simp)).trans h.c2, (World.cell?_setCell_other _ _ _ _ (by simp)).trans h.c3,
   (World.frozen?_setCell _ _ _ _).trans h.f0, (World.frozen?_setCell _ _ _ _).trans h.f1, (World.frozen?_setCell _ _ _ _).trans h.f2⟩
theorem SumAt.set1 {w : World} {b : Nat} {s : Nat × Nat} {n k : Nat} (h : SumAt w b s n k) (x : Nat) : SumAt (w.setCell ⟨b, 1, none⟩ (.int .i64 ((x : Nat) : Int))) b (s.1, x) n k :=
  ⟨(World.cell?_setCell_other _ _ _ _ (by simp)).trans h.c0, World.cell?_setCell_same _ _ _ h.c1, (World.cell?_setCell_other _ _ _ _ (by simp)).trans h.c2, (World.cell?_setCell_other _ _ _ _ (by simp)).trans h.c3,
   (World.frozen?_setCell _ _ _ _).trans h.f0, (World.frozen?_setCell _ _ _ _).trans h.f1, (World.frozen?_setCell _ _ _ _).trans h.f2⟩
theorem SumAt.set2 {w : World} {b : Nat} {s : Nat × Nat} {n k : Nat} (h : SumAt w b s n k) (x : Nat) : SumAt (w.setCell ⟨b, 2, none⟩ (.int .i64 ((x : Nat) : Int))) b s x k :=
  ⟨(World.cell?_setCell_other _ _ _ _ (by simp)).trans h.c0, (World.cell?_setCell_other _ _ _ _ (by simp)).trans h.c1, World.cell?_setCell_same _ _ _ h.c2, (World.cell?_setCell_other _ _ _ _ (by simp)).trans h.c3,
   (World.frozen?_setCell _ _ _ _).trans h.f0, (World.frozen?_setCell _ _ _ _).trans h.f1, (World.frozen?_setCell _ _ _ _).trans h.f2⟩
theorem SumAt.new (w : World) (s : Nat × Nat) (n k T : Nat) : SumAt (w.alloc (.cells #[.int .i64 ((s.1 : Nat) : Int), .int .i64 ((s.2 : Nat) : Int), .int .i64 ((n : Nat) : Int), .int .i64 ((k : Nat) : Int)] T)) w.heap.size s n k :=
  ⟨by rw [World.cell?_alloc_new]; rfl, by rw [World.cell?_alloc_new]; rfl, by rw [World.cell?_alloc_new]; rfl, by rw [World.cell?_alloc_new]; rfl, World.frozen?_alloc_new _ _ _ _, World.frozen?_alloc_new _ _ _ _, World.frozen?_alloc_new _ _ _ _⟩
end Go.Proofs.Ytpnhiaibidecnaa
