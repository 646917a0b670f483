/- The walk of TokenReads: it returns true and changes nothing that was there. Conditions: the calls lie in memory. -/
import Derived.Test.YtgdjfifnnhfonaaLb
import Derived.Test.YtgdjfifnnhfonaaMc
import Derived.Test.YtgdjfifnnhfonaaMe0
import Derived.Test.YtgdjfifnnhfonaaMe4
import Derived.Test.YtgdjfifnnhfonaaMf
import Derived.Test.YtgdjfifnnhfonaaMh
namespace Go.Proofs.Ytgdjfifnnhfonaa
open Go.RowKit Go.Shelf

theorem reads_ok (l : List UInt8) (ao : Option Addr) (cL : Nat) (L : List TAct) (w : World) (q : Nat × Nat) (ts : List TokD) (hl : l.length ≤ 500) (hL : L.length ≤ 60) (hv : TActsAt w (.slice ao L.length cL) L) (hR : scanS l = .ok ts q) :
    Calls Try.prog 5 #[.string (strL l), .slice ao L.length cL] w fun e w' => e = .returned (.bool true) ∧ Below w.heap.size w w' :=
  (readsHead l ao cL L w q).2 ⟨(readsRound l ao cL L w q).2 ⟨reads_want l ao cL L w q⟩
    ⟨(readsSwitch l ao cL L w q).2 ⟨reads_kind0 l ao cL L w q⟩ ⟨reads_kind1 l ao cL L w q⟩ ⟨reads_kind2 l ao cL L w q⟩ ⟨reads_kind3 l ao cL L w q⟩ ⟨reads_kind4 l ao cL L w q⟩ ⟨reads_behind l ao cL L w q⟩⟩
    ⟨(readsAfter l ao cL L w q).2 ⟨reads_turn l ao cL L w q⟩⟩⟩ ts hl hL hv hR

theorem box2_new (w : World) (u v : Value) (s t : TypeId) : Boxed ((w.alloc (.cells #[u] s)).alloc (.cells #[v] t)) (w.heap.size + 1) t v := by
  have := Boxed.new (w.alloc (.cells #[u] s)) t v
  simpa using this

set_option maxRecDepth 100000 in
set_option maxHeartbeats 1600000 in
theorem reads_big (l : List UInt8) (ao : Option Addr) (cL n : Nat) (w : World) (hs : (strL l).size = l.length) (hb : 500 < l.length ∨ (l.length ≤ 500 ∧ 60 < n)) :
    Calls Try.prog 5 #[.string (strL l), .slice ao n cL] w fun e w' => e = .returned (.bool true) ∧ Below w.heap.size w w' := by
  obtain ⟨w0, hw0⟩ : ∃ w0, (w.alloc (.cells #[.string (strL l)] 9)).alloc (.cells #[.bool false] 4) = w0 := ⟨_, rfl⟩
  have hb0 : Below w.heap.size w w0 := by rw [← hw0]; exact ((Below.refl _ w).alloc (Nat.le_refl _) _).alloc (by simp) _
  have hrb0 : Boxed w0 (w.heap.size + 1) 4 (.bool false) := by rw [← hw0]; exact box2_new w _ _ 9 4
  have hsb0 : Boxed w0 w.heap.size 9 (.string (strL l)) := by rw [← hw0]; exact (Boxed.new w 9 _).alloc _
  have s0 := hsb0.cell
  have HW0 := Lib.hid hw0
  have HB0 := Lib.hid hb0
  have RB0 := Lib.hid hrb0
  clear hw0 hb0 hrb0 hsb0
  have hend : ∀ w6, Below w0.heap.size w0 w6 → Boxed w6 (w.heap.size + 1) 4 (.bool false) ∧ Boxed (w6.setCell ⟨w.heap.size + 1, 0, none⟩ (.bool true)) (w.heap.size + 1) 4 (.bool true) ∧ Below w.heap.size w (w6.setCell ⟨w.heap.size + 1, 0, none⟩ (.bool true)) := fun w6 h => by
    have h1 := boxed_below RB0.out h RB0.out.lt
    exact ⟨h1, Boxed.set _ h1, (HB0.out.trans (h.mono HB0.out.size)).setCell (p := ⟨w.heap.size + 1, 0, none⟩) (by show w.heap.size ≤ w.heap.size + 1; omega) _⟩
  have HE := Lib.hid hend
  clear hend
  rcases hb with hb | ⟨h1, h2⟩
  · have e1 : decide ((500 : Int) < ((l.length : Nat) : Int)) = true := decide_eq_true (by omega)
    clear hb
    go_enter Try.func5, Try.ntmps5
    go_upto_region 1 with fail
    rw [HW0.out]
    go_wp2_with fail
    refine (known_any _).mono ?_
    rintro e w6 ⟨rfl, hb6⟩
    obtain ⟨hr, ha1, ha2⟩ := HE.out _ hb6
    have AN := Lib.hid ha2
    have cr := hr.cell
    have fr := hr.frozen
    have ca := ha1.cell
    clear hb6 hr ha1 ha2
    go_wp2_with fail
    refine bodyPost_ret (by simp [results, Try.results5, go_sem, ca]; try rfl) rfl ?_
    exact ⟨rfl, AN.out⟩
  · have e1 : decide ((500 : Int) < ((l.length : Nat) : Int)) = false := decide_eq_false (by omega)
    have e2 : decide ((60 : Int) < ((n : Nat) : Int)) = true := decide_eq_true (by omega)
    clear h1 h2
    go_enter Try.func5, Try.ntmps5
    go_upto_region 1 with fail
    rw [HW0.out]
    go_wp2_with fail
    refine (known_any _).mono ?_
    rintro e w6 ⟨rfl, hb6⟩
    obtain ⟨hr, ha1, ha2⟩ := HE.out _ hb6
    have AN := Lib.hid ha2
    have cr := hr.cell
    have fr := hr.frozen
    have ca := ha1.cell
    clear hb6 hr ha1 ha2
    go_wp2_with fail
    refine bodyPost_ret (by simp [results, Try.results5, go_sem, ca]; try rfl) rfl ?_
    exact ⟨rfl, AN.out⟩

theorem reads_walk (l : List UInt8) (v : Value) (L : List TAct) (w : World) (hv : TActsAt w v L) :
    Calls Try.prog 5 #[.string (strL l), v] w fun e w' => e = .returned (.bool true) ∧ Below w.heap.size w w' := by
  have hs : (strL l).size = l.length := strL_size l
  obtain ⟨ao, c, rfl, h⟩ := hv
  have hv' : TActsAt w (.slice ao L.length c) L := ⟨ao, c, rfl, h⟩
  by_cases h5 : 500 < l.length
  · exact reads_big l ao c L.length w hs (.inl h5)
  · by_cases h6 : 60 < L.length
    · exact reads_big l ao c L.length w hs (.inr ⟨by omega, h6⟩)
    · cases hR : scanS l with
      | bad q k => exact reads_bad l _ L w (by omega) (by omega) hv' q k hR
      | ok ts q => exact reads_ok l ao c L w q ts (by omega) (by omega) hv' hR
end Go.Proofs.Ytgdjfifnnhfonaa
