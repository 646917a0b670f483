/- Lists of terms and of cases are compared. Conditions: they lie in memory. Sizes and fields are compared as the document compares them. Conditions: terms and cases lie in memory. -/
import Derived.Test.YtbpkppmbbpoohaaGreatGa
import Derived.Deep.CutRange
import Derived.BigQuiet
namespace Go.Proofs.YtbpkppmbbpoohaaGreat
open Go.RowKit Go.Shelf

deriving instance DecidableEq for TermD
deriving instance DecidableEq for CaseD

set_option maxRecDepth 100000 in
theorem ne_equalT (a b : TermD) (w : World) : (binOp .neq 67 (.agg #[.string (strL a.f), .int .i64 a.k]) (.agg #[.string (strL b.f), .int .i64 b.k])).run Tryz.prog w = .ok (.bool (!decide (a = b))) w := by
  obtain ⟨f, k⟩ := a
  obtain ⟨f2, k2⟩ := b
  simp [go_sem]
  rw [strL_toList, strL_toList]
  by_cases h1 : f = f2 <;> by_cases h2 : k = k2 <;> simp [h1, h2]
set_option maxRecDepth 100000 in
theorem ne_equalC (a b : CaseD) (w : World) : (binOp .neq 65 (.agg #[.int .i64 a.lo, .int .i64 a.hi, .string (strL a.of_)]) (.agg #[.int .i64 b.lo, .int .i64 b.hi, .string (strL b.of_)])).run Tryz.prog w = .ok (.bool (!decide (a = b))) w := by
  obtain ⟨x, y, s⟩ := a
  obtain ⟨x2, y2, s2⟩ := b
  simp [go_sem]
  rw [strL_toList, strL_toList]
  by_cases h1 : x = x2 <;> by_cases h2 : y = y2 <;> by_cases h3 : s = s2 <;> simp [h1, h2, h3]

set_option maxRecDepth 100000 in
set_option maxHeartbeats 3200000 in
theorem equalT_any (A A2 : Option Addr) (c c2 : Nat) (D D2 : List TermD) (S : Nat → Prop) (w : World) (h : SlAt TermD.cells 2 S w A c D) (h2 : SlAt TermD.cells 2 S w A2 c2 D2) :
    Calls Tryz.prog 133 #[.slice A D.length c, .slice A2 D2.length c2] w fun e w' => e = .returned (.bool (decide (D = D2))) ∧ Below w.heap.size w w' := by
  have hl : D.length ≤ 9223372036854775807 := Nat.le_trans h.1 h.2.1
  have hl2 : D2.length ≤ 9223372036854775807 := Nat.le_trans h2.1 h2.2.1
  have H1 : Hid (∀ wx, Below w.heap.size w wx → SlAt TermD.cells 2 S wx A c D) := Lib.hid (fun wx hb => h.rest (Rest.below (S := fun _ => False) hb) (fun _ _ e => e.elim))
  have H2 : Hid (∀ wx, Below w.heap.size w wx → SlAt TermD.cells 2 S wx A2 c2 D2) := Lib.hid (fun wx hb => h2.rest (Rest.below (S := fun _ => False) hb) (fun _ _ e => e.elim))
  clear h h2
  go_enter Tryz.func133, Tryz.ntmps133
  by_cases hll : D.length = D2.length
  · have HLL := Lib.hid hll
    rw [← hll]
    clear hll hl2
    go_wp2_with fail
    go_loopw [13] (fun x wr => ∃ i : Nat, i ≤ D.length ∧ x = .int .i64 ((i : Nat) : Int) ∧ D.take i = D2.take i ∧ Below w.heap.size w wr) (fun x _ => D.length - (intOf x).toNat)
    case atStart => exact ⟨0, Nat.zero_le _, rfl, rfl, Below.refl _ _⟩
    case round =>
      obtain ⟨i, hi, rfl, ht, hb⟩ := hrel
      have HT := Lib.hid ht
      have HB := Lib.hid hb
      clear ht hb
      by_cases hlt : i < D.length
      · obtain ⟨a, ha⟩ : ∃ a, D[i]? = some a := ⟨_, List.getElem?_eq_getElem hlt⟩
        obtain ⟨b, hb⟩ : ∃ b, D2[i]? = some b := ⟨_, List.getElem?_eq_getElem (by rw [← HLL.out]; exact hlt)⟩
        obtain ⟨g, o, rfl, _, hx⟩ := (H1.out wr HB.out).2.2 i a ha
        obtain ⟨g2, o2, rfl, _, hy⟩ := (H2.out wr HB.out).2.2 i b hb
        have a0 : wr.cell? ⟨g, o + i * 2, none⟩ = some (.string (strL a.f)) := hx 0 _ rfl
        have a1 : wr.cell? ⟨g, o + i * 2 + 1, none⟩ = some (.int .i64 a.k) := hx 1 _ rfl
        have b0 : wr.cell? ⟨g2, o2 + i * 2, none⟩ = some (.string (strL b.f)) := hy 0 _ rfl
        have b1 : wr.cell? ⟨g2, o2 + i * 2 + 1, none⟩ = some (.int .i64 b.k) := hy 1 _ rfl
        have hi0 : (0 : Int) ≤ ((i : Nat) : Int) := by omega
        have hi1 : ((i : Nat) : Int) < ((D.length : Nat) : Int) := by omega
        have HA := Lib.hid ha
        have HBB := Lib.hid hb
        have HNE : ∀ W, (binOp .neq 67 (.agg #[.string (strL a.f), .int .i64 a.k]) (.agg #[.string (strL b.f), .int .i64 b.k])).run Tryz.prog W = .ok (.bool (!decide (a = b))) W := fun W => ne_equalT a b W
        clear ha hb hx hy
        by_cases hab : a = b
        · have HAB := Lib.hid hab
          rw [decide_eq_true hab, Bool.not_true] at HNE
          clear hab
          go_wp2_with fail
          go_quiet (fail)
          go_wp2_with fail
          go_roundw
          case rel => exact ⟨i + 1, by omega, by go_num, by rw [(drop_of HA.out).2, (drop_of HBB.out).2, HT.out, HAB.out], HB.out.trans ((below_drewN _ _).mono HB.out.size)⟩
          case measure => simp [intOf]; omega
        · have HAB := Lib.hid hab
          rw [decide_eq_false hab, Bool.not_false] at HNE
          clear hab
          go_wp2_with fail
          go_quiet (fail)
          go_wp2_with fail
          go_ret
          refine ⟨?_, HB.out.trans ((below_drewN _ _).mono HB.out.size)⟩
          rw [decide_eq_false (fun e : D = D2 => HAB.out (by
            have h1 := HA.out
            rw [e, HBB.out] at h1
            simpa using h1.symm))]
          rfl
      · obtain rfl : i = D.length := by omega
        have hE : D = D2 := by
          have h1 := HT.out
          rw [List.take_length, HLL.out, List.take_length] at h1
          exact h1
        have HE := Lib.hid hE
        clear hE
        go_wp2_with fail
        go_ret
        exact ⟨by rw [decide_eq_true HE.out]; rfl, HB.out⟩
  · have HLL := Lib.hid (fun e : D = D2 => hll (by rw [e]))
    have hd : ¬ ((D.length : Nat) : Int) = ((D2.length : Nat) : Int) := by omega
    clear hll
    go_wp2_with fail
    go_ret
    exact ⟨by rw [decide_eq_false HLL.out]; rfl, Below.refl _ _⟩

set_option maxRecDepth 100000 in
set_option maxHeartbeats 3200000 in
theorem equalC_any (A A2 : Option Addr) (c c2 : Nat) (D D2 : List CaseD) (S : Nat → Prop) (w : World) (h : SlAt CaseD.cells 3 S w A c D) (h2 : SlAt CaseD.cells 3 S w A2 c2 D2) :
    Calls Tryz.prog 134 #[.slice A D.length c, .slice A2 D2.length c2] w fun e w' => e = .returned (.bool (decide (D = D2))) ∧ Below w.heap.size w w' := by
  have hl : D.length ≤ 9223372036854775807 := Nat.le_trans h.1 h.2.1
  have hl2 : D2.length ≤ 9223372036854775807 := Nat.le_trans h2.1 h2.2.1
  have H1 : Hid (∀ wx, Below w.heap.size w wx → SlAt CaseD.cells 3 S wx A c D) := Lib.hid (fun wx hb => h.rest (Rest.below (S := fun _ => False) hb) (fun _ _ e => e.elim))
  have H2 : Hid (∀ wx, Below w.heap.size w wx → SlAt CaseD.cells 3 S wx A2 c2 D2) := Lib.hid (fun wx hb => h2.rest (Rest.below (S := fun _ => False) hb) (fun _ _ e => e.elim))
  clear h h2
  go_enter Tryz.func134, Tryz.ntmps134
  by_cases hll : D.length = D2.length
  · have HLL := Lib.hid hll
    rw [← hll]
    clear hll hl2
    go_wp2_with fail
    go_loopw [13] (fun x wr => ∃ i : Nat, i ≤ D.length ∧ x = .int .i64 ((i : Nat) : Int) ∧ D.take i = D2.take i ∧ Below w.heap.size w wr) (fun x _ => D.length - (intOf x).toNat)
    case atStart => exact ⟨0, Nat.zero_le _, rfl, rfl, Below.refl _ _⟩
    case round =>
      obtain ⟨i, hi, rfl, ht, hb⟩ := hrel
      have HT := Lib.hid ht
      have HB := Lib.hid hb
      clear ht hb
      by_cases hlt : i < D.length
      · obtain ⟨a, ha⟩ : ∃ a, D[i]? = some a := ⟨_, List.getElem?_eq_getElem hlt⟩
        obtain ⟨b, hb⟩ : ∃ b, D2[i]? = some b := ⟨_, List.getElem?_eq_getElem (by rw [← HLL.out]; exact hlt)⟩
        obtain ⟨g, o, rfl, _, hx⟩ := (H1.out wr HB.out).2.2 i a ha
        obtain ⟨g2, o2, rfl, _, hy⟩ := (H2.out wr HB.out).2.2 i b hb
        have a0 : wr.cell? ⟨g, o + i * 3, none⟩ = some (.int .i64 a.lo) := hx 0 _ rfl
        have a1 : wr.cell? ⟨g, o + i * 3 + 1, none⟩ = some (.int .i64 a.hi) := hx 1 _ rfl
        have a2 : wr.cell? ⟨g, o + i * 3 + 2, none⟩ = some (.string (strL a.of_)) := hx 2 _ rfl
        have b0 : wr.cell? ⟨g2, o2 + i * 3, none⟩ = some (.int .i64 b.lo) := hy 0 _ rfl
        have b1 : wr.cell? ⟨g2, o2 + i * 3 + 1, none⟩ = some (.int .i64 b.hi) := hy 1 _ rfl
        have b2 : wr.cell? ⟨g2, o2 + i * 3 + 2, none⟩ = some (.string (strL b.of_)) := hy 2 _ rfl
        have hi0 : (0 : Int) ≤ ((i : Nat) : Int) := by omega
        have hi1 : ((i : Nat) : Int) < ((D.length : Nat) : Int) := by omega
        have HA := Lib.hid ha
        have HBB := Lib.hid hb
        have HNE : ∀ W, (binOp .neq 65 (.agg #[.int .i64 a.lo, .int .i64 a.hi, .string (strL a.of_)]) (.agg #[.int .i64 b.lo, .int .i64 b.hi, .string (strL b.of_)])).run Tryz.prog W = .ok (.bool (!decide (a = b))) W := fun W => ne_equalC a b W
        clear ha hb hx hy
        by_cases hab : a = b
        · have HAB := Lib.hid hab
          rw [decide_eq_true hab, Bool.not_true] at HNE
          clear hab
          go_wp2_with fail
          go_quiet (fail)
          go_wp2_with fail
          go_roundw
          case rel => exact ⟨i + 1, by omega, by go_num, by rw [(drop_of HA.out).2, (drop_of HBB.out).2, HT.out, HAB.out], HB.out.trans ((below_drewN _ _).mono HB.out.size)⟩
          case measure => simp [intOf]; omega
        · have HAB := Lib.hid hab
          rw [decide_eq_false hab, Bool.not_false] at HNE
          clear hab
          go_wp2_with fail
          go_quiet (fail)
          go_wp2_with fail
          go_ret
          refine ⟨?_, HB.out.trans ((below_drewN _ _).mono HB.out.size)⟩
          rw [decide_eq_false (fun e : D = D2 => HAB.out (by
            have h1 := HA.out
            rw [e, HBB.out] at h1
            simpa using h1.symm))]
          rfl
      · obtain rfl : i = D.length := by omega
        have hE : D = D2 := by
          have h1 := HT.out
          rw [List.take_length, HLL.out, List.take_length] at h1
          exact h1
        have HE := Lib.hid hE
        clear hE
        go_wp2_with fail
        go_ret
        exact ⟨by rw [decide_eq_true HE.out]; rfl, HB.out⟩
  · have HLL := Lib.hid (fun e : D = D2 => hll (by rw [e]))
    have hd : ¬ ((D.length : Nat) : Int) = ((D2.length : Nat) : Int) := by omega
    clear hll
    go_wp2_with fail
    go_ret
    exact ⟨by rw [decide_eq_false HLL.out]; rfl, Below.refl _ _⟩

set_option maxRecDepth 100000 in
set_option maxHeartbeats 3200000 in
theorem sameC_any (A A2 : Option Addr) (c c2 : Nat) (D D2 : List CaseD) (S : Nat → Prop) (w : World) (h : SlAt CaseD.cells 3 S w A c D) (h2 : SlAt CaseD.cells 3 S w A2 c2 D2) :
    Calls Tryz.prog 86 #[.slice A D.length c, .slice A2 D2.length c2] w fun e w' => e = .returned (.bool (decide (D = D2))) ∧ Below w.heap.size w w' := by
  have hl : D.length ≤ 9223372036854775807 := Nat.le_trans h.1 h.2.1
  have hl2 : D2.length ≤ 9223372036854775807 := Nat.le_trans h2.1 h2.2.1
  have H1 : Hid (∀ wx, Below w.heap.size w wx → SlAt CaseD.cells 3 S wx A c D) := Lib.hid (fun wx hb => h.rest (Rest.below (S := fun _ => False) hb) (fun _ _ e => e.elim))
  have H2 : Hid (∀ wx, Below w.heap.size w wx → SlAt CaseD.cells 3 S wx A2 c2 D2) := Lib.hid (fun wx hb => h2.rest (Rest.below (S := fun _ => False) hb) (fun _ _ e => e.elim))
  clear h h2
  go_enter Tryz.func86, Tryz.ntmps86
  by_cases hll : D.length = D2.length
  · have HLL := Lib.hid hll
    rw [← hll]
    clear hll hl2
    go_wp2_with fail
    go_loopw [5] (fun x wr => ∃ i : Nat, i ≤ D.length ∧ x = .int .i64 ((i : Nat) : Int) ∧ D.take i = D2.take i ∧ Below w.heap.size w wr) (fun x _ => D.length - (intOf x).toNat)
    case atStart => exact ⟨0, Nat.zero_le _, rfl, rfl, Below.refl _ _⟩
    case round =>
      obtain ⟨i, hi, rfl, ht, hb⟩ := hrel
      have HT := Lib.hid ht
      have HB := Lib.hid hb
      clear ht hb
      by_cases hlt : i < D.length
      · obtain ⟨a, ha⟩ : ∃ a, D[i]? = some a := ⟨_, List.getElem?_eq_getElem hlt⟩
        obtain ⟨b, hb⟩ : ∃ b, D2[i]? = some b := ⟨_, List.getElem?_eq_getElem (by rw [← HLL.out]; exact hlt)⟩
        obtain ⟨g, o, rfl, _, hx⟩ := (H1.out wr HB.out).2.2 i a ha
        obtain ⟨g2, o2, rfl, _, hy⟩ := (H2.out wr HB.out).2.2 i b hb
        have a0 : wr.cell? ⟨g, o + i * 3, none⟩ = some (.int .i64 a.lo) := hx 0 _ rfl
        have a1 : wr.cell? ⟨g, o + i * 3 + 1, none⟩ = some (.int .i64 a.hi) := hx 1 _ rfl
        have a2 : wr.cell? ⟨g, o + i * 3 + 2, none⟩ = some (.string (strL a.of_)) := hx 2 _ rfl
        have b0 : wr.cell? ⟨g2, o2 + i * 3, none⟩ = some (.int .i64 b.lo) := hy 0 _ rfl
        have b1 : wr.cell? ⟨g2, o2 + i * 3 + 1, none⟩ = some (.int .i64 b.hi) := hy 1 _ rfl
        have b2 : wr.cell? ⟨g2, o2 + i * 3 + 2, none⟩ = some (.string (strL b.of_)) := hy 2 _ rfl
        have hi0 : (0 : Int) ≤ ((i : Nat) : Int) := by omega
        have hi1 : ((i : Nat) : Int) < ((D.length : Nat) : Int) := by omega
        have HA := Lib.hid ha
        have HBB := Lib.hid hb
        have HNE : ∀ W, (binOp .neq 65 (.agg #[.int .i64 a.lo, .int .i64 a.hi, .string (strL a.of_)]) (.agg #[.int .i64 b.lo, .int .i64 b.hi, .string (strL b.of_)])).run Tryz.prog W = .ok (.bool (!decide (a = b))) W := fun W => ne_equalC a b W
        clear ha hb hx hy
        by_cases hab : a = b
        · have HAB := Lib.hid hab
          rw [decide_eq_true hab, Bool.not_true] at HNE
          clear hab
          go_wp2_with fail
          go_quiet (fail)
          go_wp2_with fail
          go_roundw
          case rel => exact ⟨i + 1, by omega, by go_num, by rw [(drop_of HA.out).2, (drop_of HBB.out).2, HT.out, HAB.out], HB.out.trans ((below_drewN _ _).mono HB.out.size)⟩
          case measure => simp [intOf]; omega
        · have HAB := Lib.hid hab
          rw [decide_eq_false hab, Bool.not_false] at HNE
          clear hab
          go_wp2_with fail
          go_quiet (fail)
          go_wp2_with fail
          go_ret
          refine ⟨?_, HB.out.trans ((below_drewN _ _).mono HB.out.size)⟩
          rw [decide_eq_false (fun e : D = D2 => HAB.out (by
            have h1 := HA.out
            rw [e, HBB.out] at h1
            simpa using h1.symm))]
          rfl
      · obtain rfl : i = D.length := by omega
        have hE : D = D2 := by
          have h1 := HT.out
          rw [List.take_length, HLL.out, List.take_length] at h1
          exact h1
        have HE := Lib.hid hE
        clear hE
        go_wp2_with fail
        go_ret
        exact ⟨by rw [decide_eq_true HE.out]; rfl, HB.out⟩
  · have HLL := Lib.hid (fun e : D = D2 => hll (by rw [e]))
    have hd : ¬ ((D.length : Nat) : Int) = ((D2.length : Nat) : Int) := by omega
    clear hll
    go_wp2_with fail
    go_ret
    exact ⟨by rw [decide_eq_false HLL.out]; rfl, Below.refl _ _⟩
end Go.Proofs.YtbpkppmbbpoohaaGreat

namespace Go.Proofs.YtbpkppmbbpoohaaGreat
open Go.RowKit Go.Shelf

set_option maxRecDepth 100000 in
set_option maxHeartbeats 3200000 in
theorem sameS_any (x x2 : Int) (A A2 : Option Addr) (c c2 : Nat) (D D2 : List TermD) (S : Nat → Prop) (w : World) (h : SlAt TermD.cells 2 S w A c D) (h2 : SlAt TermD.cells 2 S w A2 c2 D2) :
    Calls Tryz.prog 85 #[.agg #[.int .i64 x, .slice A D.length c], .agg #[.int .i64 x2, .slice A2 D2.length c2]] w fun e w' => e = .returned (.bool (decide (x = x2) && decide (D = D2))) ∧ Below w.heap.size w w' := by
  have hl : D.length ≤ 9223372036854775807 := Nat.le_trans h.1 h.2.1
  have hl2 : D2.length ≤ 9223372036854775807 := Nat.le_trans h2.1 h2.2.1
  obtain ⟨wa, hwa⟩ : ∃ wa, w.alloc (.cells #[.int .i64 x, .slice A D.length c] 52) = wa := ⟨_, rfl⟩
  obtain ⟨w1, hw1⟩ : ∃ w1, wa.alloc (.cells #[.int .i64 x2, .slice A2 D2.length c2] 52) = w1 := ⟨_, rfl⟩
  have hw : (w.alloc (.cells #[.int .i64 x, .slice A D.length c] 52)).alloc (.cells #[.int .i64 x2, .slice A2 D2.length c2] 52) = w1 := by rw [hwa, hw1]
  have ba : Below w.heap.size w wa := by rw [← hwa]; exact below_alloc _ _
  have b1 : Below wa.heap.size wa w1 := by rw [← hw1]; exact below_alloc _ _
  have sa : wa.heap.size = w.heap.size + 1 := by rw [← hwa]; simp
  have hb1 : Below w.heap.size w w1 := ba.trans (b1.mono (by omega))
  have x1 : w1.heap[w.heap.size]? = some (.cells #[.int .i64 x, .slice A D.length c] 52 (0, 0)) := (b1.block _ (by omega)).trans (by rw [← hwa]; exact heap_alloc_new w _)
  have y1 : w1.heap[w.heap.size + 1]? = some (.cells #[.int .i64 x2, .slice A2 D2.length c2] 52 (0, 0)) := by rw [← hw1, ← sa]; exact heap_alloc_new wa _
  obtain ⟨b, eb⟩ : ∃ b, w.heap.size = b := ⟨_, rfl⟩
  rw [eb] at x1 y1
  have KB : Hid (∀ wx, Below w1.heap.size w1 wx → wx.cell? ⟨b, 0, none⟩ = some (.int .i64 x) ∧ wx.cell? ⟨b, 1, none⟩ = some (.slice A D.length c) ∧ wx.cell? ⟨b + 1, 0, none⟩ = some (.int .i64 x2) ∧ wx.cell? ⟨b + 1, 1, none⟩ = some (.slice A2 D2.length c2)) := Lib.hid (fun wx hb => by
    have h1 := (hb.block b (Array.getElem?_eq_some_iff.1 x1).1).trans x1
    have h2 := (hb.block (b + 1) (Array.getElem?_eq_some_iff.1 y1).1).trans y1
    exact ⟨by simp [World.cell?, h1], by simp [World.cell?, h1], by simp [World.cell?, h2], by simp [World.cell?, h2]⟩)
  have H1 : Hid (∀ wx, Below w.heap.size w wx → SlAt TermD.cells 2 S wx A c D) := Lib.hid (fun wx hb => h.rest (Rest.below (S := fun _ => False) hb) (fun _ _ e => e.elim))
  have H2 : Hid (∀ wx, Below w.heap.size w wx → SlAt TermD.cells 2 S wx A2 c2 D2) := Lib.hid (fun wx hb => h2.rest (Rest.below (S := fun _ => False) hb) (fun _ _ e => e.elim))
  have HW := Lib.hid hw
  have EB := Lib.hid eb
  have HB1 := Lib.hid hb1
  obtain ⟨q0, q1, r0, r1⟩ := KB.out w1 (Below.refl _ _)
  clear h h2 hwa hw1 hw ba b1 sa hb1 x1 y1 eb
  go_enter Tryz.func85, Tryz.ntmps85
  go_upto_region 1 with fail
  rw [HW.out, EB.out]
  by_cases hx : x = x2
  · by_cases hll : D.length = D2.length
    · subst hx
      have HLL := Lib.hid hll
      rw [← hll] at KB r1
      clear hll hl2
      rw [← HLL.out]
      go_wp2_with fail
      clear q0 q1 r0 r1
      go_loopw [5] (fun y wr => ∃ i : Nat, i ≤ D.length ∧ y = .int .i64 ((i : Nat) : Int) ∧ D.take i = D2.take i ∧ Below w1.heap.size w1 wr) (fun y _ => D.length - (intOf y).toNat)
      case atStart => exact ⟨0, Nat.zero_le _, rfl, rfl, Below.refl _ _⟩
      case round =>
        obtain ⟨i, hi, rfl, ht, hb⟩ := hrel
        have HT := Lib.hid ht
        have HB := Lib.hid hb
        clear ht hb
        obtain ⟨q0, q1, r0, r1⟩ := KB.out wr HB.out
        by_cases hlt : i < D.length
        · obtain ⟨a, ha⟩ : ∃ a, D[i]? = some a := ⟨_, List.getElem?_eq_getElem hlt⟩
          obtain ⟨b', hb⟩ : ∃ b, D2[i]? = some b := ⟨_, List.getElem?_eq_getElem (by rw [← HLL.out]; exact hlt)⟩
          have hb0 := HB1.out.trans (HB.out.mono HB1.out.size)
          obtain ⟨g, o, rfl, _, hx⟩ := (H1.out wr hb0).2.2 i a ha
          obtain ⟨g2, o2, rfl, _, hy⟩ := (H2.out wr hb0).2.2 i b' hb
          have a0 : wr.cell? ⟨g, o + i * 2, none⟩ = some (.string (strL a.f)) := hx 0 _ rfl
          have a1 : wr.cell? ⟨g, o + i * 2 + 1, none⟩ = some (.int .i64 a.k) := hx 1 _ rfl
          have b0 : wr.cell? ⟨g2, o2 + i * 2, none⟩ = some (.string (strL b'.f)) := hy 0 _ rfl
          have b1 : wr.cell? ⟨g2, o2 + i * 2 + 1, none⟩ = some (.int .i64 b'.k) := hy 1 _ rfl
          have hi0 : (0 : Int) ≤ ((i : Nat) : Int) := by omega
          have hi1 : ((i : Nat) : Int) < ((D.length : Nat) : Int) := by omega
          have HA := Lib.hid ha
          have HBB := Lib.hid hb
          have HNE : ∀ W, (binOp .neq 67 (.agg #[.string (strL a.f), .int .i64 a.k]) (.agg #[.string (strL b'.f), .int .i64 b'.k])).run Tryz.prog W = .ok (.bool (!decide (a = b'))) W := fun W => ne_equalT a b' W
          clear ha hb hx hy hb0
          by_cases hab : a = b'
          · have HAB := Lib.hid hab
            rw [decide_eq_true hab, Bool.not_true] at HNE
            clear hab
            go_wp2_with fail
            go_quiet (fail)
            go_wp2_with fail
            go_roundw
            case rel => exact ⟨i + 1, by omega, by go_num, by rw [(drop_of HA.out).2, (drop_of HBB.out).2, HT.out, HAB.out], HB.out.trans ((below_drewN _ _).mono HB.out.size)⟩
            case measure => simp [intOf]; omega
          · have HAB := Lib.hid hab
            rw [decide_eq_false hab, Bool.not_false] at HNE
            clear hab
            go_wp2_with fail
            go_quiet (fail)
            go_wp2_with fail
            go_ret
            refine ⟨?_, HB1.out.trans ((HB.out.trans ((below_drewN _ _).mono HB.out.size)).mono HB1.out.size)⟩
            rw [decide_eq_false (fun e : D = D2 => HAB.out (by
              have h1 := HA.out
              rw [e, HBB.out] at h1
              simpa using h1.symm))]
            try rw [Bool.and_false]
            rfl
        · obtain rfl : i = D.length := by omega
          have hE : D = D2 := by
            have h1 := HT.out
            rw [List.take_length, HLL.out, List.take_length] at h1
            exact h1
          have HE := Lib.hid hE
          clear hE
          go_wp2_with fail
          go_ret
          exact ⟨by rw [decide_eq_true HE.out]; (try simp); (try rfl), HB1.out.trans (HB.out.mono HB1.out.size)⟩
    · subst hx
      have HLL := Lib.hid (fun e : D = D2 => hll (by rw [e]))
      have hd : ¬ ((D.length : Nat) : Int) = ((D2.length : Nat) : Int) := by omega
      clear hll
      go_wp2_with fail
      go_ret
      exact ⟨by rw [decide_eq_false HLL.out]; (try rw [Bool.and_false]); rfl, HB1.out⟩
  · have HX := Lib.hid hx
    go_wp2_with fail
    go_ret
    exact ⟨by rw [decide_eq_false HX.out, Bool.false_and]; rfl, HB1.out⟩
end Go.Proofs.YtbpkppmbbpoohaaGreat
