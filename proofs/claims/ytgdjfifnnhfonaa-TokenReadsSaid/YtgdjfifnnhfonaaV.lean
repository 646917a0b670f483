/- known of the statements is true: the chapter's examples. No conditions. -/
import Derived.Test.YtgdjfifnnhfonaaU
namespace Go.Proofs.Ytgdjfifnnhfonaa
open Go.RowKit Go.Shelf

def kText : List UInt8 := [110, 58, 32, 117, 105, 110, 116, 32, 56, 32, 48, 46, 46, 48, 120, 49, 70, 59, 32, 35, 32, 120]
def kToks : List TokD := [⟨1, [110], 0, 1, 1⟩, ⟨4, [58], 0, 1, 2⟩, ⟨1, [117, 105, 110, 116], 0, 1, 4⟩, ⟨2, [56], 8, 1, 9⟩, ⟨2, [48], 0, 1, 11⟩, ⟨4, [46, 46], 0, 1, 12⟩, ⟨2, [48, 120, 49, 70], 31, 1, 14⟩, ⟨4, [59], 0, 1, 18⟩]
theorem k_scan : scanS kText = .ok kToks (1, 23) := by kernel_rfl
theorem k_bad1 : scanS [97, 10, 32, 49, 50, 98] = .bad (2, 4) 6 := by kernel_rfl
theorem k_bad2 : scanS [48, 48, 55] = .bad (1, 2) 6 := by kernel_rfl
theorem k_bad3 : scanS [34, 97] = .bad (1, 3) 4 := by kernel_rfl
theorem k_bad4 : scanS [48, 120] = .bad (1, 3) 4 := by kernel_rfl
theorem k_bad5 : scanS [36] = .bad (1, 1) 6 := by kernel_rfl
def kJoin : List TokI := [⟨4, [45, 62], 0, 0, 0⟩, ⟨3, [97, 32, 98], 0, 0, 0⟩, ⟨2, [48, 120, 49, 70], 31, 0, 0⟩]
theorem k_join : joinR kJoin = ([45, 62, 32, 34, 97, 32, 98, 34, 32, 48, 120, 49, 70], 0) := by kernel_rfl

theorem tokCells_get (D : List TokD) (j : Nat) (d : TokD) (h : D[j]? = some d) (i : Nat) (hi : i < 5) : (tokCells D)[j * 5 + i]? = d.cells[i]? := by
  have hj := (List.getElem?_eq_some_iff.1 h).1
  have htk : D.take (j + 1) = D.take j ++ [d] := by
    obtain ⟨hj', rfl⟩ := List.getElem?_eq_some_iff.1 h
    exact List.take_succ_eq_append_getElem hj'
  have e : D = D.take j ++ [d] ++ D.drop (j + 1) := by
    rw [← htk, List.take_append_drop]
  have hc : tokCells D = tokCells (D.take j) ++ (d.cells ++ tokCells (D.drop (j + 1))) := by
    conv => lhs; rw [e]
    simp [tokCells]
  have hl : (tokCells (D.take j)).length = j * 5 := by rw [tokCells_length, List.length_take]; omega
  rw [hc, List.getElem?_append_right (by omega), hl, Nat.add_sub_cancel_left, List.getElem?_append_left (by simpa [TokD.cells] using hi)]

/-- The wanted tokens, without places. -/
def kWant : List TokD := kToks.map fun d => ⟨d.k, d.t, d.v, 0, 0⟩
def kCells : Array Value := #[.int .i64 1, .string ⟨#[110]⟩, .int .i64 0, .int .i64 0, .int .i64 0, .int .i64 4, .string ⟨#[58]⟩, .int .i64 0, .int .i64 0, .int .i64 0, .int .i64 1, .string ⟨#[117, 105, 110, 116]⟩, .int .i64 0, .int .i64 0, .int .i64 0, .int .i64 2, .string ⟨#[56]⟩, .int .i64 8, .int .i64 0, .int .i64 0, .int .i64 2, .string ⟨#[48]⟩, .int .i64 0, .int .i64 0, .int .i64 0, .int .i64 4, .string ⟨#[46, 46]⟩, .int .i64 0, .int .i64 0, .int .i64 0, .int .i64 2, .string ⟨#[48, 120, 49, 70]⟩, .int .i64 31, .int .i64 0, .int .i64 0, .int .i64 4, .string ⟨#[59]⟩, .int .i64 0, .int .i64 0, .int .i64 0]
theorem kCells_eq : kCells = (tokCells kWant).toArray := by kernel_rfl

set_option maxRecDepth 100000 in
set_option maxHeartbeats 3200000 in
theorem known_any (w : World) : Calls Try.prog 8 #[] w fun e w' => e = .returned (.bool true) ∧ Below w.heap.size w w' := by
  have hs1 : Calls Try.prog 9 #[.string ⟨#[110, 58, 32, 117, 105, 110, 116, 32, 56, 32, 48, 46, 46, 48, 120, 49, 70, 59, 32, 35, 32, 120]⟩] w (ScanE (scanS kText) w) := Scan_any kText w (by decide)
  rw [k_scan] at hs1
  have HS1 := Lib.hid hs1
  clear hs1
  go_enter Try.func8, Try.ntmps8
  go_wp2_with fail
  refine HS1.out.mono ?_
  rintro e w2 ⟨hb2, v1, rfl, hrow⟩
  have hrow8 : w2.ownsRow w.heap.size 36 5 v1 8 (tokCells kToks) := hrow
  obtain ⟨g, cp, rfl, hg, hglt, hcp1, hcp2, hcell⟩ := tok_row hrow8 (by omega)
  have hal3 := (Below.refl w2.heap.size w2).alloc (Nat.le_refl _) (.cells #[.int .i64 0, .int .i64 0] 25)
  have hp3 : (w2.alloc (.cells #[.int .i64 0, .int .i64 0] 25)).heap[w2.heap.size]? = some (.cells #[.int .i64 0, .int .i64 0] 25 (0, 0)) := heap_alloc_new w2 _
  obtain ⟨pb, epb⟩ : ∃ pb, w2.heap.size = pb := ⟨_, rfl⟩
  obtain ⟨w3, hw3⟩ : ∃ w3, w2.alloc (.cells #[.int .i64 0, .int .i64 0] 25) = w3 := ⟨_, rfl⟩
  rw [hw3] at hal3 hp3
  have hal4 := (Below.refl w3.heap.size w3).alloc (Nat.le_refl _) (.cells #[.int .i64 1, .string ⟨#[110]⟩, .int .i64 0, .int .i64 0, .int .i64 0, .int .i64 4, .string ⟨#[58]⟩, .int .i64 0, .int .i64 0, .int .i64 0, .int .i64 1, .string ⟨#[117, 105, 110, 116]⟩, .int .i64 0, .int .i64 0, .int .i64 0, .int .i64 2, .string ⟨#[56]⟩, .int .i64 8, .int .i64 0, .int .i64 0, .int .i64 2, .string ⟨#[48]⟩, .int .i64 0, .int .i64 0, .int .i64 0, .int .i64 4, .string ⟨#[46, 46]⟩, .int .i64 0, .int .i64 0, .int .i64 0, .int .i64 2, .string ⟨#[48, 120, 49, 70]⟩, .int .i64 31, .int .i64 0, .int .i64 0, .int .i64 4, .string ⟨#[59]⟩, .int .i64 0, .int .i64 0, .int .i64 0] 36)
  have hwant : ∀ j u, (tokCells kWant)[j]? = some u → (w3.alloc (.cells #[.int .i64 1, .string ⟨#[110]⟩, .int .i64 0, .int .i64 0, .int .i64 0, .int .i64 4, .string ⟨#[58]⟩, .int .i64 0, .int .i64 0, .int .i64 0, .int .i64 1, .string ⟨#[117, 105, 110, 116]⟩, .int .i64 0, .int .i64 0, .int .i64 0, .int .i64 2, .string ⟨#[56]⟩, .int .i64 8, .int .i64 0, .int .i64 0, .int .i64 2, .string ⟨#[48]⟩, .int .i64 0, .int .i64 0, .int .i64 0, .int .i64 4, .string ⟨#[46, 46]⟩, .int .i64 0, .int .i64 0, .int .i64 0, .int .i64 2, .string ⟨#[48, 120, 49, 70]⟩, .int .i64 31, .int .i64 0, .int .i64 0, .int .i64 4, .string ⟨#[59]⟩, .int .i64 0, .int .i64 0, .int .i64 0] 36)).cell? ⟨w3.heap.size, j, none⟩ = some u := fun j u hu => by
    rw [cell_new_at w3 _ 36 _ j rfl]
    change kCells[j]? = some u
    rw [kCells_eq]
    simpa using hu
  have hobj : (w3.alloc (.cells #[.int .i64 1, .string ⟨#[110]⟩, .int .i64 0, .int .i64 0, .int .i64 0, .int .i64 4, .string ⟨#[58]⟩, .int .i64 0, .int .i64 0, .int .i64 0, .int .i64 1, .string ⟨#[117, 105, 110, 116]⟩, .int .i64 0, .int .i64 0, .int .i64 0, .int .i64 2, .string ⟨#[56]⟩, .int .i64 8, .int .i64 0, .int .i64 0, .int .i64 2, .string ⟨#[48]⟩, .int .i64 0, .int .i64 0, .int .i64 0, .int .i64 4, .string ⟨#[46, 46]⟩, .int .i64 0, .int .i64 0, .int .i64 0, .int .i64 2, .string ⟨#[48, 120, 49, 70]⟩, .int .i64 31, .int .i64 0, .int .i64 0, .int .i64 4, .string ⟨#[59]⟩, .int .i64 0, .int .i64 0, .int .i64 0] 36)).heap[w3.heap.size]? = some (.cells #[.int .i64 1, .string ⟨#[110]⟩, .int .i64 0, .int .i64 0, .int .i64 0, .int .i64 4, .string ⟨#[58]⟩, .int .i64 0, .int .i64 0, .int .i64 0, .int .i64 1, .string ⟨#[117, 105, 110, 116]⟩, .int .i64 0, .int .i64 0, .int .i64 0, .int .i64 2, .string ⟨#[56]⟩, .int .i64 8, .int .i64 0, .int .i64 0, .int .i64 2, .string ⟨#[48]⟩, .int .i64 0, .int .i64 0, .int .i64 0, .int .i64 4, .string ⟨#[46, 46]⟩, .int .i64 0, .int .i64 0, .int .i64 0, .int .i64 2, .string ⟨#[48, 120, 49, 70]⟩, .int .i64 31, .int .i64 0, .int .i64 0, .int .i64 4, .string ⟨#[59]⟩, .int .i64 0, .int .i64 0, .int .i64 0] 36 (0, 0)) := heap_alloc_new w3 _
  obtain ⟨wb, ewb⟩ : ∃ wb, w3.heap.size = wb := ⟨_, rfl⟩
  obtain ⟨w4, hw4⟩ : ∃ w4, w3.alloc (.cells #[.int .i64 1, .string ⟨#[110]⟩, .int .i64 0, .int .i64 0, .int .i64 0, .int .i64 4, .string ⟨#[58]⟩, .int .i64 0, .int .i64 0, .int .i64 0, .int .i64 1, .string ⟨#[117, 105, 110, 116]⟩, .int .i64 0, .int .i64 0, .int .i64 0, .int .i64 2, .string ⟨#[56]⟩, .int .i64 8, .int .i64 0, .int .i64 0, .int .i64 2, .string ⟨#[48]⟩, .int .i64 0, .int .i64 0, .int .i64 0, .int .i64 4, .string ⟨#[46, 46]⟩, .int .i64 0, .int .i64 0, .int .i64 0, .int .i64 2, .string ⟨#[48, 120, 49, 70]⟩, .int .i64 31, .int .i64 0, .int .i64 0, .int .i64 4, .string ⟨#[59]⟩, .int .i64 0, .int .i64 0, .int .i64 0] 36) = w4 := ⟨_, rfl⟩
  rw [hw4] at hal4 hwant hobj
  rw [ewb] at hwant hobj
  have hgw : g < wb := by have := hal3.size; omega
  have hl4 : ∀ j u, (tokCells kToks)[j]? = some u → w4.cell? ⟨g, j, none⟩ = some u := fun j u hu =>
    (hal4.cell (p := ⟨g, j, none⟩) (by show g < w3.heap.size; omega)).trans ((hal3.cell (p := ⟨g, j, none⟩) hglt).trans (hcell j u hu))
  rw [epb] at hp3
  have hp4 := (hal4.block pb (Array.getElem?_eq_some_iff.1 hp3).1)
  have hp5 := hp4.trans hp3
  have q0 : w3.cell? ⟨pb, 0, none⟩ = some (.int .i64 0) := by simp [World.cell?, hp3]
  have q1 : w3.cell? ⟨pb, 1, none⟩ = some (.int .i64 0) := by simp [World.cell?, hp3]
  have r0 : w4.cell? ⟨pb, 0, none⟩ = some (.int .i64 0) := by simp [World.cell?, hp5]
  have r1 : w4.cell? ⟨pb, 1, none⟩ = some (.int .i64 0) := by simp [World.cell?, hp5]
  have B4 := Lib.hid ((hb2.trans (hal3.mono hb2.size)).trans (hal4.mono (Nat.le_trans hb2.size hal3.size)))
  have W3 := Lib.hid hw3
  have W4 := Lib.hid hw4
  have EPB := Lib.hid epb
  have EWB := Lib.hid ewb
  have HL4 := Lib.hid hl4
  have HWANT := Lib.hid hwant
  have HOBJ := Lib.hid hobj
  have GW := Lib.hid hgw
  have BW := Lib.hid (show w.heap.size ≤ wb by have := hb2.size; have := hal3.size; omega)
  have hmx : cp ≤ 9223372036854775807 := hcp2
  clear hb2 hrow hrow8 hg hglt hcell HS1 hal3 hp3 hal4 hwant hobj hgw hl4 hp4 hp5 hw3 hw4 epb ewb hcp2
  go_upto_region 2 with fail
  rw [W3.out, EPB.out]
  go_upto_region 3 with fail
  rw [W4.out, EWB.out]
  clear q0 q1
  go_wp2_with fail
  clear r0 r1
  go_loopw [5] (fun x wr => ∃ i : Nat, i ≤ 8 ∧ x = .int .i64 i ∧ Rest (fun q => q = wb) w4 wr ∧ ∃ arr : Array Value, wr.heap[wb]? = some (.cells arr 36 (0, 0)) ∧ ∀ (j : Nat) d, i ≤ j → kWant[j]? = some d → ∀ n u, n < 5 → d.cells[n]? = some u → arr[j * 5 + n]? = some u) (fun x _ => 8 - (intOf x).toNat)
  case atStart =>
    refine ⟨0, Nat.zero_le _, rfl, Rest.refl _ _, _, HOBJ.out, fun j d _ hd n u hn hu => ?_⟩
    have := HWANT.out (j * 5 + n) u (by rw [tokCells_get kWant j d hd n hn]; exact hu)
    simpa [World.cell?, HOBJ.out] using this
  case round =>
    obtain ⟨i, hi8, rfl, hr, arr, hobj, harr⟩ := hrel
    by_cases hlt : i < 8
    · obtain ⟨d, hd⟩ : ∃ d, kToks[i]? = some d := ⟨_, List.getElem?_eq_getElem hlt⟩
      have hdw : kWant[i]? = some ⟨d.k, d.t, d.v, 0, 0⟩ := by unfold kWant; rw [List.getElem?_map, hd]; rfl
      have hx : ∀ n u, n < 5 → d.cells[n]? = some u → wr.cell? ⟨g, i * 5 + n, none⟩ = some u := fun n u hn hu => by
        have := HL4.out (i * 5 + n) u (by rw [tokCells_get kToks i d hd n hn]; exact hu)
        exact (hr.cell (p := ⟨g, i * 5 + n, none⟩) (World.block_lt_of_cell? _ _ this) (by have := GW.out; show ¬ g = wb; omega)).trans this
      have x0 := hx 0 _ (by omega) rfl
      have x1 := hx 1 _ (by omega) rfl
      have x2 := hx 2 _ (by omega) rfl
      have x3 := hx 3 _ (by omega) rfl
      have x4 := hx 4 _ (by omega) rfl
      have a0 := harr i _ (Nat.le_refl _) hdw 0 _ (by omega) rfl
      have a1 := harr i _ (Nat.le_refl _) hdw 1 _ (by omega) rfl
      have a2 := harr i _ (Nat.le_refl _) hdw 2 _ (by omega) rfl
      have a3 := harr i _ (Nat.le_refl _) hdw 3 _ (by omega) rfl
      have a4 := harr i _ (Nat.le_refl _) hdw 4 _ (by omega) rfl
      rw [Nat.add_zero] at x0 a0
      have l4 : i * 5 + 4 < arr.size := (Array.getElem?_eq_some_iff.1 a4).1
      have y3 : wr.cell? ⟨wb, i * 5 + 3, none⟩ = some (.int .i64 ((0 : Nat) : Int)) := by simp [World.cell?, hobj, a3]
      have y4 : wr.cell? ⟨wb, i * 5 + 4, none⟩ = some (.int .i64 ((0 : Nat) : Int)) := by simp [World.cell?, hobj, a4]
      have f3 : wr.frozen? ⟨wb, i * 5 + 3, none⟩ = false := by simp [World.frozen?, hobj]
      have f4 : wr.frozen? ⟨wb, i * 5 + 4, none⟩ = false := by simp [World.frozen?, hobj]
      have hobj5 := heap_setCell_same _ wb (i * 5 + 4) _ 36 (.int .i64 d.cn) (heap_setCell_same wr wb (i * 5 + 3) _ 36 (.int .i64 d.ln) hobj)
      have hr5 : Rest (fun q => q = wb) w4 ((wr.setCell ⟨wb, i * 5 + 3, none⟩ (.int .i64 d.ln)).setCell ⟨wb, i * 5 + 4, none⟩ (.int .i64 d.cn)) := (hr.setCell (p := ⟨wb, i * 5 + 3, none⟩) (fun _ => rfl) _).setCell (p := ⟨wb, i * 5 + 4, none⟩) (fun _ => rfl) _
      have harr5 : ∀ (j : Nat) e, i + 1 ≤ j → kWant[j]? = some e → ∀ n u, n < 5 → e.cells[n]? = some u → ((arr.setIfInBounds (i * 5 + 3) (.int .i64 d.ln)).setIfInBounds (i * 5 + 4) (.int .i64 d.cn))[j * 5 + n]? = some u := fun j e hj he n u hn hu => by
        rw [Array.getElem?_setIfInBounds_ne (by omega), Array.getElem?_setIfInBounds_ne (by omega)]
        exact harr j e (by omega) he n u hn hu
      have b0 : ((arr.setIfInBounds (i * 5 + 3) (.int .i64 d.ln)).setIfInBounds (i * 5 + 4) (.int .i64 d.cn))[i * 5]? = some (.int .i64 d.k) := by
        rw [Array.getElem?_setIfInBounds_ne (by omega), Array.getElem?_setIfInBounds_ne (by omega)]; exact a0
      have b1 : ((arr.setIfInBounds (i * 5 + 3) (.int .i64 d.ln)).setIfInBounds (i * 5 + 4) (.int .i64 d.cn))[i * 5 + 1]? = some (.string (strL d.t)) := by
        rw [Array.getElem?_setIfInBounds_ne (by omega), Array.getElem?_setIfInBounds_ne (by omega)]; exact a1
      have b2 : ((arr.setIfInBounds (i * 5 + 3) (.int .i64 d.ln)).setIfInBounds (i * 5 + 4) (.int .i64 d.cn))[i * 5 + 2]? = some (.int .i64 d.v) := by
        rw [Array.getElem?_setIfInBounds_ne (by omega), Array.getElem?_setIfInBounds_ne (by omega)]; exact a2
      have b3 : ((arr.setIfInBounds (i * 5 + 3) (.int .i64 d.ln)).setIfInBounds (i * 5 + 4) (.int .i64 d.cn))[i * 5 + 3]? = some (.int .i64 d.ln) := by
        rw [Array.getElem?_setIfInBounds_ne (by omega), Array.getElem?_setIfInBounds_self_of_lt (by omega)]
      have b4 : ((arr.setIfInBounds (i * 5 + 3) (.int .i64 d.ln)).setIfInBounds (i * 5 + 4) (.int .i64 d.cn))[i * 5 + 4]? = some (.int .i64 d.cn) := by
        rw [Array.getElem?_setIfInBounds_self_of_lt (by simpa using l4)]
      generalize (arr.setIfInBounds (i * 5 + 3) (.int .i64 d.ln)).setIfInBounds (i * 5 + 4) (.int .i64 d.cn) = arr5 at hobj5 harr5 b0 b1 b2 b3 b4
      have hgw : ¬ g = wb := by have := GW.out; omega
      have OBJ5 := Lib.hid hobj5
      have R5 := Lib.hid hr5
      have ARR5 := Lib.hid harr5
      have BB5 := Lib.hid (And.intro b0 (And.intro b1 (And.intro b2 (And.intro b3 b4))))
      clear hx harr a0 a1 a2 a3 a4 l4 hobj5 hr5 harr5 b0 b1 b2 b3 b4 hr hd hdw hobj
      go_upto_region 9 with fail
      have hobj5 : ((wr.setCell ⟨wb, i * 5 + 3, none⟩ (.int .i64 d.ln)).setCell ⟨wb, i * 5 + 3 + 1, none⟩ (.int .i64 d.cn)).heap[wb]? = some (.cells arr5 36 (0, 0)) := OBJ5.out
      have hr5 : Rest (fun q => q = wb) w4 ((wr.setCell ⟨wb, i * 5 + 3, none⟩ (.int .i64 d.ln)).setCell ⟨wb, i * 5 + 3 + 1, none⟩ (.int .i64 d.cn)) := R5.out
      have hx5 : ∀ n u, wr.cell? ⟨g, i * 5 + n, none⟩ = some u → ((wr.setCell ⟨wb, i * 5 + 3, none⟩ (.int .i64 d.ln)).setCell ⟨wb, i * 5 + 3 + 1, none⟩ (.int .i64 d.cn)).cell? ⟨g, i * 5 + n, none⟩ = some u := fun n u hu => by
        have hr' : Rest (fun q => q = wb) wr ((wr.setCell ⟨wb, i * 5 + 3, none⟩ (.int .i64 d.ln)).setCell ⟨wb, i * 5 + 3 + 1, none⟩ (.int .i64 d.cn)) := ((Rest.refl (fun q => q = wb) wr).setCell (p := ⟨wb, i * 5 + 3, none⟩) (fun _ => rfl) _).setCell (p := ⟨wb, i * 5 + 4, none⟩) (fun _ => rfl) _
        exact (hr'.cell (p := ⟨g, i * 5 + n, none⟩) (World.block_lt_of_cell? _ _ hu) hgw).trans hu
      have z0 := hx5 0 _ x0
      have z1 := hx5 1 _ x1
      have z2 := hx5 2 _ x2
      have z3 := hx5 3 _ x3
      have z4 := hx5 4 _ x4
      generalize ((wr.setCell ⟨wb, i * 5 + 3, none⟩ (.int .i64 d.ln)).setCell ⟨wb, i * 5 + 3 + 1, none⟩ (.int .i64 d.cn)) = w5 at hobj5 hr5 z0 z1 z2 z3 z4 ⊢
      have z0' : w5.cell? ⟨g, i * 5, none⟩ = some (.int .i64 d.k) := z0
      clear z0
      have c0 : w5.cell? ⟨wb, i * 5, none⟩ = some (.int .i64 d.k) := by simp [World.cell?, hobj5, BB5.out.1]
      have c1 : w5.cell? ⟨wb, i * 5 + 1, none⟩ = some (.string (strL d.t)) := by simp [World.cell?, hobj5, BB5.out.2.1]
      have c2 : w5.cell? ⟨wb, i * 5 + 2, none⟩ = some (.int .i64 d.v) := by simp [World.cell?, hobj5, BB5.out.2.2.1]
      have c3 : w5.cell? ⟨wb, i * 5 + 3, none⟩ = some (.int .i64 d.ln) := by simp [World.cell?, hobj5, BB5.out.2.2.2.1]
      have c4 : w5.cell? ⟨wb, i * 5 + 4, none⟩ = some (.int .i64 d.cn) := by simp [World.cell?, hobj5, BB5.out.2.2.2.2]
      have O5 := Lib.hid hobj5
      have RR5 := Lib.hid hr5
      clear hobj5 hr5 hx5 x0 x1 x2 x3 x4 y3 y4 f3 f4 OBJ5 R5 BB5
      go_quiet (fail)
      go_wp2_with fail
      go_roundw
      case rel => exact ⟨i + 1, hlt, by go_num, RR5.out.trans (Rest.below (S := fun _ => False) (below_drewN w5 _)) (fun _ _ e => e.elim), arr5, O5.out, ARR5.out⟩
      case measure => simp [intOf]; omega
    · obtain rfl : i = 8 := by omega
      have hbr : Below w.heap.size w wr := B4.out.trans (hr.toBelow w.heap.size B4.out.size (fun q hq e => by have := BW.out; omega))
      have HBR := Lib.hid hbr
      clear hr hobj harr hbr hlt hi8 HL4 HWANT HOBJ
      have hal := (Below.refl wr.heap.size wr).alloc (Nat.le_refl _) (.cells #[.int .i64 4, .string ⟨#[45, 62]⟩, .int .i64 0, .int .i64 0, .int .i64 0, .int .i64 3, .string ⟨#[97, 32, 98]⟩, .int .i64 0, .int .i64 0, .int .i64 0, .int .i64 2, .string ⟨#[48, 120, 49, 70]⟩, .int .i64 31, .int .i64 0, .int .i64 0] 36)
      have htk : ToksAt (wr.alloc (.cells #[.int .i64 4, .string ⟨#[45, 62]⟩, .int .i64 0, .int .i64 0, .int .i64 0, .int .i64 3, .string ⟨#[97, 32, 98]⟩, .int .i64 0, .int .i64 0, .int .i64 0, .int .i64 2, .string ⟨#[48, 120, 49, 70]⟩, .int .i64 31, .int .i64 0, .int .i64 0] 36)) (.slice (some ⟨wr.heap.size, 0, none⟩) 3 3) kJoin := by
        refine .inr ⟨wr.heap.size, 0, 3, rfl, by decide, by unfold maxLen; decide, fun i d hd j u hu => ?_⟩
        rw [cell_new_at wr _ 36 _ _ rfl]
        match i, hd with
        | 0, hd => cases hd; match j, hu with
          | 0, hu => exact hu
          | 1, hu => exact hu
          | 2, hu => exact hu
          | 3, hu => exact hu
          | 4, hu => exact hu
        | 1, hd => cases hd; match j, hu with
          | 0, hu => exact hu
          | 1, hu => exact hu
          | 2, hu => exact hu
          | 3, hu => exact hu
          | 4, hu => exact hu
        | 2, hd => cases hd; match j, hu with
          | 0, hu => exact hu
          | 1, hu => exact hu
          | 2, hu => exact hu
          | 3, hu => exact hu
          | 4, hu => exact hu
      obtain ⟨kb, ekb⟩ : ∃ kb, wr.heap.size = kb := ⟨_, rfl⟩
      obtain ⟨w6, hw6⟩ : ∃ w6, wr.alloc (.cells #[.int .i64 4, .string ⟨#[45, 62]⟩, .int .i64 0, .int .i64 0, .int .i64 0, .int .i64 3, .string ⟨#[97, 32, 98]⟩, .int .i64 0, .int .i64 0, .int .i64 0, .int .i64 2, .string ⟨#[48, 120, 49, 70]⟩, .int .i64 31, .int .i64 0, .int .i64 0] 36) = w6 := ⟨_, rfl⟩
      rw [hw6] at hal htk
      rw [ekb] at htk
      have hjn := join_any _ kJoin w6 htk (by decide) (by decide)
      rw [k_join] at hjn
      have hjn : Calls Try.prog 14 #[.slice (some ⟨kb, 0, none⟩) 3 3] w6 fun e w' => e = .returned (.tuple #[.string ⟨#[45, 62, 32, 34, 97, 32, 98, 34, 32, 48, 120, 49, 70]⟩, .int .i64 0]) ∧ Below w6.heap.size w6 w' := hjn
      have JN := Lib.hid hjn
      have W6 := Lib.hid hw6
      have EKB := Lib.hid ekb
      have B6 := Lib.hid (HBR.out.trans (hal.mono HBR.out.size))
      have WR1 : ∀ wx, Below w.heap.size w wx → Calls Try.prog 26 #[.string ⟨#[97, 10, 32, 49, 50, 98]⟩, .int .i64 2, .int .i64 4, .int .i64 6] wx fun e w' => e = .returned (.bool true) ∧ Below w.heap.size w w' := fun wx hb => (wrongL_any _ (2, 4) 6 wx (by decide) k_bad1).mono (by rintro e w' ⟨rfl, h⟩; exact ⟨rfl, hb.trans (h.mono hb.size)⟩)
      have WR2 : ∀ wx, Below w.heap.size w wx → Calls Try.prog 26 #[.string ⟨#[48, 48, 55]⟩, .int .i64 1, .int .i64 2, .int .i64 6] wx fun e w' => e = .returned (.bool true) ∧ Below w.heap.size w w' := fun wx hb => (wrongL_any _ (1, 2) 6 wx (by decide) k_bad2).mono (by rintro e w' ⟨rfl, h⟩; exact ⟨rfl, hb.trans (h.mono hb.size)⟩)
      have WR3 : ∀ wx, Below w.heap.size w wx → Calls Try.prog 26 #[.string ⟨#[34, 97]⟩, .int .i64 1, .int .i64 3, .int .i64 4] wx fun e w' => e = .returned (.bool true) ∧ Below w.heap.size w w' := fun wx hb => (wrongL_any _ (1, 3) 4 wx (by decide) k_bad3).mono (by rintro e w' ⟨rfl, h⟩; exact ⟨rfl, hb.trans (h.mono hb.size)⟩)
      have WR4 : ∀ wx, Below w.heap.size w wx → Calls Try.prog 26 #[.string ⟨#[48, 120]⟩, .int .i64 1, .int .i64 3, .int .i64 4] wx fun e w' => e = .returned (.bool true) ∧ Below w.heap.size w w' := fun wx hb => (wrongL_any _ (1, 3) 4 wx (by decide) k_bad4).mono (by rintro e w' ⟨rfl, h⟩; exact ⟨rfl, hb.trans (h.mono hb.size)⟩)
      have WR5 : ∀ wx, Below w.heap.size w wx → Calls Try.prog 26 #[.string ⟨#[36]⟩, .int .i64 1, .int .i64 1, .int .i64 6] wx fun e w' => e = .returned (.bool true) ∧ Below w.heap.size w w' := fun wx hb => (wrongL_any _ (1, 1) 6 wx (by decide) k_bad5).mono (by rintro e w' ⟨rfl, h⟩; exact ⟨rfl, hb.trans (h.mono hb.size)⟩)
      have H1 := Lib.hid WR1
      have H2 := Lib.hid WR2
      have H3 := Lib.hid WR3
      have H4 := Lib.hid WR4
      have H5 := Lib.hid WR5
      clear hal htk hjn hw6 ekb WR1 WR2 WR3 WR4 WR5
      go_wp2_with fail
      rw [W6.out, EKB.out]
      refine JN.out.mono ?_
      rintro e w7 ⟨rfl, hb7⟩
      have hb := B6.out.trans (hb7.mono B6.out.size)
      clear W6 EKB JN hb7 B6 W3 W4 EPB EWB
      go_wp2_with (go_at_call 26; first
        | (with_reducible refine (H1.out _ hb).mono ?_; rintro e w' ⟨rfl, hb⟩)
        | (with_reducible refine (H2.out _ hb).mono ?_; rintro e w' ⟨rfl, hb⟩)
        | (with_reducible refine (H3.out _ hb).mono ?_; rintro e w' ⟨rfl, hb⟩)
        | (with_reducible refine (H4.out _ hb).mono ?_; rintro e w' ⟨rfl, hb⟩)
        | (with_reducible refine (H5.out _ hb).mono ?_; rintro e w' ⟨rfl, hb⟩))
      go_ret
      exact ⟨rfl, hb⟩
end Go.Proofs.Ytgdjfifnnhfonaa
