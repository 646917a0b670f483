/- Scan, the text of a token, and which tokens are valid. Conditions: the text has at most 1048576 bytes. -/
import Derived.Test.YtgdjfifnnhfonaaO
import Derived.Test.YtgdjfifnnhfonaaQ
namespace Go.Proofs.Ytgdjfifnnhfonaa
open Go.RowKit Go.Shelf

/-- What Scan answers. -/
def ScanE (r : SRes) (w : World) (e : Ending) (w' : World) : Prop :=
  Below w.heap.size w w' ∧ match r with
  | .ok ts _ => ∃ v, e = .returned (.tuple #[v, .agg #[.int .i64 0, .int .i64 0], .int .i64 0]) ∧ w'.ownsRow w.heap.size 36 5 v ts.length (tokCells ts)
  | .bad q c => e = .returned (.tuple #[.slice none 0 0, .agg #[.int .i64 q.1, .int .i64 q.2], .int .i64 c])

theorem codeOf_ne (l : List UInt8) : codeOf l = 4 ∨ codeOf l = 6 := by unfold codeOf; split <;> simp

theorem pre_bad {ts : List TokD} {r : SRes} {q : Nat × Nat} {c : Nat} (h : pre ts r = .bad q c) : r = .bad q c := by
  cases r with
  | ok us p => simp [pre] at h
  | bad p d => simpa [pre] using h
theorem scanG_bad : ∀ (f : Nat) (l : List UInt8) (q q' : Nat × Nat) (c : Nat), scanG f l q = .bad q' c → c = 4 ∨ c = 6
  | 0, _, _, _, _, h => by simp [scanG] at h
  | f + 1, l, q, q', c, h => by
    rw [scanG_blank, scanG_step f _ _ (spanP_drop isBlank l)] at h
    split at h
    · cases h
    · split at h
      · exact scanG_bad f _ _ _ _ h
      · split at h
        · cases h
        · exact scanG_bad f _ _ _ _ (pre_bad h)
        · cases h
          exact codeOf_ne _

set_option maxRecDepth 100000 in
set_option maxHeartbeats 1600000 in
theorem Scan_any (l : List UInt8) (w : World) (h3 : l.length ≤ 1048576) :
    Calls Try.prog 9 #[.string (strL l)] w (ScanE (scanS l) w) := by
  have hal := (Below.refl w.heap.size w).alloc (Nat.le_refl _) (.cells #[.int .i64 0, .int .i64 0] 25)
  have hpl : (w.alloc (.cells #[.int .i64 0, .int .i64 0] 25)).heap[w.heap.size]? = some (.cells #[.int .i64 0, .int .i64 0] 25 (0, 0)) := heap_alloc_new w _
  obtain ⟨rb, erb⟩ : ∃ rb, w.heap.size = rb := ⟨_, rfl⟩
  obtain ⟨w1, hw1⟩ : ∃ w1, w.alloc (.cells #[.int .i64 0, .int .i64 0] 25) = w1 := ⟨_, rfl⟩
  rw [hw1] at hal hpl
  rw [erb] at hpl
  have HS := Lib.hid (scan_any l w1 h3)
  obtain ⟨R, hR⟩ : ∃ R, scanS l = R := ⟨_, rfl⟩
  have hbad : ∀ q c, R = .bad q c → c = 4 ∨ c = 6 := fun q c e => scanG_bad _ _ _ q c (hR.trans e)
  have HBD := Lib.hid hbad
  rw [hR] at HS ⊢
  have W1 := Lib.hid hw1
  have HAL := Lib.hid hal
  have HPL := Lib.hid hpl
  have ERB := Lib.hid erb
  clear hw1 hal hpl erb hR hbad
  go_enter Try.func9, Try.ntmps9
  go_wp2_with fail
  rw [W1.out, ERB.out]
  refine HS.out.mono ?_
  rintro e w2 ⟨hb2, hm⟩
  have hb2' := HAL.out.trans (hb2.mono HAL.out.size)
  have hpl2 := (hb2.block rb (Array.getElem?_eq_some_iff.1 HPL.out).1).trans HPL.out
  have hal3 := (Below.refl w2.heap.size w2)
  cases R with
  | bad q c =>
    subst hm
    have hc : ((c : Nat) : Int) = 4 ∨ ((c : Nat) : Int) = 6 := by rcases HBD.out q c rfl with h | h <;> simp [h]
    have hq : (((c : Nat) : Int) == 0) = false := by simp; omega
    have hal := (Below.refl w2.heap.size w2).alloc (Nat.le_refl _) (.cells #[.int .i64 q.1, .int .i64 q.2] 25)
    have hb3 := hb2'.trans (hal.mono (by have := hb2'.size; omega))
    have hpl3 := (hal.block rb (Array.getElem?_eq_some_iff.1 hpl2).1).trans hpl2
    have hpn : (w2.alloc (.cells #[.int .i64 q.1, .int .i64 q.2] 25)).heap[w2.heap.size]? = some (.cells #[.int .i64 q.1, .int .i64 q.2] 25 (0, 0)) := heap_alloc_new w2 _
    have hlt := (Array.getElem?_eq_some_iff.1 hpl2).1
    obtain ⟨nb, enb⟩ : ∃ nb, w2.heap.size = nb := ⟨_, rfl⟩
    obtain ⟨w3, hw3⟩ : ∃ w3, w2.alloc (.cells #[.int .i64 q.1, .int .i64 q.2] 25) = w3 := ⟨_, rfl⟩
    rw [hw3] at hb3 hpl3 hpn
    rw [enb] at hpn hlt
    have W3 := Lib.hid hw3
    have ENB := Lib.hid enb
    have B3 := Lib.hid hb3
    have r0 : w3.cell? ⟨rb, 0, none⟩ = some (.int .i64 0) := by simp [World.cell?, hpl3]
    have r1 : w3.cell? ⟨rb, 1, none⟩ = some (.int .i64 0) := by simp [World.cell?, hpl3]
    have s0 : w3.frozen? ⟨rb, 0, none⟩ = false := by simp [World.frozen?, hpl3]
    have s1 : w3.frozen? ⟨rb, 1, none⟩ = false := by simp [World.frozen?, hpl3]
    have n0 : w3.cell? ⟨nb, 0, none⟩ = some (.int .i64 q.1) := by simp [World.cell?, hpn]
    have n1 : w3.cell? ⟨nb, 1, none⟩ = some (.int .i64 q.2) := by simp [World.cell?, hpn]
    have PL3 := Lib.hid hpl3
    clear hc hal hb3 hpl3 hpn hlt hw3 enb hb2 hb2' hpl2 hal3
    go_upto_region 2 with fail
    rw [W3.out, ENB.out]
    go_wp2_with fail
    go_region
    have hpl5 : ((w3.setCell ⟨rb, 0, none⟩ (.int .i64 q.1)).setCell ⟨rb, 1, none⟩ (.int .i64 q.2)).drew.heap[rb]? = some (.cells #[.int .i64 q.1, .int .i64 q.2] 25 (0, 0)) :=
      heap_setCell_same _ rb 1 _ 25 (.int .i64 q.2) (heap_setCell_same w3 rb 0 _ 25 (.int .i64 q.1) PL3.out)
    have hr5 : Rest (fun i => i = rb) w3 ((w3.setCell ⟨rb, 0, none⟩ (.int .i64 q.1)).setCell ⟨rb, 1, none⟩ (.int .i64 q.2)).drew :=
      (((Rest.refl (fun i => i = rb) w3).setCell (S := fun i => i = rb) (p := ⟨rb, 0, none⟩) (fun _ => rfl) _).setCell (S := fun i => i = rb) (p := ⟨rb, 1, none⟩) (fun _ => rfl) _).drew
    generalize ((w3.setCell ⟨rb, 0, none⟩ (.int .i64 q.1)).setCell ⟨rb, 1, none⟩ (.int .i64 q.2)).drew = w5 at hpl5 hr5 ⊢
    have z0 : w5.cell? ⟨rb, 0, none⟩ = some (.int .i64 q.1) := by simp [World.cell?, hpl5]
    have z1 : w5.cell? ⟨rb, 1, none⟩ = some (.int .i64 q.2) := by simp [World.cell?, hpl5]
    have B5 := Lib.hid (B3.out.trans (hr5.toBelow w.heap.size B3.out.size (fun i hi e => by have := ERB.out; omega)))
    have R5 := Lib.hid hr5
    clear hpl5 hr5 r0 r1 s0 s1 n0 n1
    go_wp2_with fail
    refine bodyPost_ret (by simp [results, Try.results9, go_sem, *]; try rfl) rfl ?_
    exact ⟨B5.out, rfl⟩
  | ok ts q =>
    obtain ⟨v, rfl, hrow⟩ := hm
    obtain ⟨A, cp, rfl⟩ := row_shape hrow
    have hal := (Below.refl w2.heap.size w2).alloc (Nat.le_refl _) (.cells #[.int .i64 0, .int .i64 0] 25)
    have hb3 := hb2'.trans (hal.mono (by have := hb2'.size; omega))
    have hpl3 := (hal.block rb (Array.getElem?_eq_some_iff.1 hpl2).1).trans hpl2
    have hpn : (w2.alloc (.cells #[.int .i64 0, .int .i64 0] 25)).heap[w2.heap.size]? = some (.cells #[.int .i64 0, .int .i64 0] 25 (0, 0)) := heap_alloc_new w2 _
    have hlt := (Array.getElem?_eq_some_iff.1 hpl2).1
    have hrow3 := Rest.row (S := fun _ => False) (Rest.below hal) hrow (fun _ _ e => e)
    have hsz1 := HAL.out.size
    have hgt : rb < w1.heap.size := (Array.getElem?_eq_some_iff.1 HPL.out).1
    obtain ⟨nb, enb⟩ : ∃ nb, w2.heap.size = nb := ⟨_, rfl⟩
    obtain ⟨w3, hw3⟩ : ∃ w3, w2.alloc (.cells #[.int .i64 0, .int .i64 0] 25) = w3 := ⟨_, rfl⟩
    rw [hw3] at hb3 hpl3 hpn hrow3
    rw [enb] at hpn hlt
    have W3 := Lib.hid hw3
    have ENB := Lib.hid enb
    have B3 := Lib.hid hb3
    have ROW3 := Lib.hid hrow3
    have GT := Lib.hid (And.intro hgt hsz1)
    have r0 : w3.cell? ⟨rb, 0, none⟩ = some (.int .i64 0) := by simp [World.cell?, hpl3]
    have r1 : w3.cell? ⟨rb, 1, none⟩ = some (.int .i64 0) := by simp [World.cell?, hpl3]
    have s0 : w3.frozen? ⟨rb, 0, none⟩ = false := by simp [World.frozen?, hpl3]
    have s1 : w3.frozen? ⟨rb, 1, none⟩ = false := by simp [World.frozen?, hpl3]
    have n0 : w3.cell? ⟨nb, 0, none⟩ = some (.int .i64 0) := by simp [World.cell?, hpn]
    have n1 : w3.cell? ⟨nb, 1, none⟩ = some (.int .i64 0) := by simp [World.cell?, hpn]
    have PL3 := Lib.hid hpl3
    clear hal hb3 hpl3 hpn hlt hw3 enb hb2 hb2' hpl2 hal3 hrow hrow3 hsz1 hgt
    go_upto_region 4 with fail
    rw [W3.out, ENB.out]
    go_region
    have hpl5 : ((w3.setCell ⟨rb, 0, none⟩ (.int .i64 0)).setCell ⟨rb, 1, none⟩ (.int .i64 0)).drew.heap[rb]? = some (.cells #[.int .i64 0, .int .i64 0] 25 (0, 0)) :=
      heap_setCell_same _ rb 1 _ 25 (.int .i64 0) (heap_setCell_same w3 rb 0 _ 25 (.int .i64 0) PL3.out)
    have hr5 : Rest (fun i => i = rb) w3 ((w3.setCell ⟨rb, 0, none⟩ (.int .i64 0)).setCell ⟨rb, 1, none⟩ (.int .i64 0)).drew :=
      (((Rest.refl (fun i => i = rb) w3).setCell (S := fun i => i = rb) (p := ⟨rb, 0, none⟩) (fun _ => rfl) _).setCell (S := fun i => i = rb) (p := ⟨rb, 1, none⟩) (fun _ => rfl) _).drew
    generalize ((w3.setCell ⟨rb, 0, none⟩ (.int .i64 0)).setCell ⟨rb, 1, none⟩ (.int .i64 0)).drew = w5 at hpl5 hr5 ⊢
    have z0 : w5.cell? ⟨rb, 0, none⟩ = some (.int .i64 0) := by simp [World.cell?, hpl5]
    have z1 : w5.cell? ⟨rb, 1, none⟩ = some (.int .i64 0) := by simp [World.cell?, hpl5]
    have B5 := Lib.hid (B3.out.trans (hr5.toBelow w.heap.size B3.out.size (fun i hi e => by have := ERB.out; omega)))
    have R5 := Lib.hid hr5
    clear hpl5 hr5 r0 r1 s0 s1 n0 n1
    go_wp2_with fail
    refine bodyPost_ret (by simp [results, Try.results9, go_sem, *]; try rfl) rfl ?_
    exact ⟨B5.out, _, rfl, Joins.ownsRow_le (R5.out.row ROW3.out (fun k hk e => by have := row_ge ROW3.out k hk; have := GT.out; omega)) GT.out.2⟩
end Go.Proofs.Ytgdjfifnnhfonaa
