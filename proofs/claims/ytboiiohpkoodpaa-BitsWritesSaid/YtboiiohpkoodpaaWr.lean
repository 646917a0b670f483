/- write and read of the statements choose the call by its kind. Conditions: the chosen call keeps its contract. -/
import Derived.Test.YtboiiohpkoodpaaNo
namespace Go.Proofs.Ytboiiohpkoodpaa
open Go.RowKit Go.Shelf

def act (kd V N : Int) (A : Option Addr) (m c : Nat) : Value := .agg #[.int .u8 kd, .int .i64 V, .int .i64 N, .slice A m c]
def actBox (w : World) (kd V N : Int) (A : Option Addr) (m c : Nat) : World := w.alloc (.cells #[.int .u8 kd, .int .i64 V, .int .i64 N, .slice A m c] 30)
theorem actBox_below (w : World) (kd V N : Int) (A : Option Addr) (m c : Nat) : Below w.heap.size w (actBox w kd V N A m c) := (Below.refl _ w).alloc (Nat.le_refl _) _

/-- A call that returns a code. -/
def CodePost (Q : Int → World → Prop) (e : Ending) (w' : World) : Prop := ∃ c, e = .returned (.int .i64 c) ∧ Q c w'

set_option maxRecDepth 100000 in
set_option maxHeartbeats 800000 in
theorem write_gen (x : Value) (kd V N : Int) (A : Option Addr) (m c : Nat) (w : World) (hk : 0 ≤ kd) (hk2 : kd ≤ 255) (Q : Int → World → Prop)
    (h0 : kd % 4 = 0 → Calls Try.prog 18 #[x, .int .i64 V, .int .i64 N] (actBox w kd V N A m c) (CodePost Q))
    (h1 : kd % 4 = 1 → Calls Try.prog 32 #[x, .int .i64 V, .int .i64 N] (actBox w kd V N A m c) (CodePost Q))
    (h2 : kd % 4 = 2 → Calls Try.prog 36 #[x, .slice A m c] (actBox w kd V N A m c) (CodePost Q))
    (h3 : kd % 4 = 3 → Calls Try.prog 33 #[x, .int .i64 N] (actBox w kd V N A m c) (CodePost Q)) :
    Calls Try.prog 13 #[x, .agg #[.int .u8 kd, .int .i64 V, .int .i64 N, .slice A m c]] w (CodePost Q) := by
  have H0 := Lib.hid h0
  have H1 := Lib.hid h1
  have H2 := Lib.hid h2
  have H3 := Lib.hid h3
  clear h0 h1 h2 h3
  have hr : kd % 4 = 0 ∨ kd % 4 = 1 ∨ kd % 4 = 2 ∨ kd % 4 = 3 := by omega
  rcases hr with hr | hr | hr | hr
  · have HC := Lib.hid (H0.out hr)
    have HR := Lib.hid hr
    have q0 : (kd % 4 == 0) = true := by simp [hr]
    clear hr
    go_enter Try.func13, Try.ntmps13
    go_wp2_with fail
    refine HC.out.mono ?_
    rintro e w1 ⟨cc, rfl, hq⟩
    have HQ := Lib.hid hq
    clear hq
    go_wp2
    go_ret
    exact ⟨cc, rfl, HQ.out⟩
  · have HC := Lib.hid (H1.out hr)
    have q0 : (kd % 4 == 0) = false := by simp [hr]
    have q1 : (kd % 4 == 1) = true := by simp [hr]
    clear hr
    go_enter Try.func13, Try.ntmps13
    go_wp2_with fail
    refine HC.out.mono ?_
    rintro e w1 ⟨cc, rfl, hq⟩
    have HQ := Lib.hid hq
    clear hq
    go_wp2
    go_ret
    exact ⟨cc, rfl, HQ.out⟩
  · have HC := Lib.hid (H2.out hr)
    have q0 : (kd % 4 == 0) = false := by simp [hr]
    have q1 : (kd % 4 == 1) = false := by simp [hr]
    have q2 : (kd % 4 == 2) = true := by simp [hr]
    clear hr
    go_enter Try.func13, Try.ntmps13
    go_wp2_with fail
    refine HC.out.mono ?_
    rintro e w1 ⟨cc, rfl, hq⟩
    have HQ := Lib.hid hq
    clear hq
    go_wp2
    go_ret
    exact ⟨cc, rfl, HQ.out⟩
  · have HC := Lib.hid (H3.out hr)
    have q0 : (kd % 4 == 0) = false := by simp [hr]
    have q1 : (kd % 4 == 1) = false := by simp [hr]
    have q2 : (kd % 4 == 2) = false := by simp [hr]
    clear hr
    go_enter Try.func13, Try.ntmps13
    go_wp2_with fail
    refine HC.out.mono ?_
    rintro e w1 ⟨cc, rfl, hq⟩
    have HQ := Lib.hid hq
    clear hq
    go_wp2
    go_ret
    exact ⟨cc, rfl, HQ.out⟩

theorem write_nil (kd V N : Int) (A : Option Addr) (m c : Nat) (w : World) (hk : 0 ≤ kd) (hk2 : kd ≤ 255) :
    Calls Try.prog 13 #[.pointer none, .agg #[.int .u8 kd, .int .i64 V, .int .i64 N, .slice A m c]] w fun e w' => e = .returned (.int .i64 1) ∧ Below w.heap.size w w' := by
  have hb := actBox_below w kd V N A m c
  have hp : ∀ e w', (e = .returned (.int .i64 1) ∧ Below (actBox w kd V N A m c).heap.size (actBox w kd V N A m c) w') → CodePost (fun c w' => c = 1 ∧ Below w.heap.size w w') e w' := fun e w' ⟨he, h⟩ => ⟨1, he, rfl, hb.trans (h.mono hb.size)⟩
  refine (write_gen (.pointer none) kd V N A m c w hk hk2 (fun c w' => c = 1 ∧ Below w.heap.size w w') (fun _ => (put_nil _ V N).mono hp) (fun _ => (little_nil _ V N).mono hp) (fun _ => (bytes_nil _ A m c).mono hp) (fun _ => (align_nil _ N).mono hp)).mono ?_
  rintro e w' ⟨c, rfl, rfl, h⟩
  exact ⟨rfl, h⟩

theorem write_zero (b : Nat) (kd V N : Int) (A : Option Addr) (m c : Nat) (w : World) (hb0 : b < w.heap.size) (hc : w.cell? ⟨b, 0, none⟩ = some (.bool false)) (hk : 0 ≤ kd) (hk2 : kd ≤ 255) :
    Calls Try.prog 13 #[.pointer (some ⟨b, 0, none⟩), .agg #[.int .u8 kd, .int .i64 V, .int .i64 N, .slice A m c]] w fun e w' => e = .returned (.int .i64 1) ∧ Below w.heap.size w w' := by
  have hb := actBox_below w kd V N A m c
  have hb1 : b < (actBox w kd V N A m c).heap.size := Nat.lt_of_lt_of_le hb0 hb.size
  have hc1 := (hb.cell (p := ⟨b, 0, none⟩) hb0).trans hc
  have hp : ∀ e w', (e = .returned (.int .i64 1) ∧ Below (actBox w kd V N A m c).heap.size (actBox w kd V N A m c) w') → CodePost (fun c w' => c = 1 ∧ Below w.heap.size w w') e w' := fun e w' ⟨he, h⟩ => ⟨1, he, rfl, hb.trans (h.mono hb.size)⟩
  refine (write_gen (.pointer (some ⟨b, 0, none⟩)) kd V N A m c w hk hk2 (fun c w' => c = 1 ∧ Below w.heap.size w w') (fun _ => (put_zero _ b hb1 hc1 V N).mono hp) (fun _ => (little_zero _ b hb1 hc1 V N).mono hp) (fun _ => (bytes_zero _ b hb1 hc1 A m c).mono hp) (fun _ => (align_zero _ b hb1 hc1 N).mono hp)).mono ?_
  rintro e w' ⟨c, rfl, rfl, h⟩
  exact ⟨rfl, h⟩

/-- A call that returns a number, bytes and a code. -/
def ReadPost (Q : Int → Value → Int → World → Prop) (e : Ending) (w' : World) : Prop := ∃ v s c, e = .returned (.tuple #[.int .i64 v, s, .int .i64 c]) ∧ Q v s c w'

set_option maxRecDepth 100000 in
set_option maxHeartbeats 800000 in
theorem read_gen (x : Value) (kd V N : Int) (A : Option Addr) (m c : Nat) (w : World) (hk : 0 ≤ kd) (hk2 : kd ≤ 255) (Q : Int → Value → Int → World → Prop)
    (h0 : kd % 5 = 0 → Calls Try.prog 28 #[x, .int .i64 N] (actBox w kd V N A m c) (fun e w' => ∃ v c, e = .returned (.tuple #[.int .i64 v, .int .i64 c]) ∧ Q v (.slice none 0 0) c w'))
    (h1 : kd % 5 = 1 → Calls Try.prog 29 #[x, .int .i64 N] (actBox w kd V N A m c) (fun e w' => ∃ v c, e = .returned (.tuple #[.int .i64 v, .int .i64 c]) ∧ Q v (.slice none 0 0) c w'))
    (h2 : kd % 5 = 2 → Calls Try.prog 30 #[x, .int .i64 N] (actBox w kd V N A m c) (fun e w' => ∃ A m k c, e = .returned (.tuple #[.slice A m k, .int .i64 c]) ∧ Q 0 (.slice A m k) c w'))
    (h3 : kd % 5 = 3 → Calls Try.prog 26 #[x, .int .i64 N] (actBox w kd V N A m c) (CodePost (fun c w' => Q 0 (.slice none 0 0) c w')))
    (h4 : kd % 5 = 4 → Calls Try.prog 31 #[x, .int .i64 N] (actBox w kd V N A m c) (CodePost (fun c w' => Q 0 (.slice none 0 0) c w'))) :
    Calls Try.prog 22 #[x, .agg #[.int .u8 kd, .int .i64 V, .int .i64 N, .slice A m c]] w (ReadPost Q) := by
  have H0 := Lib.hid h0
  have H1 := Lib.hid h1
  have H2 := Lib.hid h2
  have H3 := Lib.hid h3
  have H4 := Lib.hid h4
  clear h0 h1 h2 h3 h4
  have hr : kd % 5 = 0 ∨ kd % 5 = 1 ∨ kd % 5 = 2 ∨ kd % 5 = 3 ∨ kd % 5 = 4 := by omega
  rcases hr with hr | hr | hr | hr | hr
  · have HC := Lib.hid (H0.out hr)
    have q0 : (kd % 5 == 0) = true := by simp [hr]
    clear hr
    go_enter Try.func22, Try.ntmps22
    go_wp2_with fail
    refine HC.out.mono ?_
    rintro e w1 ⟨vv, cc, rfl, hq⟩
    have HQ := Lib.hid hq
    clear hq
    go_wp2
    go_ret3
    exact ⟨vv, _, cc, rfl, HQ.out⟩
  · have HC := Lib.hid (H1.out hr)
    have q0 : (kd % 5 == 0) = false := by simp [hr]
    have q1 : (kd % 5 == 1) = true := by simp [hr]
    clear hr
    go_enter Try.func22, Try.ntmps22
    go_wp2_with fail
    refine HC.out.mono ?_
    rintro e w1 ⟨vv, cc, rfl, hq⟩
    have HQ := Lib.hid hq
    clear hq
    go_wp2
    go_ret3
    exact ⟨vv, _, cc, rfl, HQ.out⟩
  · have HC := Lib.hid (H2.out hr)
    have q0 : (kd % 5 == 0) = false := by simp [hr]
    have q1 : (kd % 5 == 1) = false := by simp [hr]
    have q2 : (kd % 5 == 2) = true := by simp [hr]
    clear hr
    go_enter Try.func22, Try.ntmps22
    go_wp2_with fail
    refine HC.out.mono ?_
    rintro e w1 ⟨A2, m2, k2, cc, rfl, hq⟩
    have HQ := Lib.hid hq
    clear hq
    go_wp2
    go_ret3
    exact ⟨0, _, cc, rfl, HQ.out⟩
  · have HC := Lib.hid (H3.out hr)
    have q0 : (kd % 5 == 0) = false := by simp [hr]
    have q1 : (kd % 5 == 1) = false := by simp [hr]
    have q2 : (kd % 5 == 2) = false := by simp [hr]
    have q3 : (kd % 5 == 3) = true := by simp [hr]
    clear hr
    go_enter Try.func22, Try.ntmps22
    go_wp2_with fail
    refine HC.out.mono ?_
    rintro e w1 ⟨cc, rfl, hq⟩
    have HQ := Lib.hid hq
    clear hq
    go_wp2
    go_ret3
    exact ⟨0, _, cc, rfl, HQ.out⟩
  · have HC := Lib.hid (H4.out hr)
    have q0 : (kd % 5 == 0) = false := by simp [hr]
    have q1 : (kd % 5 == 1) = false := by simp [hr]
    have q2 : (kd % 5 == 2) = false := by simp [hr]
    have q3 : (kd % 5 == 3) = false := by simp [hr]
    clear hr
    go_enter Try.func22, Try.ntmps22
    go_wp2_with fail
    refine HC.out.mono ?_
    rintro e w1 ⟨cc, rfl, hq⟩
    have HQ := Lib.hid hq
    clear hq
    go_wp2
    go_ret3
    exact ⟨0, _, cc, rfl, HQ.out⟩

theorem read_nil (kd V N : Int) (A : Option Addr) (m c : Nat) (w : World) (hk : 0 ≤ kd) (hk2 : kd ≤ 255) :
    Calls Try.prog 22 #[.pointer none, .agg #[.int .u8 kd, .int .i64 V, .int .i64 N, .slice A m c]] w fun e w' => e = .returned (.tuple #[.int .i64 0, .slice none 0 0, .int .i64 1]) ∧ Below w.heap.size w w' := by
  have hb := actBox_below w kd V N A m c
  have hp : ∀ w', Below (actBox w kd V N A m c).heap.size (actBox w kd V N A m c) w' → Below w.heap.size w w' := fun w' h => hb.trans (h.mono hb.size)
  refine (read_gen (.pointer none) kd V N A m c w hk hk2 (fun v s c w' => v = 0 ∧ s = .slice none 0 0 ∧ c = 1 ∧ Below w.heap.size w w')
    (fun _ => (get_nil _ N).mono fun e w' ⟨he, h⟩ => ⟨0, 1, he, rfl, rfl, rfl, hp w' h⟩) (fun _ => (rlittle_nil _ N).mono fun e w' ⟨he, h⟩ => ⟨0, 1, he, rfl, rfl, rfl, hp w' h⟩) (fun _ => (take_nil _ N).mono fun e w' ⟨he, h⟩ => ⟨none, 0, 0, 1, he, rfl, rfl, rfl, hp w' h⟩)
    (fun _ => (skip_nil _ N).mono fun e w' ⟨he, h⟩ => ⟨1, he, rfl, rfl, rfl, hp w' h⟩) (fun _ => (pad_nil _ N).mono fun e w' ⟨he, h⟩ => ⟨1, he, rfl, rfl, rfl, hp w' h⟩)).mono ?_
  rintro e w' ⟨v, s, c, rfl, rfl, rfl, rfl, h⟩
  exact ⟨rfl, h⟩

theorem read_zero (b : Nat) (kd V N : Int) (A : Option Addr) (m c : Nat) (w : World) (hb0 : b < w.heap.size) (hc : w.cell? ⟨b, 0, none⟩ = some (.bool false)) (hk : 0 ≤ kd) (hk2 : kd ≤ 255) :
    Calls Try.prog 22 #[.pointer (some ⟨b, 0, none⟩), .agg #[.int .u8 kd, .int .i64 V, .int .i64 N, .slice A m c]] w fun e w' => e = .returned (.tuple #[.int .i64 0, .slice none 0 0, .int .i64 1]) ∧ Below w.heap.size w w' := by
  have hb := actBox_below w kd V N A m c
  have hb1 : b < (actBox w kd V N A m c).heap.size := Nat.lt_of_lt_of_le hb0 hb.size
  have hc1 := (hb.cell (p := ⟨b, 0, none⟩) hb0).trans hc
  have hp : ∀ w', Below (actBox w kd V N A m c).heap.size (actBox w kd V N A m c) w' → Below w.heap.size w w' := fun w' h => hb.trans (h.mono hb.size)
  refine (read_gen (.pointer (some ⟨b, 0, none⟩)) kd V N A m c w hk hk2 (fun v s c w' => v = 0 ∧ s = .slice none 0 0 ∧ c = 1 ∧ Below w.heap.size w w')
    (fun _ => (get_zero _ b hb1 hc1 N).mono fun e w' ⟨he, h⟩ => ⟨0, 1, he, rfl, rfl, rfl, hp w' h⟩) (fun _ => (rlittle_zero _ b hb1 hc1 N).mono fun e w' ⟨he, h⟩ => ⟨0, 1, he, rfl, rfl, rfl, hp w' h⟩) (fun _ => (take_zero _ b hb1 hc1 N).mono fun e w' ⟨he, h⟩ => ⟨none, 0, 0, 1, he, rfl, rfl, rfl, hp w' h⟩)
    (fun _ => (skip_zero _ b hb1 hc1 N).mono fun e w' ⟨he, h⟩ => ⟨1, he, rfl, rfl, rfl, hp w' h⟩) (fun _ => (pad_zero _ b hb1 hc1 N).mono fun e w' ⟨he, h⟩ => ⟨1, he, rfl, rfl, rfl, hp w' h⟩)).mono ?_
  rintro e w' ⟨v, s, c, rfl, rfl, rfl, rfl, h⟩
  exact ⟨rfl, h⟩
end Go.Proofs.Ytboiiohpkoodpaa
