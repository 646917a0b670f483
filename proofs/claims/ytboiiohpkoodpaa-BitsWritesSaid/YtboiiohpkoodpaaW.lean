/- The conditions of Get, Little, Take, Skip and Pad. Conditions: the captured variables hold what is said. -/
import Derived.Test.YtboiiohpkoodpaaV
namespace Go.Proofs.Ytboiiohpkoodpaa
open Go.RowKit Go.Shelf

set_option maxHeartbeats 400000 in
theorem within63_any (B1 : Nat) (n : Int) (w : World) (hn : w.cell? ⟨B1, 0, none⟩ = some (.int .i64 n)) :
    Calls Try.prog 63 #[.pointer (some ⟨B1, 0, none⟩)] w fun e w' => e = .returned (.bool (!(withinB n 1 32))) ∧ w = w' := by
  go_enter Try.func63, Try.ntmps63
  go_wp2_with (go_at_call 45; go_must (refine (within_ok n 1 32 _).mono ?_); rintro e w1 ⟨rfl, rfl⟩)
  go_ret
  exact ⟨rfl, rfl⟩
theorem good63 {W : World} {B1 : Nat} {n : Int} (l1 : B1 < W.heap.size) (hn : W.cell? ⟨B1, 0, none⟩ = some (.int .i64 n)) :
    CndGood W ⟨2, 63, #[], #[.pointer (some ⟨B1, 0, none⟩)], !(withinB n 1 32)⟩ :=
  .of_same (by simp) Try.ent63 fun W' hW' => within63_any B1 n W' ((hW'.cell (p := ⟨B1, 0, none⟩) l1).trans hn)

set_option maxHeartbeats 400000 in
theorem within66_any (B1 : Nat) (n : Int) (w : World) (hn : w.cell? ⟨B1, 0, none⟩ = some (.int .i64 n)) :
    Calls Try.prog 66 #[.pointer (some ⟨B1, 0, none⟩)] w fun e w' => e = .returned (.bool (!(withinB n 1 4))) ∧ w = w' := by
  go_enter Try.func66, Try.ntmps66
  go_wp2_with (go_at_call 45; go_must (refine (within_ok n 1 4 _).mono ?_); rintro e w1 ⟨rfl, rfl⟩)
  go_ret
  exact ⟨rfl, rfl⟩
theorem good66 {W : World} {B1 : Nat} {n : Int} (l1 : B1 < W.heap.size) (hn : W.cell? ⟨B1, 0, none⟩ = some (.int .i64 n)) :
    CndGood W ⟨2, 66, #[], #[.pointer (some ⟨B1, 0, none⟩)], !(withinB n 1 4)⟩ :=
  .of_same (by simp) Try.ent66 fun W' hW' => within66_any B1 n W' ((hW'.cell (p := ⟨B1, 0, none⟩) l1).trans hn)

set_option maxHeartbeats 400000 in
theorem within74_any (B1 : Nat) (n : Int) (w : World) (hn : w.cell? ⟨B1, 0, none⟩ = some (.int .i64 n)) :
    Calls Try.prog 74 #[.pointer (some ⟨B1, 0, none⟩)] w fun e w' => e = .returned (.bool (!(withinB n 1 4096))) ∧ w = w' := by
  go_enter Try.func74, Try.ntmps74
  go_wp2_with (go_at_call 45; go_must (refine (within_ok n 1 4096 _).mono ?_); rintro e w1 ⟨rfl, rfl⟩)
  go_ret
  exact ⟨rfl, rfl⟩
theorem good74 {W : World} {B1 : Nat} {n : Int} (l1 : B1 < W.heap.size) (hn : W.cell? ⟨B1, 0, none⟩ = some (.int .i64 n)) :
    CndGood W ⟨2, 74, #[], #[.pointer (some ⟨B1, 0, none⟩)], !(withinB n 1 4096)⟩ :=
  .of_same (by simp) Try.ent74 fun W' hW' => within74_any B1 n W' ((hW'.cell (p := ⟨B1, 0, none⟩) l1).trans hn)

set_option maxHeartbeats 400000 in
theorem neg59_any (B1 : Nat) (n : Int) (w : World) (hn : w.cell? ⟨B1, 0, none⟩ = some (.int .i64 n)) :
    Calls Try.prog 59 #[.pointer (some ⟨B1, 0, none⟩)] w fun e w' => e = .returned (.bool (decide (n < 0))) ∧ w = w' := by
  go_enter Try.func59, Try.ntmps59
  go_wp2
  go_ret
  exact ⟨rfl, rfl⟩
theorem good59 {W : World} {B1 : Nat} {n : Int} (l1 : B1 < W.heap.size) (hn : W.cell? ⟨B1, 0, none⟩ = some (.int .i64 n)) :
    CndGood W ⟨2, 59, #[], #[.pointer (some ⟨B1, 0, none⟩)], decide (n < 0)⟩ :=
  .of_same (by simp) Try.ent59 fun W' hW' => neg59_any B1 n W' ((hW'.cell (p := ⟨B1, 0, none⟩) l1).trans hn)

set_option maxHeartbeats 400000 in
theorem neg71_any (B1 : Nat) (n : Int) (w : World) (hn : w.cell? ⟨B1, 0, none⟩ = some (.int .i64 n)) :
    Calls Try.prog 71 #[.pointer (some ⟨B1, 0, none⟩)] w fun e w' => e = .returned (.bool (decide (n < 0))) ∧ w = w' := by
  go_enter Try.func71, Try.ntmps71
  go_wp2
  go_ret
  exact ⟨rfl, rfl⟩
theorem good71 {W : World} {B1 : Nat} {n : Int} (l1 : B1 < W.heap.size) (hn : W.cell? ⟨B1, 0, none⟩ = some (.int .i64 n)) :
    CndGood W ⟨2, 71, #[], #[.pointer (some ⟨B1, 0, none⟩)], decide (n < 0)⟩ :=
  .of_same (by simp) Try.ent71 fun W' hW' => neg71_any B1 n W' ((hW'.cell (p := ⟨B1, 0, none⟩) l1).trans hn)

set_option maxHeartbeats 400000 in
theorem al67_any (B1 b : Nat) (n : Nat) (w : World) (hw : w.cell? ⟨B1, 0, none⟩ = some (.pointer (some ⟨b, 0, none⟩))) (hc : w.cell? ⟨b, 2, none⟩ = some (.int .i64 n)) :
    Calls Try.prog 67 #[.pointer (some ⟨B1, 0, none⟩)] w fun e w' => e = .returned (.bool (!((n : Int) % 8 == 0))) ∧ w = w' := by
  go_enter Try.func67, Try.ntmps67
  go_wp2_with (go_at_call 68; go_must (refine (aligned_any b n _ (by omega) hc).mono ?_); rintro e w1 ⟨rfl, rfl⟩)
  go_ret
  exact ⟨rfl, rfl⟩
theorem good67 {W : World} {B1 b n : Nat} (l1 : B1 < W.heap.size) (lb : b < W.heap.size) (hw : W.cell? ⟨B1, 0, none⟩ = some (.pointer (some ⟨b, 0, none⟩))) (hc : W.cell? ⟨b, 2, none⟩ = some (.int .i64 n)) :
    CndGood W ⟨8, 67, #[], #[.pointer (some ⟨B1, 0, none⟩)], !((n : Int) % 8 == 0)⟩ :=
  .of_same (by simp) Try.ent67 fun W' hW' => al67_any B1 b n W' ((hW'.cell (p := ⟨B1, 0, none⟩) l1).trans hw) ((hW'.cell (p := ⟨b, 2, none⟩) lb).trans hc)

set_option maxHeartbeats 400000 in
theorem al72_any (B1 b : Nat) (n : Nat) (w : World) (hw : w.cell? ⟨B1, 0, none⟩ = some (.pointer (some ⟨b, 0, none⟩))) (hc : w.cell? ⟨b, 2, none⟩ = some (.int .i64 n)) :
    Calls Try.prog 72 #[.pointer (some ⟨B1, 0, none⟩)] w fun e w' => e = .returned (.bool (!((n : Int) % 8 == 0))) ∧ w = w' := by
  go_enter Try.func72, Try.ntmps72
  go_wp2_with (go_at_call 68; go_must (refine (aligned_any b n _ (by omega) hc).mono ?_); rintro e w1 ⟨rfl, rfl⟩)
  go_ret
  exact ⟨rfl, rfl⟩
theorem good72 {W : World} {B1 b n : Nat} (l1 : B1 < W.heap.size) (lb : b < W.heap.size) (hw : W.cell? ⟨B1, 0, none⟩ = some (.pointer (some ⟨b, 0, none⟩))) (hc : W.cell? ⟨b, 2, none⟩ = some (.int .i64 n)) :
    CndGood W ⟨8, 72, #[], #[.pointer (some ⟨B1, 0, none⟩)], !((n : Int) % 8 == 0)⟩ :=
  .of_same (by simp) Try.ent72 fun W' hW' => al72_any B1 b n W' ((hW'.cell (p := ⟨B1, 0, none⟩) l1).trans hw) ((hW'.cell (p := ⟨b, 2, none⟩) lb).trans hc)

set_option maxHeartbeats 400000 in
theorem lt60_any (B1 B2 b : Nat) (v : Value) (B : List Nat) (p : Nat) (n : Int) (w : World) (hn : w.cell? ⟨B1, 0, none⟩ = some (.int .i64 n)) (hw : w.cell? ⟨B2, 0, none⟩ = some (.pointer (some ⟨b, 0, none⟩))) (hr : RAt w b v B p) (hB : B.length ≤ 1048576) (hp : p ≤ 8 * B.length) :
    Calls Try.prog 60 #[.pointer (some ⟨B1, 0, none⟩), .pointer (some ⟨B2, 0, none⟩)] w fun e w' => e = .returned (.bool (decide (8 * (B.length : Int) - p < n))) ∧ Below w.heap.size w w' := by
  have HR := Lib.hid hr
  clear hr
  go_enter Try.func60, Try.ntmps60
  go_wp2
  go_quiet ((go_at_call 25; exact quiet_left (left_any b v B p _ (HR.out.drewN _) hB hp)))
  go_wp2
  go_ret
  exact ⟨rfl, below_drewN (Below.refl _ _) nq⟩
theorem good60 {W : World} {B1 B2 b : Nat} {v : Value} {B : List Nat} {p : Nat} {n : Int} (l1 : B1 < W.heap.size) (l2 : B2 < W.heap.size) (hn : W.cell? ⟨B1, 0, none⟩ = some (.int .i64 n)) (hw : W.cell? ⟨B2, 0, none⟩ = some (.pointer (some ⟨b, 0, none⟩))) (hr : RAt W b v B p) (hB : B.length ≤ 1048576) (hp : p ≤ 8 * B.length) :
    CndGood W ⟨4, 60, #[], #[.pointer (some ⟨B1, 0, none⟩), .pointer (some ⟨B2, 0, none⟩)], decide (8 * (B.length : Int) - p < n)⟩ :=
  .of (by simp) Try.ent60 fun W' hW' => lt60_any B1 B2 b v B p n W' ((hW'.cell (p := ⟨B1, 0, none⟩) l1).trans hn) ((hW'.cell (p := ⟨B2, 0, none⟩) l2).trans hw) (hr.below hW') hB hp 

set_option maxHeartbeats 400000 in
theorem lt64_any (B1 B2 b : Nat) (v : Value) (B : List Nat) (p : Nat) (n : Int) (w : World) (hn : w.cell? ⟨B1, 0, none⟩ = some (.int .i64 n)) (hw : w.cell? ⟨B2, 0, none⟩ = some (.pointer (some ⟨b, 0, none⟩))) (hr : RAt w b v B p) (hB : B.length ≤ 1048576) (hp : p ≤ 8 * B.length) :
    Calls Try.prog 64 #[.pointer (some ⟨B1, 0, none⟩), .pointer (some ⟨B2, 0, none⟩)] w fun e w' => e = .returned (.bool (decide (8 * (B.length : Int) - p < n))) ∧ Below w.heap.size w w' := by
  have HR := Lib.hid hr
  clear hr
  go_enter Try.func64, Try.ntmps64
  go_wp2
  go_quiet ((go_at_call 25; exact quiet_left (left_any b v B p _ (HR.out.drewN _) hB hp)))
  go_wp2
  go_ret
  exact ⟨rfl, below_drewN (Below.refl _ _) nq⟩
theorem good64 {W : World} {B1 B2 b : Nat} {v : Value} {B : List Nat} {p : Nat} {n : Int} (l1 : B1 < W.heap.size) (l2 : B2 < W.heap.size) (hn : W.cell? ⟨B1, 0, none⟩ = some (.int .i64 n)) (hw : W.cell? ⟨B2, 0, none⟩ = some (.pointer (some ⟨b, 0, none⟩))) (hr : RAt W b v B p) (hB : B.length ≤ 1048576) (hp : p ≤ 8 * B.length) :
    CndGood W ⟨4, 64, #[], #[.pointer (some ⟨B1, 0, none⟩), .pointer (some ⟨B2, 0, none⟩)], decide (8 * (B.length : Int) - p < n)⟩ :=
  .of (by simp) Try.ent64 fun W' hW' => lt64_any B1 B2 b v B p n W' ((hW'.cell (p := ⟨B1, 0, none⟩) l1).trans hn) ((hW'.cell (p := ⟨B2, 0, none⟩) l2).trans hw) (hr.below hW') hB hp 

set_option maxHeartbeats 400000 in
theorem lt69_any (B1 B2 b : Nat) (v : Value) (B : List Nat) (p : Nat) (n : Int) (w : World) (hn : w.cell? ⟨B1, 0, none⟩ = some (.int .i64 n)) (hw : w.cell? ⟨B2, 0, none⟩ = some (.pointer (some ⟨b, 0, none⟩))) (hr : RAt w b v B p) (hB : B.length ≤ 1048576) (hp : p ≤ 8 * B.length) (hn1 : 1 ≤ n) (hn2 : n ≤ 4) :
    Calls Try.prog 69 #[.pointer (some ⟨B1, 0, none⟩), .pointer (some ⟨B2, 0, none⟩)] w fun e w' => e = .returned (.bool (decide (8 * (B.length : Int) - p < 8 * n))) ∧ Below w.heap.size w w' := by
  have HR := Lib.hid hr
  clear hr
  have q1 : IntKind.i64.wrap (8 * n) = 8 * n := IntWalk.i64_in _ (by omega)
  go_enter Try.func69, Try.ntmps69
  go_wp2
  go_quiet ((go_at_call 25; exact quiet_left (left_any b v B p _ (HR.out.drewN _) hB hp)))
  go_wp2
  go_ret
  exact ⟨rfl, below_drewN (Below.refl _ _) nq⟩
theorem good69 {W : World} {B1 B2 b : Nat} {v : Value} {B : List Nat} {p : Nat} {n : Int} (l1 : B1 < W.heap.size) (l2 : B2 < W.heap.size) (hn : W.cell? ⟨B1, 0, none⟩ = some (.int .i64 n)) (hw : W.cell? ⟨B2, 0, none⟩ = some (.pointer (some ⟨b, 0, none⟩))) (hr : RAt W b v B p) (hB : B.length ≤ 1048576) (hp : p ≤ 8 * B.length) (hn1 : 1 ≤ n) (hn2 : n ≤ 4) :
    CndGood W ⟨4, 69, #[], #[.pointer (some ⟨B1, 0, none⟩), .pointer (some ⟨B2, 0, none⟩)], decide (8 * (B.length : Int) - p < 8 * n)⟩ :=
  .of (by simp) Try.ent69 fun W' hW' => lt69_any B1 B2 b v B p n W' ((hW'.cell (p := ⟨B1, 0, none⟩) l1).trans hn) ((hW'.cell (p := ⟨B2, 0, none⟩) l2).trans hw) (hr.below hW') hB hp hn1 hn2 

set_option maxHeartbeats 400000 in
theorem lt73_any (B1 B2 b : Nat) (v : Value) (B : List Nat) (p : Nat) (n : Int) (w : World) (hn : w.cell? ⟨B1, 0, none⟩ = some (.int .i64 n)) (hw : w.cell? ⟨B2, 0, none⟩ = some (.pointer (some ⟨b, 0, none⟩))) (hr : RAt w b v B p) (hB : B.length ≤ 1048576) (hp : p ≤ 8 * B.length) :
    Calls Try.prog 73 #[.pointer (some ⟨B1, 0, none⟩), .pointer (some ⟨B2, 0, none⟩)] w fun e w' => e = .returned (.bool (decide ((8 * (B.length : Int) - p) / 8 < n))) ∧ Below w.heap.size w w' := by
  have HR := Lib.hid hr
  clear hr
  have q0 : (0 : Int) ≤ 8 * (B.length : Int) - p := by omega
  go_enter Try.func73, Try.ntmps73
  go_wp2
  go_quiet ((go_at_call 25; exact quiet_left (left_any b v B p _ (HR.out.drewN _) hB hp)))
  go_wp2
  go_ret
  exact ⟨rfl, below_drewN (Below.refl _ _) nq⟩
theorem good73 {W : World} {B1 B2 b : Nat} {v : Value} {B : List Nat} {p : Nat} {n : Int} (l1 : B1 < W.heap.size) (l2 : B2 < W.heap.size) (hn : W.cell? ⟨B1, 0, none⟩ = some (.int .i64 n)) (hw : W.cell? ⟨B2, 0, none⟩ = some (.pointer (some ⟨b, 0, none⟩))) (hr : RAt W b v B p) (hB : B.length ≤ 1048576) (hp : p ≤ 8 * B.length) :
    CndGood W ⟨4, 73, #[], #[.pointer (some ⟨B1, 0, none⟩), .pointer (some ⟨B2, 0, none⟩)], decide ((8 * (B.length : Int) - p) / 8 < n)⟩ :=
  .of (by simp) Try.ent73 fun W' hW' => lt73_any B1 B2 b v B p n W' ((hW'.cell (p := ⟨B1, 0, none⟩) l1).trans hn) ((hW'.cell (p := ⟨B2, 0, none⟩) l2).trans hw) (hr.below hW') hB hp 

end Go.Proofs.Ytboiiohpkoodpaa
