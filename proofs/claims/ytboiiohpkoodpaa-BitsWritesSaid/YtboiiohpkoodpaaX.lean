/- The last two conditions of Pad. Conditions: the captured variables hold what is said. -/
import Derived.Test.YtboiiohpkoodpaaW
import Derived.Deep.RegionHeld3
namespace Go.Proofs.Ytboiiohpkoodpaa
open Go.RowKit Go.Shelf

set_option maxHeartbeats 400000 in
theorem lt75_any (B1 B2 b : Nat) (v : Value) (B : List Nat) (p n : Nat) (w : World) (hw : w.cell? ⟨B1, 0, none⟩ = some (.pointer (some ⟨b, 0, none⟩))) (hn : w.cell? ⟨B2, 0, none⟩ = some (.int .i64 n)) (hr : RAt w b v B p) (hB : B.length ≤ 1048576) (hp : p ≤ 8 * B.length) (hn1 : 1 ≤ n) (hn2 : n ≤ 4096) :
    Calls Try.prog 75 #[.pointer (some ⟨B1, 0, none⟩), .pointer (some ⟨B2, 0, none⟩)] w fun e w' => e = .returned (.bool (decide (8 * (B.length : Int) < (bord p n : Int)))) ∧ Below w.heap.size w w' := by
  have k2 := hr.obj.c2
  have HR := Lib.hid hr
  have hb1 := bord_ge p n hn1
  have hb2 := bord_lt p n hn1
  have q1 : IntKind.i64.wrap ((bord p n : Int) - p) = (bord p n : Int) - p := IntWalk.i64_in _ (by omega)
  clear hr
  go_enter Try.func75, Try.ntmps75
  go_wp2
  go_quiet ((first | (go_at_call 25; exact quiet_left (left_any b v B p _ (HR.out.drewN _) hB hp)) | (go_at_call 76; exact quiet_same (border_nat b p n _ (by omega) hn1 hn2 k2))))
  go_wp2
  go_ret
  exact ⟨rfl, below_drewN (Below.refl _ _) nq⟩

theorem good75 {W : World} {B1 B2 b : Nat} {v : Value} {B : List Nat} {p n : Nat} (l1 : B1 < W.heap.size) (l2 : B2 < W.heap.size) (hw : W.cell? ⟨B1, 0, none⟩ = some (.pointer (some ⟨b, 0, none⟩))) (hn : W.cell? ⟨B2, 0, none⟩ = some (.int .i64 n)) (hr : RAt W b v B p) (hB : B.length ≤ 1048576) (hp : p ≤ 8 * B.length) (hn1 : 1 ≤ n) (hn2 : n ≤ 4096) :
    CndGood W ⟨4, 75, #[], #[.pointer (some ⟨B1, 0, none⟩), .pointer (some ⟨B2, 0, none⟩)], decide (8 * (B.length : Int) < (bord p n : Int))⟩ :=
  .of (by simp) Try.ent75 fun W' hW' => lt75_any B1 B2 b v B p n W' ((hW'.cell (p := ⟨B1, 0, none⟩) l1).trans hw) ((hW'.cell (p := ⟨B2, 0, none⟩) l2).trans hn) (hr.below hW') hB hp hn1 hn2

theorem blank_int (b : Nat) (v : Value) (B : List Nat) (p : Nat) (q : Int) (w : World) (h : RAt w b v B p) (hB : ∀ c ∈ B, c < 256) (hBl : B.length ≤ 1048576) (h0 : 0 ≤ q) (hn : q ≤ 8192) (hp : p + q ≤ 8 * B.length) :
    Calls Try.prog 78 #[.pointer (some ⟨b, 0, none⟩), .int .i64 q] w fun e w' => e = .returned (.bool (zerosB (((unpack B).drop p).take q.toNat))) ∧ Below w.heap.size w w' := by
  obtain ⟨m, rfl⟩ : ∃ m : Nat, q = m := ⟨q.toNat, by omega⟩
  simpa using blank_any b v B p m w h hB hBl (by omega) (by omega)

set_option maxRecDepth 100000 in
set_option maxHeartbeats 800000 in
theorem bl77_any (B1 B2 b : Nat) (v : Value) (B : List Nat) (p n : Nat) (w : World) (l1 : B1 < w.heap.size) (l2 : B2 < w.heap.size) (hw : w.cell? ⟨B1, 0, none⟩ = some (.pointer (some ⟨b, 0, none⟩))) (hn : w.cell? ⟨B2, 0, none⟩ = some (.int .i64 n)) (hr : RAt w b v B p) (hB : ∀ c ∈ B, c < 256) (hBl : B.length ≤ 1048576) (hp : bord p n ≤ 8 * B.length) (hn1 : 1 ≤ n) (hn2 : n ≤ 4096) :
    Calls Try.prog 77 #[.pointer (some ⟨B1, 0, none⟩), .pointer (some ⟨B2, 0, none⟩)] w fun e w' => e = .returned (.bool (!(zerosB (((unpack B).drop p).take (bord p n - p))))) ∧ Below w.heap.size w w' := by
  have k2 := hr.obj.c2
  have hb1 := bord_ge p n hn1
  have hb2 := bord_lt p n hn1
  have hlb := hr.obj.lt
  have q1 : IntKind.i64.wrap ((bord p n : Int) - p) = (bord p n : Int) - p := IntWalk.i64_in _ (by omega)
  have hbl := fun W (hb : Below w.heap.size w W) => (blank_int b v B p ((bord p n : Int) - p) W (hr.below hb) hB hBl (by omega) (by omega) (by omega)).mono (R' := fun e w' => e = .returned (.bool (zerosB (((unpack B).drop p).take ((bord p n : Int) - p).toNat))) ∧ w'.cell? ⟨B1, 0, none⟩ = some (.pointer (some ⟨b, 0, none⟩)) ∧ w'.cell? ⟨B2, 0, none⟩ = some (.int .i64 n) ∧ w'.cell? ⟨b, 2, none⟩ = some (.int .i64 p) ∧ Hid (Below w.heap.size w w'))
    (fun e w' ⟨he, hw'⟩ => by
      have hbb : Below w.heap.size w w' := hb.trans (hw'.mono hb.size)
      exact ⟨he, (hbb.cell (p := ⟨B1, 0, none⟩) l1).trans hw, (hbb.cell (p := ⟨B2, 0, none⟩) l2).trans hn, (hbb.cell (p := ⟨b, 2, none⟩) hlb).trans k2, hbb⟩)
  have HBL := Lib.hid hbl
  clear hr hB hbl
  go_enter Try.func77, Try.ntmps77
  go_wp2
  go_region_held3 (fun w' => w'.cell? ⟨B1, 0, none⟩ = some (.pointer (some ⟨b, 0, none⟩)) ∧ w'.cell? ⟨B2, 0, none⟩ = some (.int .i64 n) ∧ w'.cell? ⟨b, 2, none⟩ = some (.int .i64 p)) (first | go_keep | exact ⟨g1, g2, g3⟩) (first | (go_at_call 76; refine (border_nat b p n _ ?_ hn1 hn2 ?_).mono ?_; omega; (simp [*]); rintro e w1 ⟨rfl, rfl⟩) | (go_at_call 78; refine (HBL.out _ ?_).mono ?_; exact (Below.refl _ _).drew; rintro e w2 ⟨rfl, g1, g2, g3, HG⟩))
  go_wp2
  go_ret
  exact ⟨rfl, HG.out⟩

theorem good77 {W : World} {B1 B2 b : Nat} {v : Value} {B : List Nat} {p n : Nat} (l1 : B1 < W.heap.size) (l2 : B2 < W.heap.size) (hw : W.cell? ⟨B1, 0, none⟩ = some (.pointer (some ⟨b, 0, none⟩))) (hn : W.cell? ⟨B2, 0, none⟩ = some (.int .i64 n)) (hr : RAt W b v B p) (hB : ∀ c ∈ B, c < 256) (hBl : B.length ≤ 1048576) (hp : bord p n ≤ 8 * B.length) (hn1 : 1 ≤ n) (hn2 : n ≤ 4096) :
    CndGood W ⟨6, 77, #[], #[.pointer (some ⟨B1, 0, none⟩), .pointer (some ⟨B2, 0, none⟩)], !(zerosB (((unpack B).drop p).take (bord p n - p)))⟩ :=
  .of (by simp) Try.ent77 fun W' hW' => bl77_any B1 B2 b v B p n W' (Nat.lt_of_lt_of_le l1 hW'.size) (Nat.lt_of_lt_of_le l2 hW'.size) ((hW'.cell (p := ⟨B1, 0, none⟩) l1).trans hw) ((hW'.cell (p := ⟨B2, 0, none⟩) l2).trans hn) (hr.below hW') hB hBl hp hn1 hn2
end Go.Proofs.Ytboiiohpkoodpaa
