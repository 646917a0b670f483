/- A reader in memory; NewReader, Left, Place and the iterator of Bits. Conditions: the reader lies in memory and has at most 1048576 bytes. -/
import Derived.Test.YtboiiohpkoodpaaO
namespace Go.Proofs.Ytboiiohpkoodpaa
open Go.RowKit Go.Shelf
attribute [local go_sem] Oper.semAt_some

/-- A reader: its block, and the row of its bytes. -/
structure RAt (w : World) (b : Nat) (v : Value) (B : List Nat) (p : Nat) : Prop where
  obj : Obj3 65 w b v p
  row : w.ownsRow 0 5 1 v B.length (u8s B)

theorem RAt.below {w w' : World} {b : Nat} {v : Value} {B : List Nat} {p : Nat} (h : RAt w b v B p) (hr : Below w.heap.size w w') : RAt w' b v B p :=
  ⟨h.obj.below hr h.obj.lt, Rest.row (S := fun _ => False) (Rest.below hr) h.row (fun _ _ e => e)⟩
theorem RAt.stays {w w' : World} {b : Nat} {v : Value} {B : List Nat} {p : Nat} {S : Nat → Prop} (h : RAt w b v B p) (hr : Rest S w w') (h0 : ¬ S b) (h1 : ∀ k, v.ownBlock = some k → ¬ S k) : RAt w' b v B p :=
  ⟨h.obj.rest hr h0, hr.row h.row h1⟩
theorem RAt.ne {w : World} {b : Nat} {v : Value} {B : List Nat} {p : Nat} (h : RAt w b v B p) : v.ownBlock ≠ some b := h.obj.ne h.row (by decide)

set_option maxHeartbeats 400000 in
theorem rnone_no (b : Nat) (w : World) (hc : w.cell? ⟨b, 0, none⟩ = some (.bool true)) :
    Calls Try.prog 53 #[.pointer (some ⟨b, 0, none⟩)] w fun e w' => e = .returned (.bool false) ∧ w = w' := by
  go_enter Try.func53, Try.ntmps53
  go_wp2
  go_ret
  exact ⟨rfl, rfl⟩
set_option maxHeartbeats 400000 in
theorem rnone_zero (b : Nat) (w : World) (hc : w.cell? ⟨b, 0, none⟩ = some (.bool false)) :
    Calls Try.prog 53 #[.pointer (some ⟨b, 0, none⟩)] w fun e w' => e = .returned (.bool true) ∧ w = w' := by
  go_enter Try.func53, Try.ntmps53
  go_wp2
  go_ret
  exact ⟨rfl, rfl⟩
set_option maxHeartbeats 400000 in
theorem rnone_nil (w : World) :
    Calls Try.prog 53 #[.pointer none] w fun e w' => e = .returned (.bool true) ∧ w = w' := by
  go_enter Try.func53, Try.ntmps53
  go_wp2
  go_ret
  exact ⟨rfl, rfl⟩
theorem good53 {W : World} {b : Nat} (h : b < W.heap.size) (hc : W.cell? ⟨b, 0, none⟩ = some (.bool true)) : CndGood W ⟨1, 53, #[.pointer (some ⟨b, 0, none⟩)], #[], false⟩ :=
  .of_same (by simp) Try.ent53 fun W' hW' => rnone_no b W' ((hW'.cell (p := ⟨b, 0, none⟩) h).trans hc)
theorem good53z {W : World} {b : Nat} (h : b < W.heap.size) (hc : W.cell? ⟨b, 0, none⟩ = some (.bool false)) : CndGood W ⟨1, 53, #[.pointer (some ⟨b, 0, none⟩)], #[], true⟩ :=
  .of_same (by simp) Try.ent53 fun W' hW' => rnone_zero b W' ((hW'.cell (p := ⟨b, 0, none⟩) h).trans hc)
theorem good53n {W : World} : CndGood W ⟨1, 53, #[.pointer none], #[], true⟩ :=
  .of_same (by simp) Try.ent53 fun W' _ => rnone_nil W'

set_option maxHeartbeats 400000 in
theorem place_any (b : Nat) (v : Value) (B : List Nat) (p : Nat) (w : World) (h : RAt w b v B p) :
    Calls Try.prog 24 #[.pointer (some ⟨b, 0, none⟩)] w fun e w' => e = .returned (.int .i64 p) ∧ w = w' := by
  have c0 := h.obj.c0
  have c2 := h.obj.c2
  clear h
  go_enter Try.func24, Try.ntmps24
  go_wp2_with (go_at_call 53; go_must (refine (rnone_no b _ c0).mono ?_); rintro e w1 ⟨rfl, rfl⟩)
  go_ret
  exact ⟨rfl, rfl⟩

set_option maxHeartbeats 400000 in
theorem left_any (b : Nat) (v : Value) (B : List Nat) (p : Nat) (w : World) (h : RAt w b v B p) (hB : B.length ≤ 1048576) (hp : p ≤ 8 * B.length) :
    Calls Try.prog 25 #[.pointer (some ⟨b, 0, none⟩)] w fun e w' => e = .returned (.int .i64 (8 * (B.length : Int) - p)) ∧ ∃ n, w' = w.drewN n := by
  have c0 := h.obj.c0
  have c1 := h.obj.c1
  have c2 := h.obj.c2
  have q1 : IntKind.i64.wrap (8 * (B.length : Int)) = 8 * (B.length : Int) := IntWalk.i64_in _ (by omega)
  have q2 : IntKind.i64.wrap (8 * (B.length : Int) - p) = 8 * (B.length : Int) - p := IntWalk.i64_in _ (by omega)
  rcases Joins.ownsRow_forms h.row with ⟨rfl, h0⟩ | ⟨g, cap, rfl⟩
  · have hB0 : B = [] := List.eq_nil_of_length_eq_zero h0
    subst hB0
    clear h q1 q2
    have q2 : IntKind.i64.wrap (0 - (p : Int)) = 0 - p := IntWalk.i64_in _ (by simp at hp; omega)
    go_enter Try.func25, Try.ntmps25
    go_wp2_with (go_at_call 53; go_must (refine (rnone_no b _ c0).mono ?_); rintro e w1 ⟨rfl, rfl⟩)
    go_quiet (fail)
    go_wp2
    go_ret
    exact ⟨ret_int (by simp), nq, rfl⟩
  · clear h
    go_enter Try.func25, Try.ntmps25
    go_wp2_with (go_at_call 53; go_must (refine (rnone_no b _ c0).mono ?_); rintro e w1 ⟨rfl, rfl⟩)
    go_quiet (fail)
    go_wp2
    go_ret
    exact ⟨rfl, nq, rfl⟩

/-- At a region that draws its order. -/
theorem quiet_left {f : FuncId} {args : Array Value} {w : World} {n : Nat} {v : Value}
    (h : Calls Try.prog f args (w.drewN n) fun e w' => e = .returned v ∧ ∃ m, w' = (w.drewN n).drewN m) : Calls Try.prog f args (w.drewN n) fun e w'' => e = .returned v ∧ ∃ m, w'' = w.drewN m :=
  h.mono fun _ _ ⟨he, m, hm⟩ => ⟨he, n + m, by rw [hm, World.drewN_drewN]⟩

theorem RAt.drewN {w : World} {b : Nat} {v : Value} {B : List Nat} {p : Nat} (h : RAt w b v B p) (n : Nat) : RAt (w.drewN n) b v B p := ⟨h.obj, h.row⟩

set_option maxHeartbeats 400000 in
theorem newr1_any (B1 : Nat) (A : Option Addr) (m c : Nat) (w : World) (hn : w.cell? ⟨B1, 0, none⟩ = some (.slice A m c)) :
    Calls Try.prog 51 #[.pointer (some ⟨B1, 0, none⟩)] w fun e w' => e = .returned (.bool (decide (1048576 < (m : Int)))) ∧ w = w' := by
  go_enter Try.func51, Try.ntmps51
  go_wp2
  go_ret
  exact ⟨rfl, rfl⟩
theorem good51 {W : World} {B1 : Nat} {A : Option Addr} {m c : Nat} (l1 : B1 < W.heap.size) (hn : W.cell? ⟨B1, 0, none⟩ = some (.slice A m c)) :
    CndGood W ⟨2, 51, #[], #[.pointer (some ⟨B1, 0, none⟩)], decide (1048576 < (m : Int))⟩ :=
  .of_same (by simp) Try.ent51 fun W' hW' => newr1_any B1 A m c W' ((hW'.cell (p := ⟨B1, 0, none⟩) l1).trans hn)

theorem newr_end {w w1 w2 : World} {v : Value} {B : List Nat} (hb : Below w.heap.size w w1) (h1 : w2.ownsRow w1.heap.size 5 1 v B.length (u8s B)) (h2 : Below w1.heap.size w1 w2) :
    ∃ b v', Ending.returned (.tuple #[.pointer (some ⟨w2.heap.size, 0, none⟩), .int .i64 0]) = .returned (.tuple #[.pointer (some ⟨b, 0, none⟩), .int .i64 0]) ∧ RAt (w2.alloc (.cells #[.bool true, v, .int .i64 0] 65)) b v' B 0 ∧
      Below w.heap.size w (w2.alloc (.cells #[.bool true, v, .int .i64 0] 65)) ∧ w.heap.size ≤ b ∧ (∀ k, v'.ownBlock = some k → w.heap.size ≤ k) :=
  ⟨w2.heap.size, v, rfl, ⟨World.alloc_heap_new w2 _, Joins.ownsRow_le (h1.alloc _) (Nat.zero_le _)⟩, (hb.trans (h2.mono hb.size)).alloc (Nat.le_trans hb.size h2.size) _,
    Nat.le_trans hb.size h2.size, fun k hk => Nat.le_trans hb.size (h1.lt k hk).1⟩

set_option maxRecDepth 100000 in
set_option maxHeartbeats 800000 in
theorem newReader_ok (s : Value) (B : List Nat) (w : World) (hs : SrcAt w s B) (hB : B.length ≤ 1048576) :
    Calls Try.prog 19 #[s] w fun e w' => ∃ b v, e = .returned (.tuple #[.pointer (some ⟨b, 0, none⟩), .int .i64 0]) ∧ RAt w' b v B 0 ∧ Below w.heap.size w w' ∧ w.heap.size ≤ b ∧ (∀ k, v.ownBlock = some k → w.heap.size ≤ k) := by
  obtain ⟨A, m, c, rfl, hm⟩ : ∃ A m c, s = .slice A m c ∧ m = B.length := by
    rcases hs with ⟨rfl, rfl⟩ | ⟨a, c, rfl, _, _⟩
    · exact ⟨_, _, _, rfl, rfl⟩
    · exact ⟨_, _, _, rfl, rfl⟩
  subst hm
  have hbx := Boxed.new w 28 (.slice A B.length c)
  have hfe := firstError1 ⟨2, 51, #[], #[.pointer (some ⟨w.heap.size, 0, none⟩)], decide (1048576 < (B.length : Int))⟩ (w.alloc (.cells #[.slice A B.length c] 28)) (w.heap.size + 1) (by simp) (good51 (by simp) hbx.cell)
  rw [show firstCode [⟨2, 51, #[], #[.pointer (some ⟨w.heap.size, 0, none⟩)], decide (1048576 < (B.length : Int))⟩] = 0 by simp [firstCode]; omega] at hfe
  have HF := Lib.hid hfe
  have HSR := Lib.hid hs
  have HBX := Lib.hid hbx
  clear hs hfe hbx
  go_enter Try.func19, Try.ntmps19
  go_wp2_with fail
  refine HF.out.mono ?_
  rintro e w1 ⟨rfl, hb⟩
  have c1 := (boxed_below HBX.out hb (by simp)).cell
  have hbw : Below w.heap.size w w1 := ((Below.refl _ w).alloc (Nat.le_refl _) _).trans (hb.mono (by simp))
  have HBW := Lib.hid hbw
  have HC := Lib.hid (clone_any _ B w1 (HSR.out.below hbw HSR.out.lt) (by omega))
  clear hb hbw
  go_wp2_with fail
  refine HC.out.mono ?_
  rintro e w2 ⟨v, rfl, h1, h2, h3⟩
  have H1 := Lib.hid h1
  have H2 := Lib.hid h2
  clear h1 h2
  rcases h3 with rfl | ⟨g, cc, rfl⟩
  all_goals
    go_wp2
    go_ret2
    exact newr_end HBW.out H1.out H2.out
end Go.Proofs.Ytboiiohpkoodpaa
