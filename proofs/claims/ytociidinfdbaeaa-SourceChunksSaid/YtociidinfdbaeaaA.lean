/- The small functions of a source and its buffer: none, size, first, drop, put, copied, Clone, New, Left, Room, Offset, Ended, refused. Conditions: the source or the buffer lies in memory, as SAt and Buf say. -/
import Derived.Test.YtociidinfdbaeaaM
import Derived.BigQuiet
import Derived.BigRegion
import Derived.Deep.QuietTactic
import Derived.Deep.RegionHeld3
import Derived.Shelf.Abstract
import Derived.Lib.SmallJoins
import Derived.OwnWalkIn
import Derived.Maps.AppendAt
namespace Go.Proofs.Ytociidinfdbaeaa
open Go.RowKit Go.Shelf

theorem ret_bool {a b : Bool} (h : a = b) : Ending.returned (.bool a) = .returned (.bool b) := by rw [h]
theorem ret_int {k : IntKind} {a b : Int} (h : a = b) : Ending.returned (.int k a) = .returned (.int k b) := by rw [h]

/-- A source: its block, and its buffer. -/
structure SAt (w : World) (p : Nat) (v : Value) (B : List Nat) (L T : Nat) (C : Bool) : Prop where
  obj : w.heap[p]? = some (.cells #[v, .int .i64 L, .int .i64 T, .bool C] 57 (0, 0))
  buf : Buf w v B
  ne : v.ownBlock ≠ some p
  fit : B.length ≤ L
  pos : 0 < L
  max : L ≤ 1048576

section
variable {w : World} {p : Nat} {v : Value} {B : List Nat} {L T : Nat} {C : Bool}
theorem SAt.lt (h : SAt w p v B L T C) : p < w.heap.size := (Array.getElem?_eq_some_iff.1 h.obj).1
theorem SAt.c0 (h : SAt w p v B L T C) : w.cell? ⟨p, 0, none⟩ = some v := by simp [World.cell?, h.obj]
theorem SAt.c1 (h : SAt w p v B L T C) : w.cell? ⟨p, 1, none⟩ = some (.int .i64 L) := by simp [World.cell?, h.obj]
theorem SAt.c2 (h : SAt w p v B L T C) : w.cell? ⟨p, 2, none⟩ = some (.int .i64 T) := by simp [World.cell?, h.obj]
theorem SAt.c3 (h : SAt w p v B L T C) : w.cell? ⟨p, 3, none⟩ = some (.bool C) := by simp [World.cell?, h.obj]
theorem SAt.fr (h : SAt w p v B L T C) (o : Nat) : w.frozen? ⟨p, o, none⟩ = false := by simp [World.frozen?, h.obj]
theorem SAt.rest {w' : World} {S : Nat → Prop} (h : SAt w p v B L T C) (hr : Rest S w w') (h0 : ¬ S p) (h1 : ∀ k, v.ownBlock = some k → ¬ S k) : SAt w' p v B L T C :=
  ⟨(hr.block p h.lt h0).trans h.obj, h.buf.rest hr h1, h.ne, h.fit, h.pos, h.max⟩
theorem SAt.below {w' : World} (h : SAt w p v B L T C) (hr : Below w.heap.size w w') : SAt w' p v B L T C :=
  h.rest (S := fun _ => False) (Rest.below hr) (fun e => e) (fun _ _ e => e)
end

/-- The blocks of a source. -/
def Mine (p : Nat) (v : Value) (k : Nat) : Prop := k = p ∨ v.ownBlock = some k

/-- A step of a source: its blocks alone turn, and its buffer lies where it lay, or in a new block. -/
structure SStep (p : Nat) (v v' : Value) (w w' : World) : Prop where
  rest : Rest (Mine p v) w w'
  own : Own2 w v v'

theorem SStep.refl (p : Nat) (v : Value) (w : World) : SStep p v v w w := ⟨Rest.refl _ _, fun _ h => .inl h⟩
theorem SStep.trans {p : Nat} {u v x : Value} {w w1 w2 : World} (h : SStep p u v w w1) (k : SStep p v x w1 w2) : SStep p u x w w2 :=
  ⟨h.rest.trans k.rest (fun i hi hm => by
    rcases hm with e | e
    · exact .inl e
    · rcases h.own i e with e' | e'
      · exact .inr e'
      · omega), fun i hi => by
    rcases k.own i hi with e | e
    · exact h.own i e
    · exact .inr (Nat.le_trans h.rest.size e)⟩
theorem SStep.below {p : Nat} {v : Value} {w w' : World} (h : Below w.heap.size w w') : SStep p v v w w' := ⟨Rest.below h, fun _ h => .inl h⟩

theorem quiet_same {P : Program} {f : FuncId} {args : Array Value} {w : World} {n : Nat} {v : Value}
    (h : Calls P f args (w.drewN n) fun e w' => e = .returned v ∧ w.drewN n = w') : Calls P f args (w.drewN n) fun e w'' => e = .returned v ∧ ∃ m, w'' = w.drewN m :=
  h.mono fun _ _ ⟨he, hm⟩ => ⟨he, n, hm.symm⟩

theorem Buf.drewN {w : World} {v : Value} {B : List Nat} (h : Buf w v B) (n : Nat) : Buf (w.drewN n) v B :=
  h.rest (S := fun _ => False) ⟨rfl, rfl, rfl, Nat.le_refl _, fun _ _ _ => rfl⟩ (fun _ _ e => e)

theorem quiet_left {f : FuncId} {args : Array Value} {w : World} {n : Nat} {v : Value}
    (h : Calls Try.prog f args (w.drewN n) fun e w' => e = .returned v ∧ ∃ m, w' = (w.drewN n).drewN m) : Calls Try.prog f args (w.drewN n) fun e w'' => e = .returned v ∧ ∃ m, w'' = w.drewN m :=
  h.mono fun _ _ ⟨he, m, hm⟩ => ⟨he, n + m, by rw [hm, World.drewN_drewN]⟩

set_option maxHeartbeats 400000 in
theorem none_no (p : Nat) (L : Nat) (w : World) (h0 : 0 < L) (hc : w.cell? ⟨p, 1, none⟩ = some (.int .i64 L)) :
    Calls Try.prog 30 #[.pointer (some ⟨p, 0, none⟩)] w fun e w' => e = .returned (.bool false) ∧ w = w' := by
  go_enter Try.func30, Try.ntmps30
  go_wp2
  go_ret
  exact ⟨ret_bool (by simp; omega), rfl⟩

set_option maxHeartbeats 400000 in
theorem none_zero (p : Nat) (w : World) (hc : w.cell? ⟨p, 1, none⟩ = some (.int .i64 0)) :
    Calls Try.prog 30 #[.pointer (some ⟨p, 0, none⟩)] w fun e w' => e = .returned (.bool true) ∧ w = w' := by
  go_enter Try.func30, Try.ntmps30
  go_wp2
  go_ret
  exact ⟨rfl, rfl⟩

set_option maxHeartbeats 400000 in
theorem none_nil (w : World) :
    Calls Try.prog 30 #[.pointer none] w fun e w' => e = .returned (.bool true) ∧ w = w' := by
  go_enter Try.func30, Try.ntmps30
  go_wp2
  go_ret
  exact ⟨rfl, rfl⟩

set_option maxHeartbeats 400000 in
theorem size_any (p : Nat) (v : Value) (B : List Nat) (w : World) (hc : w.cell? ⟨p, 0, none⟩ = some v) (hb : Buf w v B) :
    Calls Try.prog 34 #[.pointer (some ⟨p, 0, none⟩)] w fun e w' => e = .returned (.int .i64 B.length) ∧ w = w' := by
  obtain ⟨ao, cap, rfl, _, _⟩ := hb.form
  clear hb
  go_enter Try.func34, Try.ntmps34
  go_wp2
  go_ret
  exact ⟨rfl, rfl⟩

set_option maxHeartbeats 400000 in
theorem left_any (p : Nat) (v : Value) (B : List Nat) (L T : Nat) (C : Bool) (w : World) (h : SAt w p v B L T C) :
    Calls Try.prog 22 #[.pointer (some ⟨p, 0, none⟩)] w fun e w' => e = .returned (.int .i64 B.length) ∧ w = w' := by
  have HN := fun w => Lib.hid (none_no p L w h.pos)
  have HS := fun w => Lib.hid (size_any p v B w)
  have c0 := h.c0
  have c1 := h.c1
  have HB := Lib.hid h.buf
  clear h
  go_enter Try.func22, Try.ntmps22
  go_wp2_with (first | (go_at_call 30; go_must (refine ((HN _).out c1).mono ?_); rintro e w1 ⟨rfl, rfl⟩) | (go_at_call 34; go_must (refine ((HS _).out c0 HB.out).mono ?_); rintro e w1 ⟨rfl, rfl⟩))
  go_ret
  exact ⟨rfl, rfl⟩

set_option maxHeartbeats 400000 in
theorem room_any (p : Nat) (v : Value) (B : List Nat) (L T : Nat) (C : Bool) (w : World) (h : SAt w p v B L T C) :
    Calls Try.prog 25 #[.pointer (some ⟨p, 0, none⟩)] w fun e w' => e = .returned (.int .i64 ((L : Int) - B.length)) ∧ ∃ n, w' = w.drewN n := by
  have HN := fun w => Lib.hid (none_no p L w h.pos)
  have c0 := h.c0
  have c1 := h.c1
  have HB := Lib.hid h.buf
  have h1 := h.fit
  have h2 := h.max
  clear h
  go_enter Try.func25, Try.ntmps25
  go_wp2_with ((go_at_call 30; go_must (refine ((HN _).out c1).mono ?_); rintro e w1 ⟨rfl, rfl⟩))
  go_quiet ((go_at_call 34; exact quiet_same (size_any p v B _ c0 (HB.out.drewN _))))
  go_wp2
  go_ret
  exact ⟨rfl, nq, rfl⟩

set_option maxHeartbeats 400000 in
theorem offset_any (p : Nat) (v : Value) (B : List Nat) (L T : Nat) (C : Bool) (w : World) (h : SAt w p v B L T C) :
    Calls Try.prog 21 #[.pointer (some ⟨p, 0, none⟩)] w fun e w' => e = .returned (.int .i64 T) ∧ w = w' := by
  have HN := fun w => Lib.hid (none_no p L w h.pos)
  have c1 := h.c1
  have c2 := h.c2
  clear h
  go_enter Try.func21, Try.ntmps21
  go_wp2_with ((go_at_call 30; go_must (refine ((HN _).out c1).mono ?_); rintro e w1 ⟨rfl, rfl⟩))
  go_ret
  exact ⟨rfl, rfl⟩

set_option maxHeartbeats 400000 in
theorem ended_any (p : Nat) (v : Value) (B : List Nat) (L T : Nat) (C : Bool) (w : World) (h : SAt w p v B L T C) :
    Calls Try.prog 26 #[.pointer (some ⟨p, 0, none⟩)] w fun e w' => e = .returned (.bool (C && (B.length == 0))) ∧ w = w' := by
  have HN := fun w => Lib.hid (none_no p L w h.pos)
  have HS := fun w => Lib.hid (size_any p v B w)
  have c0 := h.c0
  have c1 := h.c1
  have c3 := h.c3
  have HB := Lib.hid h.buf
  clear h
  cases C
  all_goals
    go_enter Try.func26, Try.ntmps26
    go_wp2_with (first | (go_at_call 30; go_must (refine ((HN _).out c1).mono ?_); rintro e w1 ⟨rfl, rfl⟩) | (go_at_call 34; go_must (refine ((HS _).out c0 HB.out).mono ?_); rintro e w1 ⟨rfl, rfl⟩))
    go_ret
    refine ⟨ret_bool ?_, rfl⟩
    simp
  rw [Bool.eq_iff_iff]; simp

/-- The error of a number that is asked for. -/
def refCode (L n m : Int) : Int := if n < 0 then 2 else if n > L - m then 3 else 0

set_option maxHeartbeats 400000 in
theorem refused_any (p L : Nat) (n m : Int) (w : World) (hL : 0 < L) (hm : 0 ≤ m) (hm2 : m ≤ 1) (hL2 : L ≤ 1048576) (c1 : w.cell? ⟨p, 1, none⟩ = some (.int .i64 L)) :
    Calls Try.prog 37 #[.pointer (some ⟨p, 0, none⟩), .int .i64 n, .int .i64 m] w fun e w' => e = .returned (.int .i64 (refCode L n m)) ∧ w = w' := by
  have HN := fun w => Lib.hid (none_no p L w hL)
  go_enter Try.func37, Try.ntmps37
  go_wp2_with ((go_at_call 30; go_must (refine ((HN _).out c1).mono ?_); rintro e w1 ⟨rfl, rfl⟩))
  all_goals go_ret
  all_goals refine ⟨ret_int ?_, rfl⟩
  all_goals simp [refCode, *]
  all_goals omega

set_option maxHeartbeats 400000 in
theorem new_ok (L : Int) (w : World) (h1 : 1 ≤ L) (h2 : L ≤ 1048576) :
    Calls Try.prog 10 #[.int .i64 L] w fun e w' => e = .returned (.tuple #[.pointer (some ⟨w.heap.size, 0, none⟩), .int .i64 0]) ∧ SAt w' w.heap.size (.slice none 0 0) [] L.toNat 0 false ∧ Below w.heap.size w w' := by
  have hL : ((L.toNat : Nat) : Int) = L := Int.toNat_of_nonneg (by omega)
  go_enter Try.func10, Try.ntmps10
  go_wp2
  go_ret2
  refine ⟨rfl, ⟨?_, Buf.nil _, by simp [Value.ownBlock], Nat.zero_le _, by omega, by omega⟩, (Below.refl _ _).alloc (Nat.le_refl _) _⟩
  rw [hL]
  exact heap_alloc_new w _

set_option maxHeartbeats 400000 in
theorem new_no (L : Int) (w : World) (h : ¬ (1 ≤ L ∧ L ≤ 1048576)) :
    Calls Try.prog 10 #[.int .i64 L] w fun e w' => e = .returned (.tuple #[.pointer none, .int .i64 2]) ∧ w = w' := by
  go_enter Try.func10, Try.ntmps10
  go_wp2
  all_goals first | (go_ret2; exact ⟨rfl, rfl⟩) | skip
end Go.Proofs.Ytociidinfdbaeaa
