/- Copy of a reader and of a writer: another one in the same state, in new memory. Conditions: the reader or the writer lies in memory. -/
import Derived.Test.YtboiiohpkoodpaaRd
namespace Go.Proofs.Ytboiiohpkoodpaa
open Go.RowKit Go.Shelf

theorem row_form {w : World} {base n : Nat} {e : TypeId} {size : Nat} {v : Value} {xs : List Value} (h : w.ownsRow base e size v n xs) : ∃ A c, v = .slice A n c := by
  rcases Joins.ownsRow_forms h with ⟨rfl, h0⟩ | ⟨g, cap, rfl⟩
  · exact ⟨none, 0, by rw [h0]⟩
  · exact ⟨_, _, rfl⟩

set_option maxRecDepth 100000 in
set_option maxHeartbeats 3200000 in
theorem copied35 (t : TypeId) (b n : Nat) (v : Value) (B : List Nat) (w : World) (h : Obj3 t w b v n) (hs : SrcAt w v B) (hl : B.length ≤ 1048576) :
    Calls Try.prog 35 #[.pointer (some ⟨b, 0, none⟩)] w fun e w' => ∃ A c, e = .returned (.agg #[.bool true, .slice A B.length c, .int .i64 n]) ∧ w'.ownsRow w.heap.size 5 1 (.slice A B.length c) B.length (u8s B) ∧ Below w.heap.size w w' := by
  have HCL := fun wx (hx : Below w.heap.size w wx) => Lib.hid (clone_any v B wx (hs.below hx hs.lt) (by omega))
  have KEEP : ∀ wy, Below w.heap.size w wy → wy.cell? ⟨b, 0, none⟩ = some (.bool true) ∧ wy.cell? ⟨b, 1, none⟩ = some v ∧ wy.cell? ⟨b, 2, none⟩ = some (.int .i64 n) := fun wy hy => by
    have h' := h.below hy h.lt
    exact ⟨h'.c0, h'.c1, h'.c2⟩
  have KEEP := Lib.hid KEEP
  obtain ⟨Av, mv, cv, rfl⟩ : ∃ A m c, v = .slice A m c := by
    rcases hs with ⟨rfl, _⟩ | ⟨a, c, rfl, _⟩
    · exact ⟨_, _, _, rfl⟩
    · exact ⟨_, _, _, rfl⟩
  clear h hs
  go_enter Try.func35, Try.ntmps35
  go_wp2_with fail
  have hz : (w.alloc (.cells #[.bool false, .slice none 0 0, .int .i64 0] 61)).heap[w.heap.size]? = some (.cells #[.bool false, .slice none 0 0, .int .i64 0] 61 (0, 0)) := (MapKept.heap_alloc w _).1
  have hb0 : Below w.heap.size w (w.alloc (.cells #[.bool false, .slice none 0 0, .int .i64 0] 61)) := (Below.refl _ _).alloc (Nat.le_refl _) _
  have hsz : (w.alloc (.cells #[.bool false, .slice none 0 0, .int .i64 0] 61)).heap.size = w.heap.size + 1 := by simp
  obtain ⟨q, hq⟩ : ∃ q, w.heap.size = q := ⟨_, rfl⟩
  generalize hwa : w.alloc (.cells #[.bool false, .slice none 0 0, .int .i64 0] 61) = wa at hz hb0 hsz ⊢
  rw [hq] at hz hsz ⊢
  have HZ := Lib.hid hz
  have HB0 := Lib.hid hb0
  have HSZ := Lib.hid hsz
  have HQ := Lib.hid hq
  have QL : w.heap.size ≤ q := by omega
  clear hz hb0 hsz hq hwa
  go_region_held (fun w' => w'.cell? ⟨b, 0, none⟩ = some (.bool true) ∧ w'.cell? ⟨b, 1, none⟩ = some (.slice Av mv cv) ∧ w'.cell? ⟨b, 2, none⟩ = some (.int .i64 n)) (first | exact KEEP.out _ HB0.out.drew | exact KEEP.out _ HBC.out | exact KEEP.out _ (((HBC.out.setCell (p := ⟨q, 0, none⟩) QL _).setCell (p := ⟨q, 1, none⟩) QL _).setCell (p := ⟨q, 2, none⟩) QL _)) (first | (go_at_call 41; refine ((HCL _ HB0.out.drew).out).mono ?_; rintro e w2 ⟨v2, rfl, hr, hb, hv2⟩; have hq2 := (hb.block q (by show q < wa.heap.size; have := HSZ.out; omega)).trans HZ.out; have f0 : w2.frozen? ⟨q, 0, none⟩ = false := (by simp [World.frozen?, hq2]); have f1 : w2.frozen? ⟨q, 1, none⟩ = false := (by simp [World.frozen?, hq2]); have f2 : w2.frozen? ⟨q, 2, none⟩ = false := (by simp [World.frozen?, hq2]); have g0 : w2.cell? ⟨q, 0, none⟩ = some (.bool false) := (by simp [World.cell?, hq2]); have g1 : w2.cell? ⟨q, 1, none⟩ = some (.slice none 0 0) := (by simp [World.cell?, hq2]); have g2 : w2.cell? ⟨q, 2, none⟩ = some (.int .i64 0) := (by simp [World.cell?, hq2]); have HBC := Lib.hid (HB0.out.drew.trans (hb.mono (by have := HB0.out.size; exact this))); have HR := Lib.hid hr; obtain ⟨A2, c2, rfl⟩ := row_form hr; clear hr hb hv2 hq2))
  go_wp2
  (try simp only [Exit.inBlock, Exit.then]); refine bodyPost_ret (by simp [results, Try.results35, go_sem, *]; try rfl) rfl ?_
  have hb : Below w.heap.size w2 (((w2.setCell ⟨q, 0, none⟩ (.bool true)).setCell ⟨q, 1, none⟩ (.slice A2 B.length c2)).setCell ⟨q, 2, none⟩ (.int .i64 n)) :=
    (((Below.refl w.heap.size w2).setCell (p := ⟨q, 0, none⟩) QL _).setCell (p := ⟨q, 1, none⟩) QL _).setCell (p := ⟨q, 2, none⟩) QL _
  have hr : Rest (fun j => j = q) w2 (((w2.setCell ⟨q, 0, none⟩ (.bool true)).setCell ⟨q, 1, none⟩ (.slice A2 B.length c2)).setCell ⟨q, 2, none⟩ (.int .i64 n)) :=
    (((Rest.refl (fun j => j = q) w2).setCell (p := ⟨q, 0, none⟩) (fun _ => rfl) _).setCell (p := ⟨q, 1, none⟩) (fun _ => rfl) _).setCell (p := ⟨q, 2, none⟩) (fun _ => rfl) _
  have hsz : wa.drew.heap.size = q + 1 := HSZ.out
  refine ⟨A2, c2, rfl, Joins.ownsRow_le (Rest.row hr HR.out (fun j hj e => by have := (HR.out.lt j hj).1; omega)) (by omega), HBC.out.trans hb⟩

set_option maxRecDepth 100000 in
set_option maxHeartbeats 800000 in
theorem copyR_any (b : Nat) (v : Value) (B : List Nat) (p : Nat) (w : World) (h : RAt w b v B p) (hl : B.length ≤ 1048576) :
    Calls Try.prog 21 #[.pointer (some ⟨b, 0, none⟩)] w fun e w' => ∃ b2 v2, e = .returned (.pointer (some ⟨b2, 0, none⟩)) ∧ RAt w' b2 v2 B p ∧ Below w.heap.size w w' ∧ w.heap.size ≤ b2 ∧ ∀ k, v2.ownBlock = some k → w.heap.size ≤ k := by
  have c0 := h.obj.c0
  have HC := Lib.hid (copied35 65 b p v B w h.obj (.of_row h.row) hl)
  clear h
  go_enter Try.func21, Try.ntmps21
  go_wp2_with (first | (go_at_call 53; go_must (refine (rnone_no b _ c0).mono ?_); rintro e w1 ⟨rfl, rfl⟩) | (go_at_call 35; go_must (refine HC.out.mono ?_); rintro e w1 ⟨A2, c2, rfl, hr, hb⟩; have HR := Lib.hid hr; have HB := Lib.hid hb; clear hr hb))
  go_ret
  exact ⟨w1.heap.size, .slice A2 B.length c2, rfl, ⟨World.alloc_heap_new w1 _, Joins.ownsRow_le (HR.out.alloc _) (Nat.zero_le _)⟩, HB.out.alloc HB.out.size _, HB.out.size, fun k hk => (HR.out.lt k hk).1⟩

set_option maxRecDepth 100000 in
set_option maxHeartbeats 800000 in
theorem copyW_any (b : Nat) (v : Value) (l : List Bool) (w : World) (h : WAt w b v l) (hl : l.length ≤ 8388608) :
    Calls Try.prog 12 #[.pointer (some ⟨b, 0, none⟩)] w fun e w' => ∃ b2 v2, e = .returned (.pointer (some ⟨b2, 0, none⟩)) ∧ WAt w' b2 v2 l ∧ Below w.heap.size w w' ∧ w.heap.size ≤ b2 ∧ ∀ k, v2.ownBlock = some k → w.heap.size ≤ k := by
  have c0 := h.obj.c0
  have HC := Lib.hid (copied35 63 b l.length v (packs l) w h.obj (.of_row h.row) (by rw [packs_length]; omega))
  clear h
  go_enter Try.func12, Try.ntmps12
  go_wp2_with (first | (go_at_call 34; go_must (refine (none_no b _ c0).mono ?_); rintro e w1 ⟨rfl, rfl⟩) | (go_at_call 35; go_must (refine HC.out.mono ?_); rintro e w1 ⟨A2, c2, rfl, hr, hb⟩; have HR := Lib.hid hr; have HB := Lib.hid hb; clear hr hb))
  go_ret
  exact ⟨w1.heap.size, .slice A2 (packs l).length c2, rfl, ⟨World.alloc_heap_new w1 _, Joins.ownsRow_le (HR.out.alloc _) (Nat.zero_le _)⟩, HB.out.alloc HB.out.size _, HB.out.size, fun k hk => (HR.out.lt k hk).1⟩
end Go.Proofs.Ytboiiohpkoodpaa
