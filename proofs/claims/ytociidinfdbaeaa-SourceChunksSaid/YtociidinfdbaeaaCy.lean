/- Copy of a source: another source in the same state, in new memory. Conditions: the source lies in memory. -/
import Derived.Test.YtociidinfdbaeaaSp
namespace Go.Proofs.Ytociidinfdbaeaa
open Go.RowKit Go.Shelf

set_option maxRecDepth 100000 in
set_option maxHeartbeats 1600000 in
theorem copied_any (p : Nat) (v : Value) (B : List Nat) (w : World) (hc : w.cell? ⟨p, 0, none⟩ = some v) (hb : Buf w v B) (hl : B.length ≤ 1048576) :
    Calls Try.prog 31 #[.pointer (some ⟨p, 0, none⟩)] w fun e w' => ∃ v2, e = .returned (.agg #[v2]) ∧ w'.ownsRow w.heap.size 5 1 v2 B.length (u8s B) ∧ Below w.heap.size w w' := by
  have hlt : p < w.heap.size := World.block_lt_of_cell? _ _ hc
  have HCL := fun wx (hx : Below w.heap.size w wx) => Lib.hid (clone_any v B wx ((hb.src).below hx hb.src.lt) (by omega))
  have HC := fun wx (hx : Below w.heap.size w wx) => (hx.cell (p := ⟨p, 0, none⟩) hlt).trans hc
  clear hc hb
  go_enter Try.func31, Try.ntmps31
  have c0 := HC _ ((Below.refl _ w).alloc (Nat.le_refl _) (.cells #[.slice none 0 0] 55))
  go_wp2_with fail
  refine ((HCL _ ((Below.refl _ w).alloc (Nat.le_refl _) (.cells #[.slice none 0 0] 55))).out).mono ?_
  rintro e w1 ⟨v2, rfl, hf⟩
  have hq : w1.heap[w.heap.size]? = some (.cells #[.slice none 0 0] 55 (0, 0)) := (hf.2.1.block w.heap.size (by simp)).trans (heap_alloc_new w _)
  have q0 : w1.cell? ⟨w.heap.size, 0, none⟩ = some (.slice none 0 0) := by simp [World.cell?, hq]
  have f0 : w1.frozen? ⟨w.heap.size, 0, none⟩ = false := by simp [World.frozen?, hq]
  have HF := Lib.hid (And.intro hf.1 hf.2.1)
  obtain ⟨Ab, db, rfl⟩ := row_shape hf.1
  clear hf hq c0
  go_wp2
  (try simp only [Exit.inBlock, Exit.then]); refine bodyPost_ret (by simp [results, Try.results31, go_sem, *]; try rfl) rfl ?_
  have hb : Below w.heap.size w1 (w1.setCell ⟨w.heap.size, 0, none⟩ (.slice Ab B.length db)) := (Below.refl w.heap.size w1).setCell (p := ⟨w.heap.size, 0, none⟩) (Nat.le_refl _) _
  refine ⟨_, rfl, ownsRow_setCell_below (Joins.ownsRow_le HF.out.1 (show w.heap.size + 1 ≤ _ by simp)) (show w.heap.size < w.heap.size + 1 by omega) _ |> fun h => Joins.ownsRow_le h (by omega), ?_⟩
  exact (((Below.refl _ w).alloc (Nat.le_refl _) _).trans (HF.out.2.mono (by simp))).trans hb

set_option maxRecDepth 100000 in
set_option maxHeartbeats 3200000 in
theorem copy_any (p L T : Nat) (v : Value) (B : List Nat) (C : Bool) (w : World) (h : SAt w p v B L T C) :
    Calls Try.prog 13 #[.pointer (some ⟨p, 0, none⟩)] w fun e w' => ∃ p2 v2, e = .returned (.pointer (some ⟨p2, 0, none⟩)) ∧ SAt w' p2 v2 B L T C ∧ Below w.heap.size w w' ∧ w.heap.size ≤ p2 ∧ ∀ k, v2.ownBlock = some k → w.heap.size ≤ k := by
  have HN := fun w => Lib.hid (none_no p L w h.pos)
  have KEEP : ∀ wy, Below w.heap.size w wy → wy.cell? ⟨p, 0, none⟩ = some v ∧ wy.cell? ⟨p, 1, none⟩ = some (.int .i64 L) ∧ wy.cell? ⟨p, 2, none⟩ = some (.int .i64 T) ∧ wy.cell? ⟨p, 3, none⟩ = some (.bool C) := fun wy hy => by
    have h' := h.below hy
    exact ⟨h'.c0, h'.c1, h'.c2, h'.c3⟩
  have HCP := fun wx (hx : Below w.heap.size w wx) => Lib.hid (copied_any p v B wx (h.below hx).c0 (h.below hx).buf (Nat.le_trans h.fit h.max))
  have KEEP := Lib.hid KEEP
  have c1 := h.c1
  have hfit := h.fit
  have hpos := h.pos
  have hmax := h.max
  clear h
  go_enter Try.func13, Try.ntmps13
  go_wp2_with (go_at_call 30; go_must (refine ((HN _).out c1).mono ?_); rintro e w1 ⟨rfl, rfl⟩)
  go_region_held (fun w' => w'.cell? ⟨p, 0, none⟩ = some v ∧ w'.cell? ⟨p, 1, none⟩ = some (.int .i64 L) ∧ w'.cell? ⟨p, 2, none⟩ = some (.int .i64 T) ∧ w'.cell? ⟨p, 3, none⟩ = some (.bool C)) (first | exact KEEP.out _ (Below.refl _ _).drew | exact KEEP.out _ HBC.out | exact KEEP.out _ (HBC.out.alloc HBC.out.size _)) (first | (go_at_call 31; refine ((HCP _ (Below.refl _ _).drew).out).mono ?_; rintro e w2 ⟨v2, rfl, hr, hb⟩; have HBC := Lib.hid ((Below.refl _ _).drew.trans hb); have HR := Lib.hid hr; clear hr hb))
  go_wp2
  go_ret
  have hb : Below w2.heap.size w2 (w2.alloc (.cells #[v2, .int .i64 L, .int .i64 T, .bool C] 57)) := (Below.refl _ _).alloc (Nat.le_refl _) _
  have hbuf := Buf.of_row HR.out
  refine ⟨w2.heap.size, v2, rfl, ⟨heap_alloc_new w2 _, hbuf.rest (S := fun _ => False) (Rest.below hb) (fun _ _ e => e), fun e => ?_, hfit, hpos, hmax⟩, HBC.out.trans (hb.mono HBC.out.size), HBC.out.size, fun k hk => (HR.out.lt k hk).1⟩
  have := hbuf.lt _ e
  omega
end Go.Proofs.Ytociidinfdbaeaa
