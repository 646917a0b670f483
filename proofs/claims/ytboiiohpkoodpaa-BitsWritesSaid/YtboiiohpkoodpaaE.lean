/- add puts one bit behind a writer's bit string. Conditions: the writer lies in memory and has fewer than 8388608 bits. -/
import Derived.Test.YtboiiohpkoodpaaD
import Derived.BigRegion
namespace Go.Proofs.Ytboiiohpkoodpaa
open Go.RowKit
theorem Try.info5 : (Try.prog.info? 5).map (fun i => (i.zero, i.size, i.bytes)) = some (some (.int .u8 0), 1, 1) := by kernel_rfl

/-- What a call that adds bits leaves. -/
def Added (b : Nat) (v : Value) (l : List Bool) (w : World) (e : Ending) (w' : World) : Prop :=
  e = .returned (.tuple #[]) ∧ ∃ v', WAt w' b v' l ∧ WStep b v v' w w'

theorem snoc_len (l : List Bool) (x : Bool) : ((l ++ [x]).length : Int) = l.length + 1 := by simp

theorem grow_fin {w w1 : World} {o : Obj} {b g cap k : Nat} {v : Value} {l : List Bool} {xs : List Value} (h : WAt w b v l) (hg : (w.alloc o).grownBy w1 v.ownBlock)
    (hown : w1.ownsRow 0 5 1 (.slice (some ⟨g, 0, none⟩) k cap) k xs) (hat : v.ownBlock = some g ∨ g = w.heap.size + 1) :
    Obj3 63 w1 b v l.length ∧ g ≠ b ∧ Rest (Mine b v) w w1 ∧ (v.ownBlock = some g ∨ w.heap.size ≤ g) := by
  have hb1 : Obj3 63 w1 b v l.length := (h.obj.alloc _).grown hg h.ne
  refine ⟨hb1, fun e => hb1.ne hown (by decide) (by simp [Value.ownBlock, e]), ?_, ?_⟩
  · exact ((Rest.refl _ w).alloc o).grown hg (fun k e _ => .inr e)
  · rcases hat with e | e
    · exact .inl e
    · exact .inr (by omega)

/-- The end of a call that has stored the new row and the new length. -/
theorem add_end {w w1 : World} {b g cap : Nat} {v : Value} {l l' : List Bool} (hb : Obj3 63 w1 b v l.length) (hne : g ≠ b) (hr : Rest (Mine b v) w w1) (hat : v.ownBlock = some g ∨ w.heap.size ≤ g)
    (hown : w1.ownsRow 0 5 1 (.slice (some ⟨g, 0, none⟩) (packs l').length cap) (packs l').length (u8s (packs l'))) :
    Added b v l' w (.returned (.tuple #[])) ((w1.setCell ⟨b, 1, none⟩ (.slice (some ⟨g, 0, none⟩) (packs l').length cap)).setCell ⟨b, 2, none⟩ (.int .i64 l'.length)) := by
  refine ⟨rfl, _, ⟨(hb.set1 _).set2 _, ?_⟩, ?_, ?_⟩
  · exact ownsRow_setCell_other (ownsRow_setCell_other hown (by simp [Value.ownBlock, hne]) _) (by simp [Value.ownBlock, hne]) _
  · exact (hr.setCell (p := ⟨b, 1, none⟩) (fun _ => .inl rfl) _).setCell (p := ⟨b, 2, none⟩) (fun _ => .inl rfl) _
  · intro k hk
    simp [Value.ownBlock] at hk
    subst hk
    exact hat

set_option maxRecDepth 100000 in
set_option maxHeartbeats 800000 in
theorem add_al0 (b : Nat) (v : Value) (l : List Bool) (w : World) (h : WAt w b v l) (hl : l.length < 8388608) (ha : l.length % 8 = 0) :
    Calls Try.prog 50 #[.pointer (some ⟨b, 0, none⟩), .bool false] w (Added b v (l ++ [false]) w) := by
  obtain ⟨i0, hi, hz0, hz1, hz2⟩ := info_parts Try.info5
  have hc1 := h.obj.c1
  have hc2 := h.obj.c2
  have hf1 := h.obj.fr 1
  have hal : (((l.length : Int) % 8) == 0) = true := by simp; omega
  have hn : (packs l).length ≤ 1048576 := by rw [packs_length]; omega
  have hp : packs (l ++ [false]) = packs l ++ [0] := by rw [packs_false, if_pos ha]
  have HP := Lib.hid hp
  have H := Lib.hid h
  clear h ha hp
  go_enter Try.func50, Try.ntmps50
  go_wp2_with (first | (go_at_call 68; refine (aligned_any b l.length w (by omega) hc2).mono ?_; rintro e w1 ⟨rfl, rfl⟩) | (at_builtin; go_must (refine wpList_append_lies _ rfl _ _ 28 rfl 0 5 i0 (.int .u8 0) 1 1 Try.underlying28 hi hz0 hz1 hz2 rfl (by decide) _ _ _ rfl (H.out.row.alloc _) ⟨w.heap.size, 0, none⟩ 1 1 [.int .u8 0] rfl rfl (cell_one_new _ _ _) (by simp [Value.oneCell']) (by omega) (by unfold maxLen; omega) (by omega) (Nat.zero_le _) (w.heap.size + 1) (by simp) ?_); go_must (intro g cap w1 hown1 hgrow1 hat1 _); go_must (obtain ⟨hb1, hne, hr1, hat⟩ := grow_fin H.out hgrow1 hown1 hat1); have HO := Lib.hid hown1; clear hown1 hgrow1 hat1; have k1 := hb1.c1; have k2 := hb1.c2; have kf1 := hb1.fr 1; have kf2 := hb1.fr 2))
  go_end0
  have hlen : (packs (l ++ [false])).length = (packs l).length + 1 := by rw [HP.out]; simp
  have := add_end (l' := l ++ [false]) hb1 hne hr1 hat (by rw [hlen]; rw [HP.out, u8s_append]; exact HO.out)
  rw [hlen, snoc_len] at this
  exact this

set_option maxRecDepth 100000 in
set_option maxHeartbeats 800000 in
theorem add_un0 (b : Nat) (v : Value) (l : List Bool) (w : World) (h : WAt w b v l) (hl : l.length < 8388608) (ha : l.length % 8 ≠ 0) :
    Calls Try.prog 50 #[.pointer (some ⟨b, 0, none⟩), .bool false] w (Added b v (l ++ [false]) w) := by
  have hc2 := h.obj.c2
  have hf2 := h.obj.fr 2
  have hal : (((l.length : Int) % 8) == 0) = false := by simp; omega
  have hp : packs (l ++ [false]) = packs l := by rw [packs_false, if_neg ha]
  have HP := Lib.hid hp
  have H := Lib.hid h
  clear h ha hp
  go_enter Try.func50, Try.ntmps50
  go_wp2_with (go_at_call 68; refine (aligned_any b l.length w (by omega) hc2).mono ?_; rintro e w1 ⟨rfl, rfl⟩)
  go_end0
  refine ⟨rfl, v, ⟨?_, ?_⟩, ?_, fun _ e => .inl e⟩
  · rw [snoc_len]; exact H.out.obj.set2 _
  · rw [HP.out]; exact ownsRow_setCell_other H.out.row H.out.ne _
  · exact (Rest.refl _ w).setCell (p := ⟨b, 2, none⟩) (fun _ => .inl rfl) _

theorem half_eq (k : Nat) (hk : k < 8) : (128 : Int) / 2 ^ k = ((2 ^ (7 - k) : Nat) : Int) := by
  have : k = 0 ∨ k = 1 ∨ k = 2 ∨ k = 3 ∨ k = 4 ∨ k = 5 ∨ k = 6 ∨ k = 7 := by omega
  rcases this with h | h | h | h | h | h | h | h <;> subst h <;> decide

theorem or_eq (c k : Nat) (hc : c < 256) (hk : k < 8) : bits BinOp.or IntKind.u8 (c : Int) (128 / 2 ^ k) = ((c ||| 2 ^ (7 - k) : Nat) : Int) := by
  rw [half_eq k hk, u8_or_nat c _ hc (Nat.lt_of_le_of_lt (Nat.pow_le_pow_right (n := 2) (by omega) (show 7 - k ≤ 7 by omega)) (by decide))]

set_option maxRecDepth 100000 in
set_option maxHeartbeats 800000 in
theorem add_un1 (b : Nat) (v : Value) (l : List Bool) (w : World) (h : WAt w b v l) (hl : l.length < 8388608) (ha : l.length % 8 ≠ 0) :
    Calls Try.prog 50 #[.pointer (some ⟨b, 0, none⟩), .bool true] w (Added b v (l ++ [true]) w) := by
  have hpl := packs_length l
  obtain ⟨g, cap, rfl, _, _⟩ := World.ownsRow.form h.row (by omega)
  have hc1 := h.obj.c1
  have hc2 := h.obj.c2
  have hf2 := h.obj.fr 2
  have hal : (((l.length : Int) % 8) == 0) = false := by simp; omega
  have hd : l.length / 8 < (packs l).length := by omega
  have hcell := h.row.cellAt (l.length / 8) (by omega)
  have hfg := h.row.frozenAt (l.length / 8)
  have hne : g ≠ b := fun e => h.ne (by simp [Value.ownBlock, e])
  rw [show (u8s (packs l))[l.length / 8]? = some (.int .u8 (byteOf l (l.length / 8) : Nat)) by simp [u8s, packs, show l.length / 8 < (l.length + 7) / 8 by omega]] at hcell
  have hbl := byteOf_lt l (l.length / 8)
  have H := Lib.hid h
  have HA := Lib.hid ha
  have HPL := Lib.hid hpl
  clear h ha hpl
  go_enter Try.func50, Try.ntmps50
  go_wp2_with (go_at_call 68; refine (aligned_any b l.length w (by omega) hc2).mono ?_; rintro e w1 ⟨rfl, rfl⟩)
  go_region
  go_wp2
  go_end0
  rw [or_eq _ _ hbl (by omega)]
  have hp := packs_un1 l HA.out
  have hst := H.out.row.stored (l.length / 8) (.int .u8 ((byteOf l (l.length / 8) ||| 2 ^ (7 - l.length % 8) : Nat) : Int))
  refine ⟨rfl, _, ⟨?_, ?_⟩, ?_, fun _ e => .inl e⟩
  · rw [snoc_len]; exact (H.out.obj.other ⟨g, l.length / 8, none⟩ _ hne).set2 _
  · rw [hp, u8s_set, List.length_set]
    exact ownsRow_setCell_other hst.1 (by simp [Value.ownBlock, hne]) _
  · exact (((Rest.refl _ w).setCell (p := ⟨g, l.length / 8, none⟩) (fun _ => .inr rfl) _).setCell (p := ⟨b, 2, none⟩) (fun _ => .inl rfl) _).drew

set_option maxRecDepth 100000 in
set_option maxHeartbeats 1600000 in
theorem add_al1 (b : Nat) (v : Value) (l : List Bool) (w : World) (h : WAt w b v l) (hl : l.length < 8388608) (ha : l.length % 8 = 0) :
    Calls Try.prog 50 #[.pointer (some ⟨b, 0, none⟩), .bool true] w (Added b v (l ++ [true]) w) := by
  obtain ⟨i0, hi, hz0, hz1, hz2⟩ := info_parts Try.info5
  have hc1 := h.obj.c1
  have hc2 := h.obj.c2
  have hf1 := h.obj.fr 1
  have hal : (((l.length : Int) % 8) == 0) = true := by simp; omega
  have hn : (packs l).length ≤ 1048576 := by rw [packs_length]; omega
  have hpl : (packs l).length = l.length / 8 := by rw [packs_length]; omega
  have hd : l.length / 8 < (packs l).length + 1 := by omega
  have HPL := Lib.hid hpl
  have H := Lib.hid h
  have HA := Lib.hid ha
  clear h ha hpl
  go_enter Try.func50, Try.ntmps50
  go_wp2_with (first | (go_at_call 68; refine (aligned_any b l.length w (by omega) hc2).mono ?_; rintro e w1 ⟨rfl, rfl⟩) | (at_builtin; go_must (refine wpList_append_lies _ rfl _ _ 28 rfl 0 5 i0 (.int .u8 0) 1 1 Try.underlying28 hi hz0 hz1 hz2 rfl (by decide) _ _ _ rfl (H.out.row.alloc _) ⟨w.heap.size, 0, none⟩ 1 1 [.int .u8 0] rfl rfl (cell_one_new _ _ _) (by simp [Value.oneCell']) (by omega) (by unfold maxLen; omega) (by omega) (Nat.zero_le _) (w.heap.size + 1) (by simp) ?_); go_must (intro g cap w1 hown1 hgrow1 hat1 _); go_must (obtain ⟨hb1, hne, hr1, hat⟩ := grow_fin H.out hgrow1 hown1 hat1); have HO := Lib.hid hown1; have kg := hown1.cellAt (l.length / 8) (by omega); have kfg := hown1.frozenAt (l.length / 8); rw [show (u8s (packs l) ++ [Value.int .u8 0])[l.length / 8]? = some (.int .u8 0) by rw [List.getElem?_append_right (by rw [u8s_length, HPL.out]; omega), u8s_length, HPL.out]; simp] at kg; clear hown1 hgrow1 hat1; have k1 := hb1.c1; have k2 := hb1.c2; have kf1 := hb1.fr 1; have kf2 := hb1.fr 2))
  go_region
  go_wp2
  go_end0
  have ho : bits BinOp.or IntKind.u8 0 (128 / 2 ^ (l.length % 8)) = ((128 : Nat) : Int) := by
    rw [HA.out]; exact or_eq 0 0 (by decide) (by decide)
  rw [ho]
  have hp : u8s (packs (l ++ [true])) = (u8s (packs l) ++ [Value.int .u8 0]).set (l.length / 8) (.int .u8 ((128 : Nat) : Int)) := by
    rw [packs_al1 l HA.out, u8s_set, u8s_append]; rfl
  have hlen : (packs (l ++ [true])).length = (packs l).length + 1 := by rw [packs_al1 l HA.out]; simp
  refine ⟨rfl, .slice (some ⟨g, 0, none⟩) ((packs l).length + 1) cap, ⟨?_, ?_⟩, ?_, ?_⟩
  · rw [snoc_len]; exact ((hb1.set1 _).other ⟨g, l.length / 8, none⟩ _ hne).set2 _
  · rw [hlen, hp]
    refine ownsRow_setCell_other ?_ (by simp [Value.ownBlock, hne]) _
    exact ((ownsRow_setCell_other HO.out (a := ⟨b, 1, none⟩) (by simp [Value.ownBlock, hne]) _).stored (l.length / 8) _).1
  · refine (((hr1.setCell (p := ⟨b, 1, none⟩) (fun _ => .inl rfl) _).setCell (p := ⟨g, l.length / 8, none⟩) (fun hlt => ?_) _).setCell (p := ⟨b, 2, none⟩) (fun _ => .inl rfl) _).drew
    rcases hat with e | e
    · exact .inr e
    · exact absurd hlt (Nat.not_lt.2 e)
  · intro k hk
    simp [Value.ownBlock] at hk
    subst hk
    exact hat

theorem add_any (b : Nat) (v : Value) (l : List Bool) (x : Bool) (w : World) (h : WAt w b v l) (hl : l.length < 8388608) :
    Calls Try.prog 50 #[.pointer (some ⟨b, 0, none⟩), .bool x] w (Added b v (l ++ [x]) w) := by
  by_cases ha : l.length % 8 = 0
  · cases x
    · exact add_al0 b v l w h hl ha
    · exact add_al1 b v l w h hl ha
  · cases x
    · exact add_un0 b v l w h hl ha
    · exact add_un1 b v l w h hl ha
end Go.Proofs.Ytboiiohpkoodpaa
