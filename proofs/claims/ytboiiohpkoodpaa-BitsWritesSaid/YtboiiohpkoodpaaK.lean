/- extend puts whole bytes behind a writer's bit string, Little a little number, Bytes bytes. Conditions: the writer lies in memory, ends at a border where bytes are put, and has at most 8388608 bits. -/
import Derived.Test.YtboiiohpkoodpaaJ
import Derived.Laws.AppendOwnNone
import Derived.Lib.SmallJoins
import Derived.Deep.RegionWith
namespace Go.Proofs.Ytboiiohpkoodpaa
open Go.RowKit Go.Shelf

theorem grow_fin2 {w w1 : World} {b k : Nat} {v v1 : Value} {l : List Bool} {xs : List Value} (h : WAt w b v l) (hg : w.grownBy w1 v.ownBlock)
    (_ : w1.ownsRow 0 5 1 v1 k xs) (hat : v1.ownBlock = v.ownBlock ∨ v1.ownBlock = some w.heap.size) :
    Obj3 63 w1 b v l.length ∧ Rest (Mine b v) w w1 ∧ (∀ k, v1.ownBlock = some k → v.ownBlock = some k ∨ w.heap.size ≤ k) := by
  refine ⟨h.obj.grown hg h.ne, (Rest.refl _ w).grown hg (fun k e _ => .inr e), fun k hk => ?_⟩
  rcases hat with e | e
  · exact .inl (e ▸ hk)
  · rw [hk] at e; cases e; exact .inr (Nat.le_refl _)

theorem add_end2 {w w1 : World} {b : Nat} {v v1 : Value} {l l' : List Bool} (hb : Obj3 63 w1 b v l.length) (hr : Rest (Mine b v) w w1) (hat : ∀ k, v1.ownBlock = some k → v.ownBlock = some k ∨ w.heap.size ≤ k)
    (hown : w1.ownsRow 0 5 1 v1 (packs l').length (u8s (packs l'))) :
    Added b v l' w (.returned (.tuple #[])) ((w1.setCell ⟨b, 1, none⟩ v1).setCell ⟨b, 2, none⟩ (.int .i64 l'.length)) := by
  have hne : v1.ownBlock ≠ some b := hb.ne hown (by decide)
  refine ⟨rfl, v1, ⟨(hb.set1 _).set2 _, ?_⟩, ?_, hat⟩
  · exact ownsRow_setCell_other (ownsRow_setCell_other hown hne _) hne _
  · exact (hr.setCell (p := ⟨b, 1, none⟩) (fun _ => .inl rfl) _).setCell (p := ⟨b, 2, none⟩) (fun _ => .inl rfl) _

set_option maxRecDepth 100000 in
set_option maxHeartbeats 800000 in
theorem extend_nil (b : Nat) (v : Value) (l : List Bool) (w : World) (h : WAt w b v l) (hl : l.length ≤ 8388608) :
    Calls Try.prog 82 #[.pointer (some ⟨b, 0, none⟩), .slice none 0 0] w (Added b v l w) := by
  obtain ⟨i0, hi, hz0, hz1, hz2⟩ := info_parts Try.info5
  have hc1 := h.obj.c1
  have hc2 := h.obj.c2
  have hf1 := h.obj.fr 1
  have hf2 := h.obj.fr 2
  have H := Lib.hid h
  have HROW := Lib.hid h.row
  rcases Joins.ownsRow_forms h.row with ⟨rfl, _⟩ | ⟨g, cap, rfl⟩
  all_goals
    clear h
    go_enter Try.func82, Try.ntmps82
    go_wp2_with (at_builtin; go_must (refine wpList_append_own_none rfl _ _ 28 rfl 0 5 i0 1 Try.underlying28 hi _ _ _ rfl HROW.out rfl ?_))
    go_end0
    have := add_end2 (l' := l) H.out.obj (Rest.refl _ w) (fun _ e => .inl e) H.out.row
    exact this
theorem one_u8s (B : List Nat) : ∀ u ∈ u8s B, u.oneCell' = true := by
  intro u hu
  simp only [u8s, List.mem_map] at hu
  obtain ⟨c, _, rfl⟩ := hu
  rfl

theorem len_bytes (l : List Bool) (B : List Nat) : ((l ++ unpack B).length : Int) = l.length + 8 * B.length := by simp [unpack_length]

set_option maxRecDepth 100000 in
set_option maxHeartbeats 800000 in
theorem extend_some (b : Nat) (v : Value) (l : List Bool) (w : World) (h : WAt w b v l) (ha : l.length % 8 = 0) (a : Addr) (c : Nat) (B : List Nat) (hB : ∀ x ∈ B, x < 256)
    (hcells : ∀ j u, (u8s B)[j]? = some u → w.cell? (a.add j) = some u) (hl : l.length + 8 * B.length ≤ 8388608) :
    Calls Try.prog 82 #[.pointer (some ⟨b, 0, none⟩), .slice (some a) B.length c] w (Added b v (l ++ unpack B) w) := by
  obtain ⟨i0, hi, hz0, hz1, hz2⟩ := info_parts Try.info5
  have hc1 := h.obj.c1
  have H := Lib.hid h
  have HC := Lib.hid hcells
  have HP := Lib.hid (packs_bytes l B ha hB)
  have hn : (packs l).length ≤ 1048576 := by rw [packs_length]; omega
  have hn2 : (packs l).length + B.length ≤ 1048576 := by rw [packs_length]; omega
  clear h hcells ha hB
  go_enter Try.func82, Try.ntmps82
  go_wp2_with (at_builtin; go_must (refine wpList_append_own_at _ rfl _ _ 28 rfl 0 5 i0 (.int .u8 0) 1 1 Try.underlying28 hi hz0 hz1 hz2 rfl (by decide) _ _ _ rfl H.out.row a B.length c (u8s B) rfl (by rw [u8s_length, Nat.mul_one]) HC.out (one_u8s B) (by unfold maxLen; omega) (by omega) (Nat.zero_le _) ?_); go_must (intro v1 w1 hown1 hgrow1 _ hat1); go_must (obtain ⟨hb1, hr1, hat⟩ := grow_fin2 H.out hgrow1 hown1 hat1); have HO := Lib.hid hown1; have k1 := hb1.c1; have k2 := hb1.c2; have kf1 := hb1.fr 1; have kf2 := hb1.fr 2; clear hgrow1 hat1; rcases Joins.ownsRow_forms hown1 with ⟨rfl, _⟩ | ⟨g, cap, rfl⟩ <;> clear hown1)
  all_goals
    go_end0
    have hlen : (packs (l ++ unpack B)).length = (packs l).length + B.length := by rw [HP.out, List.length_append]
    have := add_end2 (l' := l ++ unpack B) hb1 hr1 hat (by rw [hlen]; rw [HP.out, u8s_append]; exact HO.out)
    rw [len_bytes] at this
    exact this
end Go.Proofs.Ytboiiohpkoodpaa
