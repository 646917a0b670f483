/- The document's own answers: Number returns the bits of a number, Of those of bytes. Conditions: at most 64 bits; at most 1048576 bytes, each below 256. -/
import Derived.Test.YtboiiohpkoodpaaKn
namespace Go.Proofs.Ytboiiohpkoodpaa
open Go.RowKit Go.Shelf
attribute [local go_sem] Oper.semAt_some

/-- The cells of a row of bits. -/
def bools (l : List Bool) : List Value := l.map Value.bool
theorem bools_length (l : List Bool) : (bools l).length = l.length := by simp [bools]
theorem bools_append (a b : List Bool) : bools (a ++ b) = bools a ++ bools b := by simp [bools]
theorem one_bools (l : List Bool) : ∀ u ∈ bools l, u.oneCell' = true := by
  intro u hu
  simp only [bools, List.mem_map] at hu
  obtain ⟨c, _, rfl⟩ := hu
  rfl

/-- A new row of bits. -/
def NewBits (w : World) (l : List Bool) (e : Ending) (w' : World) : Prop :=
  ∃ r, e = .returned r ∧ w'.ownsRow w.heap.size 4 1 r l.length (bools l) ∧ Below w.heap.size w w'

theorem row_ge {w : World} {base : Nat} {e : TypeId} {size : Nat} {v : Value} {n : Nat} {xs : List Value} (h : w.ownsRow base e size v n xs) : ∀ k, v.ownBlock = some k → base ≤ k := by
  intro k hk
  rcases h.2 with ⟨rfl, _⟩ | ⟨g, cap, cur, rfl, hb, _⟩
  · simp [Value.ownBlock] at hk
  · simp [Value.ownBlock] at hk; subst hk; exact hb

theorem dig_ref (v m k : Nat) : ((((v : Int) / 2 ^ (m - 1 - k)).tmod 2) == 1) = v.testBit (m - 1 - k) := by
  have h : ((v : Int) / 2 ^ (m - 1 - k)) = ((v / 2 ^ (m - 1 - k) : Nat) : Int) := by simp
  rw [h, Nat.testBit_eq_decide_div_mod_eq, show (2 : Int) = ((2 : Nat) : Int) from rfl, ← Int.ofNat_tmod]
  rw [Bool.eq_iff_iff]
  simp
  omega

theorem Try.info4 : (Try.prog.info? 4).map (fun i => (i.zero, i.size, i.bytes)) = some (some (.bool false), 1, 1) := by kernel_rfl

set_option maxRecDepth 100000 in
set_option maxHeartbeats 800000 in
theorem refNumber (v n : Nat) (w : World) (hn : n ≤ 64) :
    Calls Try.prog 52 #[.int .i64 v, .int .i64 n] w (NewBits w (digs v n)) := by
  obtain ⟨i0, hi, hz0, hz1, hz2⟩ := info_parts Try.info4
  have HI := Lib.hid hi
  clear hi
  go_enter Try.func52, Try.ntmps52
  go_wp2
  go_loopw [5, 6] (fun o i wr => ∃ k : Nat, k ≤ n ∧ i = .int .i64 ((n : Int) - 1 - k) ∧ wr.ownsRow w.heap.size 4 1 o k (bools ((digs v n).take k)) ∧ Below w.heap.size w wr) (fun _ i _ => (intOf i + 1).toNat)
  case atStart =>
    exact ⟨0, Nat.zero_le _, by go_num, ⟨by simp [bools], .inl ⟨rfl, rfl⟩⟩, Below.refl _ _⟩
  case round =>
    obtain ⟨k, hk, rfl, hrow, hb⟩ := hrel
    have HR := Lib.hid hrow
    have HB := Lib.hid hb
    clear hrow hb
    by_cases hlt : k < n
    · obtain ⟨bit, hbit⟩ : ∃ bit, v.testBit (n - 1 - k) = bit := ⟨_, rfl⟩
      have hd := dig_ref v n k
      have ht := digs_take v n k hlt
      rw [hbit] at hd ht
      rw [show (n : Int) - 1 - k = ((n - 1 - k : Nat) : Int) by omega]
      have HT := Lib.hid ht
      have hlk : (n - 1 - k : Nat) < 64 := by omega
      clear ht hbit
      go_wp2_with (at_builtin; go_must (refine wpList_append_own_at _ rfl _ _ 27 rfl w.heap.size 4 i0 (.bool false) 1 1 Try.underlying27 HI.out hz0 hz1 hz2 rfl (by decide) _ _ _ rfl (HR.out.alloc _) ⟨wr.heap.size, 0, none⟩ 1 1 [.bool bit] rfl rfl (cell_one_new _ _ _) (by simp [Value.oneCell']) (by unfold maxLen; omega) (by omega) (by have := HB.out.size; simp; omega) ?_); go_must (intro v1 w1 hown1 hgrow1 _ _); have hb1 := (HB.out.alloc HB.out.size (.cells #[.bool bit] 4)).grown hgrow1 (by have := HB.out.size; simp; omega) (fun k e => row_ge HR.out k e); have HB1 := Lib.hid hb1; have HO := Lib.hid hown1; clear hb1 hown1 hgrow1)
      go_roundw
      case rel =>
        refine ⟨k + 1, by omega, by go_num, ?_, HB1.out⟩
        rw [HT.out, bools_append]
        exact HO.out
      case measure => simp [intOf]
    · obtain rfl : k = n := by omega
      go_wp2
      go_ret
      refine ⟨_, rfl, ?_, HB.out⟩
      have := HR.out
      rw [List.take_of_length_le (by rw [digs_length]; omega)] at this
      rw [digs_length]
      exact this
theorem addr_block (a : Addr) (n : Nat) : (a.add n).block = a.block := by unfold Addr.add; split <;> rfl
theorem take_snoc (B : List Nat) (k : Nat) (h : k < B.length) : B.take (k + 1) = B.take k ++ [B.getD k 0] := by
  rw [List.take_succ_eq_append_getElem h, List.getD_eq_getElem?_getD, List.getElem?_eq_getElem h]
  rfl
theorem unpack_snoc (B : List Nat) (k : Nat) (h : k < B.length) : unpack (B.take (k + 1)) = unpack (B.take k) ++ digs (B.getD k 0) 8 := by
  rw [take_snoc B k h, unpack_append]
  simp [unpack]

set_option maxRecDepth 100000 in
set_option maxHeartbeats 800000 in
theorem refOf_nil (w : World) : Calls Try.prog 20 #[.slice none 0 0] w (NewBits w (unpack [])) := by
  go_enter Try.func20, Try.ntmps20
  go_wp2
  go_loopw [3, 4] (fun o i wr => o = .slice none 0 0 ∧ i = .int .i64 0 ∧ wr = w) (fun _ _ _ => 0)
  case atStart => exact ⟨rfl, rfl, rfl⟩
  case round =>
    obtain ⟨rfl, rfl, rfl⟩ := hrel
    go_wp2
    go_ret
    exact ⟨_, rfl, ⟨by simp [bools, unpack], .inl ⟨rfl, by simp [unpack]⟩⟩, Below.refl _ _⟩

set_option maxRecDepth 100000 in
set_option maxHeartbeats 800000 in
theorem refOf_some (a : Addr) (c : Nat) (B : List Nat) (w : World) (ha : a.block < w.heap.size) (hcells : ∀ j u, (u8s B)[j]? = some u → w.cell? (a.add j) = some u) (hB : ∀ x ∈ B, x < 256) (hBl : B.length ≤ 1048576) :
    Calls Try.prog 20 #[.slice (some a) B.length c] w (NewBits w (unpack B)) := by
  obtain ⟨i0, hi, hz0, hz1, hz2⟩ := info_parts Try.info4
  have HI := Lib.hid hi
  have HC := Lib.hid hcells
  have HBB := Lib.hid hB
  clear hi hcells hB
  go_enter Try.func20, Try.ntmps20
  go_wp2
  go_loopw [3, 4] (fun o i wr => ∃ k : Nat, k ≤ B.length ∧ i = .int .i64 k ∧ wr.ownsRow w.heap.size 4 1 o (8 * k) (bools (unpack (B.take k))) ∧ Below w.heap.size w wr) (fun _ i _ => B.length - (intOf i).toNat)
  case atStart =>
    exact ⟨0, Nat.zero_le _, rfl, ⟨by simp [bools, unpack], .inl ⟨rfl, rfl⟩⟩, Below.refl _ _⟩
  case round =>
    obtain ⟨k, hk, rfl, hrow, hb⟩ := hrel
    have HR := Lib.hid hrow
    have HB := Lib.hid hb
    clear hrow hb
    by_cases hlt : k < B.length
    · obtain ⟨cc, hcc⟩ : ∃ cc, B.getD k 0 = cc := ⟨_, rfl⟩
      have hu := unpack_snoc B k hlt
      rw [hcc] at hu
      have hc256 : cc < 256 := by
        rw [← hcc, List.getD_eq_getElem?_getD, List.getElem?_eq_getElem hlt]
        exact HBB.out _ (List.getElem_mem _)
      have hcell : wr.cell? (a.add k) = some (.int .u8 cc) := by
        refine (HB.out.cell (p := a.add k) (by rw [addr_block]; exact ha)).trans (HC.out k _ ?_)
        simp [u8s, hlt, ← hcc]
      have HU := Lib.hid hu
      have HN := Lib.hid (refNumber cc 8 wr (by decide))
      clear hu hcc
      go_wp2_with fail
      refine HN.out.mono ?_
      rintro e w1 ⟨r, rfl, hrow1, hb1⟩
      have hr1 : w1.ownsRow w.heap.size 4 1 _ (8 * k) _ := Rest.row (S := fun _ => False) (Rest.below hb1) HR.out (fun _ _ e => e)
      have hb2 := HB.out.trans (hb1.mono HB.out.size)
      rw [digs_length] at hrow1
      obtain ⟨g, cap, rfl⟩ : ∃ g cap, r = .slice (some ⟨g, 0, none⟩) 8 cap := by
        rcases Joins.ownsRow_forms hrow1 with ⟨_, h⟩ | h
        · exact absurd h (by decide)
        · exact h
      have HR1 := Lib.hid hr1
      have HR2 := Lib.hid (hrow1.cells (g := g) rfl)
      have HB2 := Lib.hid hb2
      clear hrow1 hb1 hr1 hb2
      go_wp2_with (at_builtin; go_must (refine wpList_append_own_at _ rfl _ _ 27 rfl w.heap.size 4 i0 (.bool false) 1 1 Try.underlying27 HI.out hz0 hz1 hz2 rfl (by decide) _ _ _ rfl HR1.out ⟨g, 0, none⟩ 8 cap (bools (digs cc 8)) rfl (by rw [bools_length, digs_length]) HR2.out (one_bools _) (by unfold maxLen; omega) (by omega) HB2.out.size ?_); go_must (intro v1 w2 hown1 hgrow1 _ _); have hb3 := HB2.out.grown hgrow1 HB2.out.size (fun k e => row_ge HR1.out k e); have HB3 := Lib.hid hb3; have HO := Lib.hid hown1; clear hb3 hown1 hgrow1)
      go_roundw
      case rel =>
        refine ⟨k + 1, by omega, by go_num, ?_, HB3.out⟩
        rw [HU.out, bools_append]
        exact HO.out
      case measure => simp [intOf]; omega
    · obtain rfl : k = B.length := by omega
      go_wp2
      go_ret
      refine ⟨_, rfl, ?_, HB.out⟩
      have := HR.out
      rw [List.take_of_length_le (Nat.le_refl _)] at this
      rw [unpack_length]
      exact this

theorem refOf (s : Value) (B : List Nat) (w : World) (hs : SrcAt w s B) (hB : ∀ x ∈ B, x < 256) (hBl : B.length ≤ 1048576) : Calls Try.prog 20 #[s] w (NewBits w (unpack B)) := by
  rcases hs with ⟨rfl, rfl⟩ | ⟨a, c, rfl, ha, hc⟩
  · exact refOf_nil w
  · exact refOf_some a c B w ha hc hB hBl
end Go.Proofs.Ytboiiohpkoodpaa
