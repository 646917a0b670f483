/- NewWriter, Len, Out, Copy and Bytes of a writer. Conditions: the writer lies in memory and has at most 8388608 bits. -/
import Derived.Test.YtboiiohpkoodpaaL
namespace Go.Proofs.Ytboiiohpkoodpaa
open Go.RowKit Go.Shelf

theorem add_block (a : Addr) (j : Nat) : (a.add j).block = a.block := by unfold Addr.add; split <;> rfl

set_option maxHeartbeats 400000 in
theorem newWriter_any (w : World) :
    Calls Try.prog 11 #[] w fun e w' => e = .returned (.pointer (some ⟨w.heap.size, 0, none⟩)) ∧ WAt w' w.heap.size (.slice none 0 0) [] ∧ Below w.heap.size w w' := by
  go_enter Try.func11, Try.ntmps11
  go_wp2
  go_ret
  refine ⟨rfl, ⟨?_, ?_⟩, (Below.refl _ _).alloc (Nat.le_refl _) _⟩
  · exact World.alloc_heap_new w _
  · exact World.ownsRow_nil _ _ _ _

set_option maxHeartbeats 400000 in
theorem len_any (b : Nat) (v : Value) (l : List Bool) (w : World) (h : WAt w b v l) :
    Calls Try.prog 16 #[.pointer (some ⟨b, 0, none⟩)] w fun e w' => e = .returned (.int .i64 l.length) ∧ w = w' := by
  have c0 := h.obj.c0
  have c2 := h.obj.c2
  clear h
  go_enter Try.func16, Try.ntmps16
  go_wp2_with (go_at_call 34; go_must (refine (none_no b _ c0).mono ?_); rintro e w1 ⟨rfl, rfl⟩)
  go_ret
  exact ⟨rfl, rfl⟩

/-- A new slice that holds bytes, or nil. -/
def NewBytes (w : World) (B : List Nat) (nil : Bool) (e : Ending) (w' : World) : Prop :=
  ∃ v, e = .returned v ∧ w'.ownsRow w.heap.size 5 1 v B.length (u8s B) ∧ Below w.heap.size w w' ∧ (nil = false → ∃ g c, v = .slice (some ⟨g, 0, none⟩) B.length c)

set_option maxHeartbeats 800000 in
theorem clone_nil (w : World) :
    Calls Try.prog 41 #[.slice none 0 0] w fun e w' => e = .returned (.slice none 0 0) ∧ w = w' := by
  have hn := fun (w : World) => Lib.run_eql_slice_nil (P := Try.prog) w 28 5 none 0 0 0 0 Try.underlying28
  go_enter Try.func41, Try.ntmps41
  go_wp2
  go_ret
  exact ⟨rfl, rfl⟩

set_option maxHeartbeats 800000 in
theorem clone_some (a : Addr) (c : Nat) (B : List Nat) (w : World) (hcells : ∀ j u, (u8s B)[j]? = some u → w.cell? (a.add j) = some u) (ha : a.block < w.heap.size) (hl : B.length ≤ 140737488351232) :
    Calls Try.prog 41 #[.slice (some a) B.length c] w (NewBytes w B false) := by
  obtain ⟨i0, hi, hz0, hz1, hz2⟩ := info_parts Try.info5
  have hn := fun (w : World) => Lib.run_eql_slice_nil (P := Try.prog) w 28 5 (some a) B.length c 0 0 Try.underlying28
  have HC := Lib.hid hcells
  clear hcells
  go_enter Try.func41, Try.ntmps41
  have HO := Lib.hid (World.ownsRow_lit (base := w.heap.size) (e := 5) (size := 1) w #[] 0 (Nat.le_refl _) (Nat.zero_le _) rfl)
  go_wp2_with (at_builtin; go_must (refine wpList_append_own_at _ rfl _ _ 28 rfl w.heap.size 5 i0 (.int .u8 0) 1 1 Try.underlying28 hi hz0 hz1 hz2 rfl (by decide) _ _ _ rfl HO.out a B.length c (u8s B) rfl (by rw [u8s_length, Nat.mul_one]) (fun j u hu => ?_) (one_u8s B) (by unfold maxLen; omega) (by omega) (by simp) ?_))
  · exact (World.cell?_alloc_lt w _ _ (by rw [add_block]; exact ha)).trans (HC.out j u hu)
  · intro v1 w1 hown1 hgrow1 hnil1 _
    have hbel : Below w.heap.size w w1 := ((Below.refl _ w).alloc (Nat.le_refl _) _).grown hgrow1 (by simp) (fun k hk => by have : w.heap.size = k := by simpa [Value.ownBlock] using hk
                                                                                                                            omega)
    have HW := Lib.hid hown1
    have HBL := Lib.hid hbel
    rcases Joins.ownsRow_forms hown1 with ⟨rfl, _⟩ | ⟨g, cap, rfl⟩
    · exact (hnil1 rfl).elim
    · clear hgrow1 hnil1 hown1 hbel
      go_wp2
      go_ret
      exact ⟨_, rfl, HW.out, HBL.out, fun _ => ⟨g, cap, rfl⟩⟩

/-- The bytes of a slice value, nil or not. -/
def SrcAt (w : World) (s : Value) (B : List Nat) : Prop :=
  (s = .slice none 0 0 ∧ B = []) ∨ ∃ a c, s = .slice (some a) B.length c ∧ a.block < w.heap.size ∧ ∀ j u, (u8s B)[j]? = some u → w.cell? (a.add j) = some u

theorem SrcAt.of_row {w : World} {base : Nat} {v : Value} {B : List Nat} {n : Nat} (h : w.ownsRow base 5 1 v n (u8s B)) : SrcAt w v B := by
  have hn : n = B.length := by have := h.1; rw [u8s_length] at this; omega
  subst hn
  rcases h.2 with ⟨rfl, h0⟩ | ⟨g, cap, cur, rfl, _, hg, _⟩
  · exact .inl ⟨rfl, List.eq_nil_of_length_eq_zero h0⟩
  · exact .inr ⟨⟨g, 0, none⟩, cap, rfl, (Array.getElem?_eq_some_iff.1 hg).1, h.cells rfl⟩

theorem SrcAt.rest {w w' : World} {S : Nat → Prop} {s : Value} {B : List Nat} (h : SrcAt w s B) (hr : Rest S w w') (hs : ∀ k, s.ownBlock = some k → ¬ S k) : SrcAt w' s B := by
  rcases h with h | ⟨a, c, rfl, ha, hc⟩
  · exact .inl h
  · refine .inr ⟨a, c, rfl, Nat.lt_of_lt_of_le ha hr.size, fun j u hu => (hr.cell (p := a.add j) (by rw [add_block]; exact ha) (by rw [add_block]; exact hs _ rfl)).trans (hc j u hu)⟩
theorem SrcAt.below {w w' : World} {n : Nat} {s : Value} {B : List Nat} (h : SrcAt w s B) (hr : Below n w w') (hs : ∀ k, s.ownBlock = some k → k < n) : SrcAt w' s B := by
  rcases h with h | ⟨a, c, rfl, ha, hc⟩
  · exact .inl h
  · exact .inr ⟨a, c, rfl, Nat.lt_of_lt_of_le ha hr.size, fun j u hu => (hr.cell (p := a.add j) (by rw [add_block]; exact hs _ rfl)).trans (hc j u hu)⟩
theorem SrcAt.lt {w : World} {s : Value} {B : List Nat} (h : SrcAt w s B) : ∀ k, s.ownBlock = some k → k < w.heap.size := by
  rcases h with ⟨rfl, _⟩ | ⟨a, c, rfl, ha, _⟩
  · intro k hk; simp [Value.ownBlock] at hk
  · intro k hk; simp [Value.ownBlock] at hk; omega

theorem clone_any (s : Value) (B : List Nat) (w : World) (h : SrcAt w s B) (hl : B.length ≤ 140737488351232) :
    Calls Try.prog 41 #[s] w fun e w' => ∃ v, e = .returned v ∧ w'.ownsRow w.heap.size 5 1 v B.length (u8s B) ∧ Below w.heap.size w w' ∧ (v = .slice none 0 0 ∨ ∃ g c, v = .slice (some ⟨g, 0, none⟩) B.length c) := by
  rcases h with ⟨rfl, rfl⟩ | ⟨a, c, rfl, ha, hc⟩
  · refine (clone_nil w).mono ?_
    rintro e w' ⟨rfl, rfl⟩
    exact ⟨_, rfl, World.ownsRow_nil _ _ _ _, Below.refl _ _, .inl rfl⟩
  · refine (clone_some a c B w hc ha hl).mono ?_
    rintro e w' ⟨v, rfl, h1, h2, h3⟩
    exact ⟨v, rfl, h1, h2, .inr (h3 rfl)⟩

set_option maxHeartbeats 400000 in
theorem out_any (b : Nat) (v : Value) (l : List Bool) (w : World) (h : WAt w b v l) (hl : l.length ≤ 8388608) :
    Calls Try.prog 15 #[.pointer (some ⟨b, 0, none⟩)] w fun e w' => ∃ s, e = .returned s ∧ w'.ownsRow w.heap.size 5 1 s (packs l).length (u8s (packs l)) ∧ Below w.heap.size w w' ∧ (s = .slice none 0 0 ∨ ∃ g c, s = .slice (some ⟨g, 0, none⟩) (packs l).length c) := by
  have c0 := h.obj.c0
  have c1 := h.obj.c1
  have HC := Lib.hid (clone_any v (packs l) w (.of_row h.row) (by rw [packs_length]; omega))
  rcases Joins.ownsRow_forms h.row with ⟨rfl, _⟩ | ⟨g, cap, rfl⟩
  all_goals
    clear h
    go_enter Try.func15, Try.ntmps15
    go_wp2_with (first | (go_at_call 34; go_must (refine (none_no b _ c0).mono ?_); rintro e w1 ⟨rfl, rfl⟩) | (go_at_call 41; go_must (refine HC.out.mono ?_); rintro e w1 ⟨s, rfl, h1, h2, h3⟩; have H1 := Lib.hid h1; have H2 := Lib.hid h2; have H3 := Lib.hid h3; clear h1 h2 h3))
    go_ret
    exact ⟨_, rfl, H1.out, H2.out, H3.out⟩
end Go.Proofs.Ytboiiohpkoodpaa
