/- blank tells whether the next bits are 0. Conditions: the reader lies in memory, has at most 1048576 bytes, and so many bits are left. -/
import Derived.Test.YtboiiohpkoodpaaU
namespace Go.Proofs.Ytboiiohpkoodpaa
open Go.RowKit Go.Shelf
attribute [local go_sem] Oper.semAt_some

def zerosB (l : List Bool) : Bool := l.all fun b => !b
theorem zeros_rep (k : Nat) : zerosB (List.replicate k false) = true := by simp [zerosB]

def BlkI (w : World) (x y sb sz n p : Nat) (vv : Value) (pre : List Bool) (W : World) : Prop :=
  pre.length ≤ n ∧ zerosB pre = true ∧ Boxed W sb 3 (.int .i64 n) ∧ Boxed W sz 3 (.int .i64 (pre.length : Nat)) ∧ Boxed W x 3 (.int .i64 p) ∧ Boxed W y 28 vv ∧ Below w.heap.size w W
def BlkX (w : World) (sb sz n : Nat) (c : Code) (pre : List Bool) (W : World) : Prop :=
  c = .exit 0 ∧ (∃ pre0 z, pre = pre0 ++ [z] ∧ zerosB pre0 = true ∧ pre0.length ≤ n ∧ (z = true ∨ pre0.length = n) ∧ Boxed W sb 3 (.int .i64 n) ∧ Boxed W sz 3 (.int .i64 (pre0.length : Nat))) ∧ Below w.heap.size w W

theorem blkI_own (w : World) (x y sb sz n p : Nat) (vv : Value) (C : Nat) (hC : w.heap.size ≤ C) : OwnFrom C (BlkI w x y sb sz n p vv) := by
  rintro s W W' row ⟨h1, h0, h2, h3, h4, h5, h6⟩ hg hr
  have hr' : ∀ r, row = some r → ∃ o : Obj, W.heap[r]? = some o ∧ o.isCells = false := fun r e => (hr r e).2
  exact ⟨h1, h0, boxed_turn h2 hg hr', boxed_turn h3 hg hr', boxed_turn h4 hg hr', boxed_turn h5 hg hr', h6.grown hg h6.size (fun k e => Nat.le_trans hC (hr k e).1)⟩
theorem blkX_own (w : World) (sb sz n : Nat) (c : Code) (C : Nat) (hC : w.heap.size ≤ C) : OwnFrom C (BlkX w sb sz n c) := by
  rintro s W W' row ⟨h1, ⟨pre0, z, h2, h3, h4, h5, h7, h8⟩, h6⟩ hg hr
  have hr' : ∀ r, row = some r → ∃ o : Obj, W.heap[r]? = some o ∧ o.isCells = false := fun r e => (hr r e).2
  exact ⟨h1, ⟨pre0, z, h2, h3, h4, h5, boxed_turn h7 hg hr', boxed_turn h8 hg hr'⟩, h6.grown hg h6.size (fun k e => Nat.le_trans hC (hr k e).1)⟩

theorem blank_done (l : List Bool) (n : Nat) (hl : l.length ≤ n) (hz : zerosB l = true) (hn : n ≤ l.length) : ((l.length : Int) == n) = zerosB (l.take n) := by
  rw [List.take_of_length_le hl, hz]; simp; omega
theorem blank_stop (l pre0 : List Bool) (z : Bool) (n : Nat) (hp : pre0 ++ [z] <+: l) (h0 : zerosB pre0 = true) (hl : pre0.length ≤ n) (hz : z = true ∨ pre0.length = n) : ((pre0.length : Int) == n) = zerosB (l.take n) := by
  obtain ⟨r, rfl⟩ := hp
  by_cases h : pre0.length = n
  · rw [List.append_assoc, List.take_left' h, h0]; simp; omega
  · have hz' : z = true := by rcases hz with h' | h'; exact h'; exact absurd h' h
    subst hz'
    have : zerosB ((pre0 ++ [true] ++ r).take n) = false := by
      unfold zerosB
      rw [List.all_eq_false]
      refine ⟨true, ?_, by simp⟩
      rw [List.append_assoc, List.take_append]
      refine List.mem_append_right _ ?_
      obtain ⟨m, hm⟩ : ∃ m, n - pre0.length = m + 1 := ⟨n - pre0.length - 1, by omega⟩
      rw [hm]; simp
    rw [this]; simp; omega

set_option maxRecDepth 100000 in
set_option maxHeartbeats 1600000 in
theorem blank_any (b : Nat) (v : Value) (B : List Nat) (p n : Nat) (w : World) (h : RAt w b v B p) (hB : ∀ c ∈ B, c < 256) (hBl : B.length ≤ 1048576) (hn : n ≤ 8192) (hp : p + n ≤ 8 * B.length) :
    Calls Try.prog 78 #[.pointer (some ⟨b, 0, none⟩), .int .i64 n] w fun e w' => e = .returned (.bool (zerosB (((unpack B).drop p).take n))) ∧ Below w.heap.size w w' := by
  have hblt := h.obj.lt
  have H := Lib.hid h
  have HB := Lib.hid hB
  clear h hB
  refine (callsIn_wide (n := 6)).1 ?_
  refine callsIn_of_wp_marks Try.func78 rfl trivial ?_ rfl
  simp only [Try.ntmps78, List.size_toArray, List.length_cons, List.length_nil, Nat.reduceAdd, Nat.reduceSub, Array.replicate_succ, Array.replicate_zero, List.push_toArray, List.append_toArray, List.nil_append, List.cons_append]
  gi_wp2_with fail
  refine (wpIn_wide (n := 6)).2 (wp_scope_straight ((wpIn_wide (n := 6)).1 ?_))
  gi_wp2_with fail
  refine wpIn_label ?_
  gi_wp2_with fail
  refine ⟨trivial, ?_⟩
  have hbx2 := box2_below w (.int .i64 n) (.int .i64 0) 3 3
  have f1 := box2_1 w (.int .i64 n) (.int .i64 0) 3 3
  have f2 := box2_2 w (.int .i64 n) (.int .i64 0) 3 3
  have hsz := box2_size w (.int .i64 n) (.int .i64 0) 3 3
  have hR1 := H.out.below hbx2
  obtain ⟨w1, hw1⟩ : ∃ w1, box2 w (.int .i64 n) (.int .i64 0) 3 3 = w1 := ⟨_, rfl⟩
  change CallsIn Fence.wide 5 Try.prog 27 #[Value.pointer (some { block := b, off := 0 })] (box2 w (.int .i64 n) (.int .i64 0) 3 3) _
  rw [hw1] at hbx2 f1 f2 hsz hR1 ⊢
  clear hw1
  refine (callsIn_wide.2 (bits_any b v B p w1 hR1)).mono ?_
  rintro e w2 ⟨x, y, rfl, bx, by', hbel, lx, ly⟩
  have hR2 := hR1.below hbel
  have e1 := boxed_below f1 hbel f1.lt
  have e2 := boxed_below f2 hbel f2.lt
  have hbw : Below w.heap.size w w2 := hbx2.trans (hbel.mono hbx2.size)
  have hszle : w.heap.size ≤ w2.heap.size := hbw.size
  have x2 : x ≠ w.heap.size + 1 := by omega
  have y2 : y ≠ w.heap.size + 1 := by omega
  have HR2 := Lib.hid hR2
  have E1 := Lib.hid e1
  have E2 := Lib.hid e2
  have BX := Lib.hid bx
  have BY := Lib.hid by'
  have HBW := Lib.hid hbw
  have hvlt : ∀ k, v.ownBlock = some k → k < w.heap.size := H.out.rowLt
  have HV := Lib.hid hvlt
  clear hbx2 f1 f2 hsz hR1 hbel hR2 e1 e2 bx by' hbw hvlt lx ly
  gi_wp2_with fail
  refine wpIn_rangeFunc_ownF rfl (by decide) (gf := 62) (lb := #[.pointer (some ⟨x, 0, none⟩), .pointer (some ⟨y, 0, none⟩)]) rfl trivial Try.ent62
    (bits_stops (6 - 1) (by decide) x y v B HB.out hBl p (by omega) w2 BX.out.cell BY.out.cell HR2.out.row BX.out.lt BY.out.lt) keptOn_t (keptOn_b BX.out.lt BY.out.lt HR2.out.rowLt) (Below.refl _ _) (fun _ => rfl)
    (BlkI w x y w.heap.size (w.heap.size + 1) n p v) (BlkX w w.heap.size (w.heap.size + 1) n) (blkI_own _ _ _ _ _ _ _ _ _ hszle) (fun c => blkX_own _ _ _ _ c _ hszle) ⟨Nat.zero_le _, rfl, E1.out, E2.out, BX.out, BY.out, HBW.out⟩ ?a1 ?assign ?body ?done ?stop
  case assign =>
    intro l x W K hK
    have HK := Lib.hid hK
    clear hK
    gi_wp2
    exact HK.out
  case body =>
    rintro lo pre z W ⟨h1, h0, h2, h3, h4, h5, h6⟩ hlt
    have c1 := h2.cell
    have c2 := h3.cell
    have cf2 := h3.frozen
    have H0 := Lib.hid h0
    have H2 := Lib.hid h2
    have H3 := Lib.hid h3
    have H4 := Lib.hid h4
    have H5 := Lib.hid h5
    have H6 := Lib.hid h6
    have hk : ∀ (u1 : Value), KeptOn x y v W (W.setCell ⟨w.heap.size + 1, 0, none⟩ u1) := fun u1 => by
      refine KeptOn.rest (S := fun k => k = w.heap.size + 1) ((Rest.refl (fun k => k = w.heap.size + 1) W).setCell (p := ⟨w.heap.size + 1, 0, none⟩) (fun _ => rfl) _) h4.lt h5.lt (fun k hk => Nat.lt_of_lt_of_le (HV.out k hk) h6.size) x2 y2 ?_
      intro k hk e
      have := HV.out k hk
      omega
    have HK := Lib.hid hk
    clear h0 h2 h3 h4 h5 h6 hk
    cases z with
    | true =>
      gi_wp2
      exact ⟨KeepsOthers.refl W, rfl, ⟨pre, true, rfl, H0.out, h1, .inl rfl, H2.out, H3.out⟩, H6.out⟩
    | false =>
      by_cases hlen : pre.length = n
      · have q1 : (((pre.length : Nat) : Int) == (n : Int)) = true := by simp; omega
        have HL := Lib.hid hlen
        clear hlen
        gi_wp2
        exact ⟨KeepsOthers.refl W, rfl, ⟨pre, false, rfl, H0.out, h1, .inr HL.out, H2.out, H3.out⟩, H6.out⟩
      · have q1 : (((pre.length : Nat) : Int) == (n : Int)) = false := by simp; omega
        have hlen' : pre.length < n := by omega
        clear hlen
        gi_wp2
        refine ⟨KeepsOthers.setCell _ _ _, HK.out _, ?_, ?_, ?_, ?_, ?_, ?_, ?_⟩
        · simp; omega
        · have := H0.out; unfold zerosB at this ⊢; simpa using this
        · exact boxed_setOther H2.out ⟨w.heap.size + 1, 0, none⟩ _ (by simp)
        · rw [snoc_len]; exact Boxed.set _ H3.out
        · exact boxed_setOther H4.out ⟨w.heap.size + 1, 0, none⟩ _ x2
        · exact boxed_setOther H5.out ⟨w.heap.size + 1, 0, none⟩ _ y2
        · exact H6.out.setCell (p := ⟨w.heap.size + 1, 0, none⟩) (Nat.le_succ _) _
  case done =>
    rintro D xs W hD hS hI hK
    have hd := blank_done xs n hI.1 hI.2.1 (by rw [hS, List.length_drop, unpack_length]; omega)
    have HS := Lib.hid hS
    clear hS
    have hI2 := (blkI_own w x y w.heap.size (w.heap.size + 1) n p v w2.heap.size hszle).putObj (.deferred none) hI hD hK rfl
    have c1 := hI.2.2.1.cell
    have c2 := hI.2.2.2.1.cell
    have HD := Lib.hid hd
    have HI := Lib.hid hI2
    clear hI2 hI hd
    gi_wp2
    rw [Exit.noGoto_ret]
    refine ⟨by simp, .inl ⟨_, _, rfl, run_takeDeferred hK, ?_⟩⟩
    rw [← HS.out, ← HD.out]
    exact ⟨_, results_tmp rfl _ _ _, rfl, HI.out.2.2.2.2.2.2⟩
  case stop =>
    rintro D c pre W hD hS ⟨rfl, ⟨pre0, z, rfl, hz0, hl0, hor, hb1, hb2⟩, hb0⟩ hK
    have hbf : Below w.heap.size w (W.putObj D (.deferred none)) := hb0.grown (grownBy_putObj' W D _) hb0.size (fun k e => by cases e; omega)
    have c1 := hb1.cell
    have c2 := hb2.cell
    have HD := Lib.hid (blank_stop _ pre0 z n hS hz0 hl0 hor)
    have HBF := Lib.hid hbf
    clear hl0 hS hz0 hor hb1 hb2 hb0 hbf
    gi_wp2
    rw [Exit.noGoto_ret]
    refine ⟨by simp, .inl ⟨_, _, rfl, run_takeDeferred hK, ?_⟩⟩
    rw [← HD.out]
    exact ⟨_, results_tmp rfl _ _ _, rfl, HBF.out⟩
end Go.Proofs.Ytboiiohpkoodpaa
