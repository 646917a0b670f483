/- number returns the number that the next bits are. Conditions: the reader lies in memory, has at most 1048576 bytes, and so many bits are left. -/
import Derived.Test.YtboiiohpkoodpaaS
import Derived.WalkMore
namespace Go.Proofs.Ytboiiohpkoodpaa
open Go.RowKit Go.Shelf
attribute [local go_sem] Oper.semAt_some

theorem RAt.rowLt {w : World} {b : Nat} {v : Value} {B : List Nat} {p : Nat} (h : RAt w b v B p) : ∀ k, v.ownBlock = some k → k < w.heap.size := fun k hk => (h.row.lt k hk).2

/-- Between two rounds of number. -/
def NumI (w : World) (x y sb sv n p : Nat) (vv : Value) (pre : List Bool) (W : World) : Prop :=
  pre.length ≤ n ∧ Boxed W sb 3 (.int .i64 ((n : Int) - pre.length)) ∧ Boxed W sv 3 (.int .i64 (val pre : Nat)) ∧ Boxed W x 3 (.int .i64 p) ∧ Boxed W y 28 vv ∧ Below w.heap.size w W
/-- Where a round has left. -/
def NumX (w : World) (sv n : Nat) (c : Code) (pre : List Bool) (W : World) : Prop :=
  c = .exit 0 ∧ (∃ pre0 z, pre = pre0 ++ [z] ∧ pre0.length = n ∧ Boxed W sv 3 (.int .i64 (val pre0 : Nat))) ∧ Below w.heap.size w W

theorem len_sub (n : Nat) (l : List Bool) (z : Bool) : (n : Int) - ((l ++ [z]).length : Nat) = (n : Int) - l.length - 1 := by
  rw [snoc_len]; omega

theorem boxed_setOther {W : World} {B t : Nat} {v : Value} (h : Boxed W B t v) (a : Addr) (u : Value) (hne : B ≠ a.block) : Boxed (W.setCell a u) B t v := (Below.heap_setCell W a u B hne).trans h

theorem boxed_turn {W W' : World} {B t : Nat} {v : Value} {row : Option Nat} (h : Boxed W B t v) (hg : W.grownBy W' row) (hr : ∀ r, row = some r → ∃ o : Obj, W.heap[r]? = some o ∧ o.isCells = false) : Boxed W' B t v :=
  h.kept hg (fun e => by
    obtain ⟨o, ho, hc⟩ := hr B e.symm
    rw [show W.heap[B]? = _ from h] at ho; cases ho; cases hc)

theorem numI_own (w : World) (x y sb sv n p : Nat) (vv : Value) (C : Nat) (hC : w.heap.size ≤ C) : OwnFrom C (NumI w x y sb sv n p vv) := by
  rintro s W W' row ⟨h1, h2, h3, h4, h5, h6⟩ hg hr
  have hr' : ∀ r, row = some r → ∃ o : Obj, W.heap[r]? = some o ∧ o.isCells = false := fun r e => (hr r e).2
  exact ⟨h1, boxed_turn h2 hg hr', boxed_turn h3 hg hr', boxed_turn h4 hg hr', boxed_turn h5 hg hr', h6.grown hg h6.size (fun k e => Nat.le_trans hC (hr k e).1)⟩
theorem numX_own (w : World) (sv n : Nat) (c : Code) (C : Nat) (hC : w.heap.size ≤ C) : OwnFrom C (NumX w sv n c) := by
  rintro s W W' row ⟨h1, ⟨pre0, z, h2, h3, h4⟩, h6⟩ hg hr
  have hr' : ∀ r, row = some r → ∃ o : Obj, W.heap[r]? = some o ∧ o.isCells = false := fun r e => (hr r e).2
  exact ⟨h1, ⟨pre0, z, h2, h3, boxed_turn h4 hg hr'⟩, h6.grown hg h6.size (fun k e => Nat.le_trans hC (hr k e).1)⟩

set_option maxRecDepth 100000 in
set_option maxHeartbeats 1600000 in
theorem number_any (b : Nat) (v : Value) (B : List Nat) (p n : Nat) (w : World) (h : RAt w b v B p) (hB : ∀ c ∈ B, c < 256) (hBl : B.length ≤ 1048576) (hn : n ≤ 32) (hp : p + n ≤ 8 * B.length) :
    Calls Try.prog 65 #[.pointer (some ⟨b, 0, none⟩), .int .i64 n] w fun e w' => e = .returned (.int .i64 (val (((unpack B).drop p).take n) : Nat)) ∧ Below w.heap.size w w' := by
  have hblt := h.obj.lt
  have H := Lib.hid h
  have HB := Lib.hid hB
  clear h hB
  refine (callsIn_wide (n := 6)).1 ?_
  refine callsIn_of_wp_marks Try.func65 rfl trivial ?_ rfl
  simp only [Try.ntmps65, List.size_toArray, List.length_cons, List.length_nil, Nat.reduceAdd, Nat.reduceSub, Array.replicate_succ, Array.replicate_zero, List.push_toArray, List.append_toArray, List.nil_append, List.cons_append]
  gi_wp2_with fail
  refine (wpIn_wide (n := 6)).2 (wp_scope_straight ((wpIn_wide (n := 6)).1 ?_))
  gi_wp2_with fail
  refine wpIn_label ?_
  gi_wp2_with fail
  refine ⟨trivial, ?_⟩
  have hbx2 := box2_below w (.int .i64 n) (.int .i64 0) 3 3
  have f1 := box2_1 w (.int .i64 n) (.int .i64 0) 3 3
  have f2 := box2_2 w (.int .i64 n) (.int .i64 0) 3 3
  have hsz := box2_size w (.int .i64 n) (.int .i64 0) 3 3
  have hR1 := H.out.below hbx2
  obtain ⟨w1, hw1⟩ : ∃ w1, box2 w (.int .i64 n) (.int .i64 0) 3 3 = w1 := ⟨_, rfl⟩
  change CallsIn Fence.wide 5 Try.prog 27 #[Value.pointer (some { block := b, off := 0 })] (box2 w (.int .i64 n) (.int .i64 0) 3 3) _
  rw [hw1] at hbx2 f1 f2 hsz hR1 ⊢
  clear hw1
  refine (callsIn_wide.2 (bits_any b v B p w1 hR1)).mono ?_
  rintro e w2 ⟨x, y, rfl, bx, by', hbel, lx, ly⟩
  have hR2 := hR1.below hbel
  have e1 := boxed_below f1 hbel f1.lt
  have e2 := boxed_below f2 hbel f2.lt
  have hbw : Below w.heap.size w w2 := hbx2.trans (hbel.mono hbx2.size)
  have hszle : w.heap.size ≤ w2.heap.size := hbw.size
  have x1 : x ≠ w.heap.size := by omega
  have x2 : x ≠ w.heap.size + 1 := by omega
  have y1 : y ≠ w.heap.size := by omega
  have y2 : y ≠ w.heap.size + 1 := by omega
  have HR2 := Lib.hid hR2
  have E1 := Lib.hid e1
  have E2 := Lib.hid e2
  have BX := Lib.hid bx
  have BY := Lib.hid by'
  have HBW := Lib.hid hbw
  have hvlt : ∀ k, v.ownBlock = some k → k < w.heap.size := H.out.rowLt
  have HV := Lib.hid hvlt
  clear hbx2 f1 f2 hsz hR1 hbel hR2 e1 e2 bx by' hbw hvlt lx ly
  gi_wp2_with fail
  refine wpIn_rangeFunc_ownF rfl (by decide) (gf := 62) (lb := #[.pointer (some ⟨x, 0, none⟩), .pointer (some ⟨y, 0, none⟩)]) rfl trivial Try.ent62
    (bits_stops (6 - 1) (by decide) x y v B HB.out hBl p (by omega) w2 BX.out.cell BY.out.cell HR2.out.row BX.out.lt BY.out.lt) keptOn_t (keptOn_b BX.out.lt BY.out.lt HR2.out.rowLt) (Below.refl _ _) (fun _ => rfl)
    (NumI w x y w.heap.size (w.heap.size + 1) n p v) (NumX w (w.heap.size + 1) n) (numI_own _ _ _ _ _ _ _ _ _ hszle) (fun c => numX_own _ _ _ c _ hszle) ⟨Nat.zero_le _, by simpa using E1.out, E2.out, BX.out, BY.out, HBW.out⟩ ?a1 ?assign ?body ?done ?stop
  case assign =>
    intro l x W K hK
    have HK := Lib.hid hK
    clear hK
    gi_wp2
    exact HK.out
  case body =>
    rintro lo pre z W ⟨h1, h2, h3, h4, h5, h6⟩ hlt
    have c1 := h2.cell
    have c2 := h3.cell
    have cf1 := h2.frozen
    have cf2 := h3.frozen
    have hvl : val pre < 4294967296 := Nat.lt_of_lt_of_le (val_lt pre) (Nat.pow_le_pow_right (n := 2) (by omega) (show pre.length ≤ 32 by omega))
    have H2 := Lib.hid h2
    have H3 := Lib.hid h3
    have H4 := Lib.hid h4
    have H5 := Lib.hid h5
    have H6 := Lib.hid h6
    have hk : ∀ (u1 u2 : Value), KeptOn x y v W ((W.setCell ⟨w.heap.size + 1, 0, none⟩ u1).setCell ⟨w.heap.size, 0, none⟩ u2) := fun u1 u2 => by
      refine KeptOn.rest (S := fun k => k = w.heap.size ∨ k = w.heap.size + 1) (((Rest.refl _ W).setCell (p := ⟨w.heap.size + 1, 0, none⟩) (fun _ => .inr rfl) _).setCell (p := ⟨w.heap.size, 0, none⟩) (fun _ => .inl rfl) _) h4.lt h5.lt (fun k hk => Nat.lt_of_lt_of_le (HV.out k hk) h6.size) ?_ ?_ ?_
      · rintro (e | e) <;> omega
      · rintro (e | e) <;> omega
      · intro k hk e
        have := HV.out k hk
        omega
    have HK := Lib.hid hk
    clear h2 h3 h4 h5 h6 hk
    by_cases hlen : pre.length = n
    · have q1 : (((n : Int) - pre.length) == 0) = true := by simp; omega
      clear hlen
      have HL := Lib.hid (show pre.length = n by simp at q1; omega)
      gi_wp2
      exact ⟨KeepsOthers.refl W, rfl, ⟨pre, z, rfl, HL.out, H3.out⟩, H6.out⟩
    · have q1 : (((n : Int) - pre.length) == 0) = false := by simp; omega
      have hlen' : pre.length < n := by omega
      clear hlen
      cases z
      all_goals
        gi_wp2
        refine ⟨(KeepsOthers.setCell _ _ _).trans (KeepsOthers.setCell _ _ _), HK.out _ _, ?_, ?_, ?_, ?_, ?_, ?_⟩
        · simp; omega
        · rw [len_sub]
          exact Boxed.set _ (boxed_setOther H2.out ⟨w.heap.size + 1, 0, none⟩ _ (by simp))
        · rw [val_snoc]
          exact boxed_setOther (Boxed.set _ H3.out) ⟨w.heap.size, 0, none⟩ _ (by simp)
        · exact boxed_setOther (boxed_setOther H4.out ⟨w.heap.size + 1, 0, none⟩ _ x2) ⟨w.heap.size, 0, none⟩ _ x1
        · exact boxed_setOther (boxed_setOther H5.out ⟨w.heap.size + 1, 0, none⟩ _ y2) ⟨w.heap.size, 0, none⟩ _ y1
        · exact (H6.out.setCell (p := ⟨w.heap.size + 1, 0, none⟩) (Nat.le_succ _) _).setCell (p := ⟨w.heap.size, 0, none⟩) (Nat.le_refl _) _
  case done =>
    rintro D xs W hD rfl hI hK
    have hI2 := (numI_own w x y w.heap.size (w.heap.size + 1) n p v w2.heap.size hszle).putObj (.deferred none) hI hD hK rfl
    have c2 := hI.2.2.1.cell
    have HL := Lib.hid hI.1
    have HI := Lib.hid hI2
    clear hI2 hI
    gi_wp2
    rw [Exit.noGoto_ret]
    refine ⟨by simp, .inl ⟨_, _, rfl, run_takeDeferred hK, ?_⟩⟩
    rw [List.take_of_length_le HL.out]
    exact ⟨_, results_tmp rfl _ _ _, rfl, HI.out.2.2.2.2.2⟩
  case stop =>
    rintro D c pre W hD hS ⟨rfl, ⟨pre0, z, rfl, hl0, hbx0⟩, hb0⟩ hK
    have hb1 : Below w.heap.size w (W.putObj D (.deferred none)) := hb0.grown (grownBy_putObj' W D _) hb0.size (fun k e => by cases e; omega)
    have c2 := hbx0.cell
    have HL := Lib.hid hl0
    have HS := Lib.hid hS
    have HB1 := Lib.hid hb1
    clear hl0 hS hbx0 hb0 hb1
    gi_wp2
    rw [Exit.noGoto_ret]
    refine ⟨by simp, .inl ⟨_, _, rfl, run_takeDeferred hK, ?_⟩⟩
    obtain ⟨r, hr⟩ := HS.out
    rw [← hr, List.append_assoc, List.take_left' HL.out]
    exact ⟨_, results_tmp rfl _ _ _, rfl, HB1.out⟩
end Go.Proofs.Ytboiiohpkoodpaa
