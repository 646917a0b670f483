/- Put, where no condition applies. Conditions: the writer lies in memory, and the number may be written. -/
import Derived.Test.YtboiiohpkoodpaaH
namespace Go.Proofs.Ytboiiohpkoodpaa
open Go.RowKit Go.Shelf
attribute [local go_sem] Oper.semAt_some

theorem digits_any (v n : Int) (w : World) :
    Calls Try.prog 49 #[.int .i64 v, .int .i64 n] w fun e w' => e = .returned (.func (.func 90) #[] #[.pointer (some ⟨w.heap.size + 1, 0, none⟩), .pointer (some ⟨w.heap.size, 0, none⟩)]) ∧ (w.alloc (.cells #[.int .i64 v] 3)).alloc (.cells #[.int .i64 n] 3) = w' := by
  go_enter Try.func49, Try.ntmps49
  go_wp2
  go_ret
  exact ⟨rfl, rfl⟩

theorem Rest.others {S : Nat → Prop} {W W' : World} (h : Rest S W W') (hs : ∀ k o, S k → W.heap[k]? = some o → o.isCells = true) : KeepsOthers W W' :=
  ⟨h.size, fun k o hk ho => by
    refine (h.block k (Array.getElem?_eq_some_iff.1 hk).1 ?_).trans hk
    intro e
    rw [hs k o e hk] at ho; cases ho⟩

theorem WAt.cells {w : World} {b : Nat} {v : Value} {l : List Bool} (h : WAt w b v l) : ∀ k o, Mine b v k → w.heap[k]? = some o → o.isCells = true := by
  rintro k o (rfl | hk) ho
  · rw [show w.heap[k]? = _ from h.obj] at ho; cases ho; rfl
  · rcases h.row.2 with ⟨rfl, _⟩ | ⟨g, cap, cur, rfl, _, hgb, _⟩
    · simp [Value.ownBlock] at hk
    · simp [Value.ownBlock] at hk
      subst hk
      rw [hgb] at ho; cases ho; rfl

theorem WAt.notBox {w : World} {b B t : Nat} {v u : Value} {l : List Bool} (h : WAt w b v l) (hB : Boxed w B t u) (hne : B ≠ b) (ht : t ≠ 5) : ¬ Mine b v B := by
  rintro (e | e)
  · exact hne e
  · exact hB.not_row ht h.row e.symm

theorem boxed_rest {W W' : World} {B t : Nat} {v : Value} {S : Nat → Prop} (h : Boxed W B t v) (hb : Rest S W W') (hn : ¬ S B) : Boxed W' B t v := (hb.block B h.lt hn).trans h

theorem keptAt_t {x y : Nat} {A B C : World} (h : KeptAt x y A B) (k : KeptAt x y B C) : KeptAt x y A C := ⟨k.1.trans h.1, k.2.trans h.2⟩
theorem keptAt_b {x y : Nat} {w : World} (hx : x < w.heap.size) (hy : y < w.heap.size) (W : World) (l : Nat) (o o' : Obj) (hl : w.heap.size ≤ l) (_ : W.heap[l]? = some o) (_ : o.isCells = false) (_ : o.isWalk = false) : KeptAt x y W (W.putObj l o') :=
  ⟨World.putObj_heap_other (by omega), World.putObj_heap_other (by omega)⟩
theorem keptAt_rest {x y : Nat} {S : Nat → Prop} {W W' : World} (h : Rest S W W') (hx : x < W.heap.size) (hy : y < W.heap.size) (sx : ¬ S x) (sy : ¬ S y) : KeptAt x y W W' := ⟨h.block x hx sx, h.block y hy sy⟩

/-- What the loop of a writer's call keeps: the bit string so far, the caller's boxes. -/
def PutI (b : Nat) (vv : Value) (l : List Bool) (w : World) (Bw Bn Bv : Nat) (v n : Int) (pre : List Bool) (W : World) : Prop :=
  (∃ v', WAt W b v' (l ++ pre) ∧ WStep b vv v' w W) ∧ Boxed W Bw 25 (.pointer (some ⟨b, 0, none⟩)) ∧ Boxed W Bn 3 (.int .i64 n) ∧ Boxed W Bv 3 (.int .i64 v)

theorem Rest.putCells {S : Nat → Prop} {a w w' : World} {row : Option Nat} (h : Rest S a w) (hg : w.grownBy w' row) (hr : ∀ k, row = some k → a.heap.size ≤ k) : Rest S a w' :=
  h.grown hg (fun k e hk => absurd hk (Nat.not_lt.2 (hr k e)))

theorem WAt.turn {w w' : World} {b : Nat} {v : Value} {l : List Bool} (h : WAt w b v l) {row : Option Nat} (hg : w.grownBy w' row) (hr : ∀ r, row = some r → ∃ o : Obj, w.heap[r]? = some o ∧ o.isCells = false) : WAt w' b v l := by
  have hne : ∀ k, row = some k → ¬ Mine b v k := fun k e hm => by
    obtain ⟨o, ho, hc⟩ := hr k e
    rw [h.cells k o hm ho] at hc; cases hc
  exact h.stays (S := fun k => some k = row) ((Rest.refl _ w).grown hg (fun k e _ => e.symm)) (fun e => hne b e.symm (.inl rfl)) (fun k hk e => hne k e.symm (.inr hk))

theorem putI_own (b : Nat) (vv : Value) (l : List Bool) (w : World) (Bw Bn Bv : Nat) (v n : Int) (B : Nat) (hB : w.heap.size ≤ B) : OwnFrom B (PutI b vv l w Bw Bn Bv v n) := by
  rintro s W W' row ⟨⟨v', h1, h2⟩, h3, h4, h5⟩ hg hr
  have hr' : ∀ r, row = some r → ∃ o : Obj, W.heap[r]? = some o ∧ o.isCells = false := fun r e => (hr r e).2
  have hbx : ∀ {B' t : Nat} {u : Value}, Boxed W B' t u → Boxed W' B' t u := fun {B' t u} hb => hb.kept hg (fun e => by
    obtain ⟨o, ho, hc⟩ := hr' B' e.symm
    rw [show W.heap[B']? = _ from hb] at ho; cases ho; cases hc)
  exact ⟨⟨v', h1.turn hg hr', ⟨h2.rest.putCells hg (fun k e => Nat.le_trans hB (hr k e).1), h2.row⟩⟩, hbx h3, hbx h4, hbx h5⟩

set_option maxRecDepth 100000 in
set_option maxHeartbeats 1600000 in
theorem put_ok (b : Nat) (vv : Value) (l : List Bool) (v n : Nat) (w : World) (h : WAt w b vv l) (hl : l.length ≤ 8388608) (hc : putCode l.length v n = 0) (hn : n ≤ 32) (hv : v < 2 ^ n) (hroom : l.length + n ≤ 8388608) :
    Calls Try.prog 18 #[.pointer (some ⟨b, 0, none⟩), .int .i64 v, .int .i64 n] w (Wrote b vv (l ++ digs v n) 0 w) := by
  have hv32 : v < 4294967296 := Nat.lt_of_lt_of_le hv (Nat.pow_le_pow_right (n := 2) (by omega) (show n ≤ 32 by omega))
  have hF := put_first b vv l v n w h hl
  rw [hc] at hF
  have HF := Lib.hid hF
  have H := Lib.hid h
  have hblt := h.obj.lt
  have hbx := box3_below w (.pointer (some ⟨b, 0, none⟩)) (.int .i64 v) (.int .i64 n) 25 3 3
  have hs := box3_size w (.pointer (some ⟨b, 0, none⟩)) (.int .i64 v) (.int .i64 n) 25 3 3
  have hb1 := box3_1 w (.pointer (some ⟨b, 0, none⟩)) (.int .i64 v) (.int .i64 n) 25 3 3
  have hb2 := box3_2 w (.pointer (some ⟨b, 0, none⟩)) (.int .i64 v) (.int .i64 n) 25 3 3
  have hb3 := box3_3 w (.pointer (some ⟨b, 0, none⟩)) (.int .i64 v) (.int .i64 n) 25 3 3
  have HS := Lib.hid hs
  have HB1 := Lib.hid hb1
  have HB2 := Lib.hid hb2
  have HB3 := Lib.hid hb3
  have HBX := Lib.hid hbx
  have HV := Lib.hid hv
  clear h hc hF hbx hs hb1 hb2 hb3 hv
  refine (callsIn_wide (n := 6)).1 ?_
  refine callsIn_of_wp_marks Try.func18 rfl trivial ?_ rfl
  simp only [Try.ntmps18, List.size_toArray, List.length_cons, List.length_nil, Nat.reduceAdd, Nat.reduceSub, Array.replicate_succ, Array.replicate_zero, List.push_toArray, List.append_toArray, List.nil_append, List.cons_append]
  gi_wp2_with fail
  refine ⟨trivial, ?_⟩
  refine (callsIn_wide.2 HF.out).mono ?_
  rintro e w1 ⟨rfl, hb⟩
  have c1 := (boxed_below HB1.out hb (by omega)).cell
  have c2 := (boxed_below HB2.out hb (by omega)).cell
  have c3 := (boxed_below HB3.out hb (by omega)).cell
  have HB := Lib.hid hb
  clear hb
  gi_wp2_with fail
  refine ⟨trivial, ?_⟩
  refine (callsIn_wide.2 (digits_any _ _ _)).mono ?_
  rintro e w2 ⟨rfl, hw2⟩
  have hw2s : w2.heap.size = w1.heap.size + 1 + 1 := by rw [← hw2]; simp
  have d1 : Boxed w2 w1.heap.size 3 (.int .i64 v) := by rw [← hw2]; exact (Boxed.new _ _ _).alloc _
  have d2 : Boxed w2 (w1.heap.size + 1) 3 (.int .i64 n) := by
    rw [← hw2]
    have := Boxed.new (w1.alloc (.cells #[.int .i64 v] 3)) 3 (.int .i64 n)
    rw [World.size_alloc] at this
    exact this
  have hB12 : Below w1.heap.size w1 w2 := by rw [← hw2]; exact ((Below.refl _ _).alloc (Nat.le_refl _) _).alloc (by simp) _
  clear hw2
  have HW2 := Lib.hid hw2s
  have D1 := Lib.hid d1
  have D2 := Lib.hid d2
  have B12 := Lib.hid hB12
  clear hw2s d1 d2 hB12
  gi_wp2_with fail
  refine wpIn_rangeFunc_ownF rfl (by decide) (gf := 90) (lb := #[.pointer (some ⟨w1.heap.size + 1, 0, none⟩), .pointer (some ⟨w1.heap.size, 0, none⟩)]) rfl trivial Try.ent90
    (digits_stops (6 - 1) (by decide) (w1.heap.size + 1) w1.heap.size v n (by omega) hv32 w2 D2.out.cell D1.out.cell D2.out.lt D1.out.lt) keptAt_t (keptAt_b D2.out.lt D1.out.lt) (Below.refl _ _) (fun _ => rfl)
    (PutI b vv l w w.heap.size (w1.heap.size + 1) w1.heap.size v n) (fun _ _ _ => False) (putI_own _ _ _ _ _ _ _ _ _ _ ?size) (fun _ _ _ _ _ hs _ _ => hs) ?start ?a1 ?assign ?body ?done ?stop
  case assign =>
    intro l x W K hK
    have HK := Lib.hid hK
    clear hK
    gi_wp2
    exact HK.out
  case size => have h1 := HB.out.size; rw [HS.out] at h1; rw [HW2.out]; omega
  case start =>
    have hbw : Below w.heap.size w w2 := (HBX.out.trans (HB.out.mono (by omega))).trans (B12.out.mono (by have h1 := HB.out.size; rw [HS.out] at h1; omega))
    refine ⟨⟨vv, by rw [List.append_nil]; exact H.out.below hbw, .below hbw⟩, ?_, D2.out, D1.out⟩
    have h1 := HB.out.size; rw [HS.out] at h1
    exact boxed_below (boxed_below HB1.out HB.out (by omega)) B12.out (by omega)
  case body =>
    rintro lo pre x W hI hlt
    obtain ⟨⟨v', hW, hst⟩, hbw, hbn, hbv⟩ := hI
    have cw := hbw.cell
    have hlen : (l ++ pre).length < 8388608 := by rw [List.length_append]; omega
    have hadd := add_any b v' (l ++ pre) x W hW hlen
    have HA := Lib.hid hadd
    have hsz : w.heap.size ≤ w1.heap.size := by have h1 := HB.out.size; rw [HS.out] at h1; omega
    clear hadd hlen
    gi_wp2_with fail
    refine ⟨trivial, ?_⟩
    refine (CallsIn.inRound lo (callsIn_wide.2 HA.out)).mono ?_
    rintro e W' ⟨rfl, v'', hW', hst'⟩
    have HW' := Lib.hid hW'
    have HST := Lib.hid hst'
    clear hW' hst'
    gi_wp2
    have nw := hW.notBox hbw (by omega) (by decide)
    have nn := hW.notBox hbn (by omega) (by decide)
    have nv := hW.notBox hbv (by omega) (by decide)
    have hr := HST.out.rest
    refine ⟨hr.others hW.cells, keptAt_rest hr hbn.lt hbv.lt nn nv, ⟨v'', by rw [← List.append_assoc]; exact HW'.out, hst.trans HST.out⟩, boxed_rest hbw hr nw, boxed_rest hbn hr nn, boxed_rest hbv hr nv⟩
  case done =>
    rintro D xs W hD rfl hI hK
    have hI2 := (putI_own b vv l w w.heap.size (w1.heap.size + 1) w1.heap.size v n w2.heap.size (by have h1 := HB.out.size; rw [HS.out] at h1; rw [HW2.out]; omega)).putObj (.deferred none) hI hD hK rfl
    have HI := Lib.hid hI2
    clear hI2 hI
    gi_wp2
    refine ⟨by simp, .inl ⟨_, _, rfl, run_takeDeferred hK, ?_⟩⟩
    exact ⟨_, results_tmp rfl _ _ _, rfl, HI.out.1⟩
  case stop =>
    rintro D c pre W _ _ h _
    exact h.elim
end Go.Proofs.Ytboiiohpkoodpaa
