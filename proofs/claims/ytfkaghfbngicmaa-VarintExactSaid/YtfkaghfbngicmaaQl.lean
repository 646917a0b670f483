/- Len of package varint. No conditions. -/
import Derived.Test.YtfkaghfbngicmaaQk
namespace Go.Proofs.Ytfkaghfbngicmaa
open Go.RowKit Go.Shelf
attribute [local go_sem] Oper.semAt_some

theorem below_new (w : World) (o : Obj) : Below w.heap.size w (w.alloc o) := (Below.refl w.heap.size w).alloc (Nat.le_refl _) o
theorem boxed_setQ {W : World} {b : Nat} {T : TypeId} {u : Value} (h : Boxed W b T u) (k o : Nat) (v : Value) (hn : b ≠ k) : Boxed (W.setCell ⟨k, o, none⟩ v) b T u := (Below.heap_setCell W ⟨k, o, none⟩ v b hn).trans h
theorem boxed_put {W : World} {b l : Nat} {T : TypeId} {u : Value} (h : Boxed W b T u) (o : Obj) (hn : b ≠ l) : Boxed (W.putObj l o) b T u := (World.putObj_heap_other hn).trans h

/-- The memory of Len: two results, the integer, the loop's record. -/
structure LM (w0 W : World) (b lr Dd : Nat) (r : Loop) (v n e : Int) : Prop where
  bel : Below b w0 W
  r1 : Boxed W b 3 (.int .i64 n)
  r2 : Boxed W (b + 1) 24 (.int .i64 e)
  vbx : Boxed W (b + 2) 3 (.int .i64 v)
  rec_ : RecAt W lr Dd r
  dd : Dd = b + 3
  lr_ : lr = b + 4
section
variable {w0 W W' : World} {b lr Dd : Nat} {r : Loop} {v n e : Int}
theorem LM.lt (h : LM w0 W b lr Dd r v n e) : b + 4 < W.heap.size := by have := (Array.getElem?_eq_some_iff.1 h.rec_.rec_).1; have := h.lr_; omega
theorem LM.later (h : LM w0 W b lr Dd r v n e) (hb : Below W.heap.size W W') : LM w0 W' b lr Dd r v n e := by
  have hl := h.lt
  have h1 := h.dd
  have h2 := h.lr_
  exact ⟨h.bel.trans (hb.mono (by omega)), boxed_below h.r1 hb (by omega), boxed_below h.r2 hb (by omega), boxed_below h.vbx hb (by omega), h.rec_.below hb (by omega) (by omega), h1, h2⟩
theorem LM.put (h : LM w0 W b lr Dd r v n e) (r' : Loop) : LM w0 (W.putObj lr (.loop r')) b lr Dd r' v n e := by
  have h1 := h.dd
  have h2 := h.lr_
  have hl := h.lt
  exact ⟨h.bel.trans ((rest_putObj W lr (.loop r')).toBelow b (by omega) (fun i hi e => by omega)), boxed_put h.r1 _ (by omega), boxed_put h.r2 _ (by omega), boxed_put h.vbx _ (by omega), h.rec_.put (by omega) r', h1, h2⟩
theorem LM.set1 (h : LM w0 W b lr Dd r v n e) (n' : Int) : LM w0 (W.setCell ⟨b, 0, none⟩ (.int .i64 n')) b lr Dd r v n' e := by
  have h1 := h.dd
  have h2 := h.lr_
  exact ⟨h.bel.setCell (p := ⟨b, 0, none⟩) (Nat.le_refl _) _, Boxed.set _ h.r1, boxed_setQ h.r2 _ _ _ (by omega), boxed_setQ h.vbx _ _ _ (by omega), h.rec_.rest (S := fun i => i = b) ((Rest.refl (fun i => i = b) W).setCell (S := fun i => i = b) (p := ⟨b, 0, none⟩) (fun _ => rfl) _) (by omega) (by omega), h1, h2⟩
theorem LM.set2 (h : LM w0 W b lr Dd r v n e) (e' : Int) : LM w0 (W.setCell ⟨b + 1, 0, none⟩ (.int .i64 e')) b lr Dd r v n e' := by
  have h1 := h.dd
  have h2 := h.lr_
  exact ⟨h.bel.setCell (p := ⟨b + 1, 0, none⟩) (Nat.le_succ _) _, boxed_setQ h.r1 _ _ _ (by omega), Boxed.set _ h.r2, boxed_setQ h.vbx _ _ _ (by omega), h.rec_.rest (S := fun i => i = b + 1) ((Rest.refl (fun i => i = b + 1) W).setCell (S := fun i => i = b + 1) (p := ⟨b + 1, 0, none⟩) (fun _ => rfl) _) (by omega) (by omega), h1, h2⟩
end
/-- The loop is over: its record is gone. -/
structure LO (w0 W : World) (b Dd : Nat) (n e : Int) : Prop where
  bel : Below b w0 W
  r1 : Boxed W b 3 (.int .i64 n)
  r2 : Boxed W (b + 1) 24 (.int .i64 e)
  dfr : W.heap[Dd]? = some (.deferred (some []))
  dd : b + 1 < Dd
section
variable {w0 W W' : World} {b lr Dd : Nat} {r : Loop} {v n e : Int}
theorem LM.over (h : LM w0 W b lr Dd r v n e) (o : Obj) : LO w0 (W.putObj lr o) b Dd n e := by
  have h1 := h.dd
  have h2 := h.lr_
  have hl := h.lt
  exact ⟨h.bel.trans ((rest_putObj W lr o).toBelow b (by omega) (fun i hi e => by omega)), boxed_put h.r1 _ (by omega), boxed_put h.r2 _ (by omega), (World.putObj_heap_other (by omega)).trans h.rec_.dfr, by omega⟩
theorem LO.set1 (h : LO w0 W b Dd n e) (n' : Int) : LO w0 (W.setCell ⟨b, 0, none⟩ (.int .i64 n')) b Dd n' e := by
  have h1 := h.dd
  exact ⟨h.bel.setCell (p := ⟨b, 0, none⟩) (Nat.le_refl _) _, Boxed.set _ h.r1, boxed_setQ h.r2 _ _ _ (by omega), (Below.heap_setCell W ⟨b, 0, none⟩ _ Dd (show Dd ≠ b by omega)).trans h.dfr, h1⟩
theorem LO.set2 (h : LO w0 W b Dd n e) (e' : Int) : LO w0 (W.setCell ⟨b + 1, 0, none⟩ (.int .i64 e')) b Dd n e' := by
  have h1 := h.dd
  exact ⟨h.bel.setCell (p := ⟨b + 1, 0, none⟩) (Nat.le_succ _) _, boxed_setQ h.r1 _ _ _ (by omega), Boxed.set _ h.r2, (Below.heap_setCell W ⟨b + 1, 0, none⟩ _ Dd (show Dd ≠ b + 1 by omega)).trans h.dfr, h1⟩
/-- The mark is taken. -/
theorem LO.take (h : LO w0 W b Dd n e) : Boxed (W.putObj Dd (.deferred none)) b 3 (.int .i64 n) ∧ Boxed (W.putObj Dd (.deferred none)) (b + 1) 24 (.int .i64 e) ∧ Below b w0 (W.putObj Dd (.deferred none)) := by
  have h1 := h.dd
  have hl := (Array.getElem?_eq_some_iff.1 h.dfr).1
  exact ⟨boxed_put h.r1 _ (by omega), boxed_put h.r2 _ (by omega), h.bel.trans ((rest_putObj W Dd (.deferred none)).toBelow b (by omega) (fun i hi e => by omega))⟩
end

set_option maxRecDepth 100000 in
set_option maxHeartbeats 3200000 in
theorem len_ok (v : Nat) (hv : v < 34359738368) (w : World) : Calls Try.prog 12 #[.int .i64 v] w fun e w' => e = .returned (.tuple #[.int .i64 ((len1 v : Nat) : Int), .int .i64 0]) ∧ Below w.heap.size w w' := by
  have b1 := below_new w (.cells #[.int .i64 0] 3)
  have b2 := below_new (w.alloc (.cells #[.int .i64 0] 3)) (.cells #[.int .i64 0] 24)
  have x1 := Boxed.new w 3 (.int .i64 0)
  have x2 := Boxed.new (w.alloc (.cells #[.int .i64 0] 3)) 24 (.int .i64 0)
  obtain ⟨w2, hw2⟩ : ∃ w2, (w.alloc (.cells #[.int .i64 0] 3)).alloc (.cells #[.int .i64 0] 24) = w2 := ⟨_, rfl⟩
  have x1' := boxed_below x1 b2 x1.lt
  have hb2 := b1.trans (b2.mono b1.size)
  have s2 : w2.heap.size = w.heap.size + 2 := by rw [← hw2]; simp
  rw [hw2] at x1' x2 hb2
  rw [World.size_alloc] at x2
  have HFO := Lib.hid (Forms_any ((v : Nat) : Int) w2)
  obtain ⟨w3, hw3⟩ : ∃ w3, w2.alloc (.cells #[.int .i64 ((v : Nat) : Int)] 3) = w3 := ⟨_, rfl⟩
  have b3 := below_new w2 (.cells #[.int .i64 ((v : Nat) : Int)] 3)
  have x3 := Boxed.new w2 3 (.int .i64 ((v : Nat) : Int))
  rw [hw3] at b3 x3 HFO
  rw [s2] at x3 HFO
  have s3 : w3.heap.size = w.heap.size + 3 := by rw [← hw3]; simp; omega
  have x1'' := boxed_below x1' b3 x1'.lt
  have x2'' := boxed_below x2 b3 x2.lt
  have hb3 := hb2.trans (b3.mono hb2.size)
  obtain ⟨b, eb⟩ : ∃ b, w.heap.size = b := ⟨_, rfl⟩
  rw [eb] at x1'' x2'' x3 hb3 s2 s3 HFO ⊢
  have W2 := Lib.hid hw2
  have X1 := Lib.hid x1''
  have X2 := Lib.hid x2''
  have X3 := Lib.hid x3
  have HB3 := Lib.hid hb3
  have S3 := Lib.hid s3
  have EB := Lib.hid eb
  have HV := Lib.hid hv
  clear b1 b2 x1 x2 hw2 x1' hb2 s2 hw3 b3 x3 s3 x1'' x2'' hb3 eb hv
  refine (callsIn_wide (n := 6)).1 ?_
  refine callsIn_of_wp_marks Try.func12 rfl trivial ?_ rfl
  simp only [Try.ntmps12, List.size_toArray, List.length_cons, List.length_nil, Nat.reduceAdd, Nat.reduceSub, Array.replicate_succ, Array.replicate_zero, List.push_toArray, List.append_toArray, List.nil_append, List.cons_append]
  gi_wp2_with fail
  rw [W2.out, EB.out]
  refine ⟨trivial, ?_⟩
  refine (callsIn_wide.2 HFO.out).mono ?_
  rintro e w' ⟨rfl, rfl⟩
  gi_wp2_with fail
  refine named_open (gf := 31) (lb := #[.pointer (some ⟨b + 2, 0, none⟩)]) (by decide) rfl Try.entForms ?_
  intro fn W1 rr hrr hb1 hsz hR
  rw [S3.out] at hrr hb1 hsz hR ⊢
  have hbw : Below w3.heap.size w3 W1 := by rw [S3.out]; exact hb1
  have h1 : LM w W1 b (b + 3 + 1) (b + 3) (rr .ready none) v 0 0 := ⟨HB3.out.trans (hbw.mono (by rw [S3.out]; omega)), boxed_below X1.out hbw X1.out.lt, boxed_below X2.out hbw X2.out.lt, boxed_below X3.out hbw X3.out.lt, hR, rfl, rfl⟩
  have H1 := Lib.hid h1
  have HRR := Lib.hid hrr
  clear hrr hb1 hsz hR hbw h1
  refine (forms_at 5 (by decide) (b + 3 + 1) (b + 2) v HV.out (fun k W => LM w W b (b + 3 + 1) (b + 3) (rr .ready none) v 0 0 ∧ W1.heap.size ≤ W.heap.size ∧ ∀ j, 1 ≤ j → j < k → ¬ v < 128 ^ j)
    (fun k W => LM w W b (b + 3 + 1) (b + 3) (rr .done (some .ret)) v k 0 ∧ ∀ j, 1 ≤ j → j < k → ¬ v < 128 ^ j) W1 W1.heap.size
    (fun k W W' h hb => ⟨h.1.later hb, Nat.le_trans h.2.1 hb.size, h.2.2⟩) (fun k W h => ⟨h.1.vbx.cell, h.2.1⟩)
    (fun k W h h1 h5 hn => ⟨h.1, h.2.1, fun j j1 j2 => by
      by_cases hj : j = k
      · rw [hj]; exact hn
      · exact h.2.2 j j1 (by omega)⟩) ?hY ⟨H1.out, Nat.le_refl _, fun j j1 j2 => by omega⟩).mono ?post
  case post =>
    rintro e W2 ⟨hv, (⟨_, _, hf⟩ | ⟨k, k1, k5, hk, hx, hj⟩)⟩
    · exact absurd HV.out (by simpa using hf 5 (by omega) (by omega))
    · refine ⟨hv, .inr ⟨.ret, hx.rec_, fun o => ?_⟩⟩
      have o1 := (hx.over o).dfr
      obtain ⟨o2, o3, o4⟩ := (hx.over o).take
      have c2 := o2.cell
      have c3 := o3.cell
      have O1 := Lib.hid o1
      have HE := Lib.hid (len1_is k1 k5 hk hj)
      clear hx hj o1 o2 o3 hk
      gi_wp2_with fail
      refine ⟨by simp, .inl ⟨_, _, rfl, run_takeDeferred O1.out, ?_⟩⟩
      refine ⟨.tuple #[.int .i64 ((k : Nat) : Int), .int .i64 0], by simp [results, Try.results12, go_sem, c2, c3], ?_, o4⟩
      rw [HE.out]
  case hY =>
    intro k g W hJ k1 k5 hk hg hgc
    obtain ⟨hm, hsz, hj⟩ := hJ
    have JW := Lib.hid hm
    have HJ := Lib.hid hj
    clear hm hsz hj hgc hk
    refine named_round HRR.out JW.out.rec_ rfl ?a1 ?asg ?body
    case asg =>
      intro K hK
      have HK := Lib.hid hK
      clear hK
      gi_wp2
      exact HK.out
    case body =>
      intro W2 hW2
      have hm : LM w W2 b (b + 3 + 1) (b + 3) (rr .busy none) v 0 0 := by rw [hW2]; exact JW.out.put _
      have M2 := Lib.hid hm
      have c1 := hm.r1.cell
      have c2 := hm.r2.cell
      have f1 := hm.r1.frozen
      have f2 := hm.r2.frozen
      clear hm hW2
      gi_wp2_with fail
      have h3 := (M2.out.set1 ((k : Nat) : Int)).set2 0
      exact ⟨h3.rec_, h3.put _, fun j j1 j2 => by have := HJ.out j j1 j2; omega⟩

set_option maxRecDepth 100000 in
set_option maxHeartbeats 3200000 in
theorem len_bad (v : Int) (hv : okV v = false) (w : World) : Calls Try.prog 12 #[.int .i64 v] w fun e w' => e = .returned (.tuple #[.int .i64 0, .int .i64 3]) ∧ Below w.heap.size w w' := by
  have b1 := below_new w (.cells #[.int .i64 0] 3)
  have b2 := below_new (w.alloc (.cells #[.int .i64 0] 3)) (.cells #[.int .i64 0] 24)
  have x1 := Boxed.new w 3 (.int .i64 0)
  have x2 := Boxed.new (w.alloc (.cells #[.int .i64 0] 3)) 24 (.int .i64 0)
  obtain ⟨w2, hw2⟩ : ∃ w2, (w.alloc (.cells #[.int .i64 0] 3)).alloc (.cells #[.int .i64 0] 24) = w2 := ⟨_, rfl⟩
  have x1' := boxed_below x1 b2 x1.lt
  have hb2 := b1.trans (b2.mono b1.size)
  have s2 : w2.heap.size = w.heap.size + 2 := by rw [← hw2]; simp
  rw [hw2] at x1' x2 hb2
  rw [World.size_alloc] at x2
  have HFO := Lib.hid (Forms_any v w2)
  obtain ⟨w3, hw3⟩ : ∃ w3, w2.alloc (.cells #[.int .i64 v] 3) = w3 := ⟨_, rfl⟩
  have b3 := below_new w2 (.cells #[.int .i64 v] 3)
  have x3 := Boxed.new w2 3 (.int .i64 v)
  rw [hw3] at b3 x3 HFO
  rw [s2] at x3 HFO
  have s3 : w3.heap.size = w.heap.size + 3 := by rw [← hw3]; simp; omega
  have x1'' := boxed_below x1' b3 x1'.lt
  have x2'' := boxed_below x2 b3 x2.lt
  have hb3 := hb2.trans (b3.mono hb2.size)
  obtain ⟨b, eb⟩ : ∃ b, w.heap.size = b := ⟨_, rfl⟩
  rw [eb] at x1'' x2'' x3 hb3 s2 s3 HFO ⊢
  have W2 := Lib.hid hw2
  have X1 := Lib.hid x1''
  have X2 := Lib.hid x2''
  have X3 := Lib.hid x3
  have HB3 := Lib.hid hb3
  have S3 := Lib.hid s3
  have EB := Lib.hid eb
  have HV := Lib.hid hv
  clear b1 b2 x1 x2 hw2 x1' hb2 s2 hw3 b3 x3 s3 x1'' x2'' hb3 eb hv
  refine (callsIn_wide (n := 6)).1 ?_
  refine callsIn_of_wp_marks Try.func12 rfl trivial ?_ rfl
  simp only [Try.ntmps12, List.size_toArray, List.length_cons, List.length_nil, Nat.reduceAdd, Nat.reduceSub, Array.replicate_succ, Array.replicate_zero, List.push_toArray, List.append_toArray, List.nil_append, List.cons_append]
  gi_wp2_with fail
  rw [W2.out, EB.out]
  refine ⟨trivial, ?_⟩
  refine (callsIn_wide.2 HFO.out).mono ?_
  rintro e w' ⟨rfl, rfl⟩
  gi_wp2_with fail
  refine named_open (gf := 31) (lb := #[.pointer (some ⟨b + 2, 0, none⟩)]) (by decide) rfl Try.entForms ?_
  intro fn W1 rr hrr hb1 hsz hR
  rw [S3.out] at hrr hb1 hsz hR ⊢
  have hbw : Below w3.heap.size w3 W1 := by rw [S3.out]; exact hb1
  have h1 : LM w W1 b (b + 3 + 1) (b + 3) (rr .ready none) v 0 0 := ⟨HB3.out.trans (hbw.mono (by rw [S3.out]; omega)), boxed_below X1.out hbw X1.out.lt, boxed_below X2.out hbw X2.out.lt, boxed_below X3.out hbw X3.out.lt, hR, rfl, rfl⟩
  have H1 := Lib.hid h1
  clear hrr hb1 hsz hR hbw h1
  refine (forms_none 5 (by decide) (b + 3 + 1) (b + 2) v HV.out W1 H1.out.vbx.cell).mono ?_
  rintro e W2 ⟨hv, rfl⟩
  refine ⟨hv, .inl ⟨H1.out.rec_, fun o => ?_⟩⟩
  have ho := H1.out.over o
  obtain ⟨W3, hW3⟩ : ∃ W3, W2.putObj (b + 3 + 1) o = W3 := ⟨_, rfl⟩
  rw [hW3] at ho ⊢
  have c1 := ho.r1.cell
  have c2 := ho.r2.cell
  have f1 := ho.r1.frozen
  have f2 := ho.r2.frozen
  have ho2 := (ho.set1 0).set2 3
  obtain ⟨o2, o3, o4⟩ := ho2.take
  have d2 := o2.cell
  have d3 := o3.cell
  have O1 := Lib.hid ho2.dfr
  clear ho hW3 ho2 o2 o3 
  gi_wp2_with fail
  refine ⟨by simp, .inl ⟨_, _, rfl, run_takeDeferred O1.out, ?_⟩⟩
  exact ⟨.tuple #[.int .i64 0, .int .i64 3], by simp [results, Try.results12, go_sem, d2, d3], rfl, o4⟩

theorem len_any (v : Int) (w : World) : Calls Try.prog 12 #[.int .i64 v] w fun e w' => e = .returned (.tuple #[.int .i64 (lenC v).1, .int .i64 (lenC v).2]) ∧ Below w.heap.size w w' := by
  unfold lenC
  cases h : okV v with
  | false => exact len_bad v h w
  | true =>
    have h1 := (okV_iff v).1 h
    have := len_ok v.toNat (by omega) w
    rw [Int.toNat_of_nonneg h1.1] at this
    exact this
end Go.Proofs.Ytfkaghfbngicmaa
