/- Append of package varint. Conditions: the bytes lie in memory. -/
import Derived.Test.YtfkaghfbngicmaaQl
import Derived.ArgAppend
namespace Go.Proofs.Ytfkaghfbngicmaa
open Go.RowKit Go.Shelf
attribute [local go_sem] Oper.semAt_some

theorem one_u8s (N : List Nat) : ∀ u ∈ u8s N, u.oneCell' = true := by
  intro u hu
  obtain ⟨c, _, rfl⟩ := List.mem_map.1 hu
  rfl

/-- Bytes behind bytes without room: all in new memory. -/
theorem run_append_full (ty : TypeId) {w : World} {A : Option Addr} {n : Nat} {B : List Nat} (h : SrcAt w (.slice A n n) B) (hn : n = B.length) {ad : Addr} {m c : Nat} {N : List Nat} (hm : m = N.length) (h1 : 1 ≤ m) (hc : ∀ j u, (u8s N)[j]? = some u → w.cell? (ad.add j) = some u) (hl : n + m ≤ 140737488355328) :
    ∃ g k w', (Builtin.append_ #[22, 22] ty #[.slice A n n, .slice (some ad) m c]).run Try.prog w = .ok (.slice (some ⟨g, 0, none⟩) (n + m) k) w' ∧ w.heap.size ≤ g ∧ n + m ≤ k ∧ k ≤ 9223372036854775807 ∧ w'.ownsRow w.heap.size 5 1 (.slice (some ⟨g, 0, none⟩) (n + m) k) (n + m) (u8s (B ++ N)) ∧ Below w.heap.size w w' := by
  obtain ⟨i, hi, hz, hsz, hby⟩ := info_parts Try.infB
  have key : ∃ v' w', (Builtin.append_ #[22, 22] ty #[.slice A n n, .slice (some ad) m c]).run Try.prog w = .ok v' w' ∧ w'.ownsRow w.heap.size 5 1 v' (n + m) (u8s (B ++ N)) ∧ w.grownBy w' none := by
    have hmx : n + m ≤ maxLen := Nat.le_trans hl (by decide)
    cases A with
    | none =>
      obtain ⟨rfl, rfl, _⟩ := src_none h
      obtain ⟨v', w', hrun, r1, r2, _⟩ := run_append_own (P := Try.prog) w w.heap.size 22 ty 5 i (.int .u8 0) 1 1 Try.undL hi hz hsz hby rfl (by decide) (.slice none 0 0) 0 [] (World.ownsRow_nil w _ _ _) ad m c (u8s N) (by rw [u8s_length]; omega) hc (one_u8s N) hmx (by omega) (Nat.le_refl _)
      exact ⟨v', w', hrun, by simpa using r1, r2⟩
    | some b =>
      obtain ⟨v', w', hrun, r1, r2⟩ := run_append_arg_grows (P := Try.prog) w 22 ty 5 i (.int .u8 0) 1 1 Try.undL hi hz hsz hby rfl (by decide) b n n (u8s B) (by rw [u8s_length]; omega) (fun j u hu => by
        rcases h with ⟨e, _⟩ | ⟨a, c', e, _, hcc⟩
        · simp at e
        · simp only [Value.slice.injEq, Option.some.injEq] at e
          rw [e.1]
          exact hcc j u hu) ad m c (u8s N) (by rw [u8s_length]; omega) hc (by omega) hmx (by omega)
      exact ⟨v', w', hrun, by rw [u8s_append]; exact r1, r2⟩
  obtain ⟨v', w', hrun, r1, r2⟩ := key
  have hb : Below w.heap.size w w' := ⟨r2.os, r2.tape, r2.output, r2.size, fun k hk => r2.block k hk (by simp)⟩
  rcases r1.2 with ⟨_, h0⟩ | ⟨g, cap, cur, rfl, hb0, _, hcp, hcp2, _⟩
  · exfalso
    have := r1.1
    omega
  · exact ⟨g, cap, w', hrun, hb0, hcp, hcp2, r1, hb⟩

theorem own_mono {w : World} {base base' : Nat} {e : TypeId} {size : Nat} {v : Value} {n : Nat} {xs : List Value} (h : w.ownsRow base e size v n xs) (hb : base' ≤ base) : w.ownsRow base' e size v n xs := by
  refine ⟨h.1, ?_⟩
  rcases h.2 with h0 | ⟨g, cap, cur, h1, h2, h3⟩
  · exact .inl h0
  · exact .inr ⟨g, cap, cur, h1, by omega, h3⟩

/-- An append whose result is known. -/
theorem wpListIn_append_eq {F : Fence} {n : Nat} {P : Program} {w : World} {ops : Array Oper} {rest : List Oper} {o : Oper} {a : Go.Act} {Q : Exit → Go.Act → World → Prop} (hg : o.guard = none) (s x : Operand) (t : TypeId) (hop : o.op = Op.call { callee := Callee.builtin Builtin.append, args := #[s, x], argTypes := #[t, t] })
    {v xv v' : Value} {w' : World} (hs : a.eval s = v) (hx : a.eval x = xv) (hrun : (Builtin.append_ #[t, t] o.type #[v, xv]).run P w = .ok v' w') (hK : wpListIn F n P ops Q rest (a.put o.dst v') w') : wpListIn F n P ops Q (o :: rest) a w := by
  refine wpListIn_plain hg fun K hK' => ?_
  unfold Oper.wpIn
  refine ⟨?_, ?_⟩
  · simp [Oper.about, hop, resolve, Target.leads, Sem.run_pure]
  · rw [Oper.semAt_plain F _ _ (by rw [hop]; intro c hc'; cases hc')]
    simp [execOp, hop, resolve, invoke, builtin, hs, hx, hrun, Result.andThen]
    exact hK' _ _ hK
theorem wpList_append_eq {P : Program} {w : World} {ops : Array Oper} {rest : List Oper} {o : Oper} {a : Go.Act} {Q : Exit → Go.Act → World → Prop} (hg : o.guard = none) (s x : Operand) (t : TypeId) (hop : o.op = Op.call { callee := Callee.builtin Builtin.append, args := #[s, x], argTypes := #[t, t] })
    {v xv v' : Value} {w' : World} (hs : a.eval s = v) (hx : a.eval x = xv) (hrun : (Builtin.append_ #[t, t] o.type #[v, xv]).run P w = .ok v' w') (hK : wpList P ops Q rest (a.put o.dst v') w') : wpList P ops Q (o :: rest) a w := by
  refine wpList_plain hg fun K hK' => ?_
  unfold Oper.wp
  simp [execOp, hop, resolve, invoke, builtin, hs, hx, hrun, Result.andThen]
  exact hK' _ _ hK

/-- The memory of Append: the bytes, two results, the integer, the loop's record. -/
structure PM (w0 W : World) (b lr Dd : Nat) (r : Loop) (s x : Value) (v e : Int) : Prop where
  bel : Below b w0 W
  r0 : Boxed W b 22 s
  r1 : Boxed W (b + 1) 22 x
  r2 : Boxed W (b + 2) 24 (.int .i64 e)
  vbx : Boxed W (b + 3) 3 (.int .i64 v)
  rec_ : RecAt W lr Dd r
  dd : Dd = b + 4
  lr_ : lr = b + 5
/-- The loop is over: its record is gone. -/
structure PO (w0 W : World) (b Dd : Nat) (x : Value) (e : Int) : Prop where
  bel : Below b w0 W
  r1 : Boxed W (b + 1) 22 x
  r2 : Boxed W (b + 2) 24 (.int .i64 e)
  dfr : W.heap[Dd]? = some (.deferred (some []))
  dd : b + 2 < Dd
section
variable {w0 W W' : World} {b lr Dd : Nat} {r : Loop} {s x : Value} {v e : Int}
theorem PM.lt (h : PM w0 W b lr Dd r s x v e) : b + 5 < W.heap.size := by have := (Array.getElem?_eq_some_iff.1 h.rec_.rec_).1; have := h.lr_; omega
theorem PM.later (h : PM w0 W b lr Dd r s x v e) (hb : Below W.heap.size W W') : PM w0 W' b lr Dd r s x v e := by
  have hl := h.lt
  have h1 := h.dd
  have h2 := h.lr_
  exact ⟨h.bel.trans (hb.mono (by omega)), boxed_below h.r0 hb (by omega), boxed_below h.r1 hb (by omega), boxed_below h.r2 hb (by omega), boxed_below h.vbx hb (by omega), h.rec_.below hb (by omega) (by omega), h1, h2⟩
theorem PM.put (h : PM w0 W b lr Dd r s x v e) (r' : Loop) : PM w0 (W.putObj lr (.loop r')) b lr Dd r' s x v e := by
  have h1 := h.dd
  have h2 := h.lr_
  have hl := h.lt
  exact ⟨h.bel.trans ((rest_putObj W lr (.loop r')).toBelow b (by omega) (fun i hi e => by omega)), boxed_put h.r0 _ (by omega), boxed_put h.r1 _ (by omega), boxed_put h.r2 _ (by omega), boxed_put h.vbx _ (by omega), h.rec_.put (by omega) r', h1, h2⟩
theorem PM.set1 (h : PM w0 W b lr Dd r s x v e) (x' : Value) : PM w0 (W.setCell ⟨b + 1, 0, none⟩ x') b lr Dd r s x' v e := by
  have h1 := h.dd
  have h2 := h.lr_
  exact ⟨h.bel.setCell (p := ⟨b + 1, 0, none⟩) (Nat.le_succ _) _, boxed_setQ h.r0 _ _ _ (by omega), Boxed.set _ h.r1, boxed_setQ h.r2 _ _ _ (by omega), boxed_setQ h.vbx _ _ _ (by omega), h.rec_.rest (S := fun i => i = b + 1) ((Rest.refl (fun i => i = b + 1) W).setCell (S := fun i => i = b + 1) (p := ⟨b + 1, 0, none⟩) (fun _ => rfl) _) (by omega) (by omega), h1, h2⟩
theorem PM.set2 (h : PM w0 W b lr Dd r s x v e) (e' : Int) : PM w0 (W.setCell ⟨b + 2, 0, none⟩ (.int .i64 e')) b lr Dd r s x v e' := by
  have h1 := h.dd
  have h2 := h.lr_
  exact ⟨h.bel.setCell (p := ⟨b + 2, 0, none⟩) (show b ≤ b + 2 by omega) _, boxed_setQ h.r0 _ _ _ (by omega), boxed_setQ h.r1 _ _ _ (by omega), Boxed.set _ h.r2, boxed_setQ h.vbx _ _ _ (by omega), h.rec_.rest (S := fun i => i = b + 2) ((Rest.refl (fun i => i = b + 2) W).setCell (S := fun i => i = b + 2) (p := ⟨b + 2, 0, none⟩) (fun _ => rfl) _) (by omega) (by omega), h1, h2⟩
theorem PM.over (h : PM w0 W b lr Dd r s x v e) (o : Obj) : PO w0 (W.putObj lr o) b Dd x e := by
  have h1 := h.dd
  have h2 := h.lr_
  have hl := h.lt
  exact ⟨h.bel.trans ((rest_putObj W lr o).toBelow b (by omega) (fun i hi e => by omega)), boxed_put h.r1 _ (by omega), boxed_put h.r2 _ (by omega), (World.putObj_heap_other (by omega)).trans h.rec_.dfr, by omega⟩
theorem PO.set1 (h : PO w0 W b Dd x e) (x' : Value) : PO w0 (W.setCell ⟨b + 1, 0, none⟩ x') b Dd x' e := by
  have h1 := h.dd
  exact ⟨h.bel.setCell (p := ⟨b + 1, 0, none⟩) (Nat.le_succ _) _, Boxed.set _ h.r1, boxed_setQ h.r2 _ _ _ (by omega), (Below.heap_setCell W ⟨b + 1, 0, none⟩ _ Dd (show Dd ≠ b + 1 by omega)).trans h.dfr, h1⟩
theorem PO.set2 (h : PO w0 W b Dd x e) (e' : Int) : PO w0 (W.setCell ⟨b + 2, 0, none⟩ (.int .i64 e')) b Dd x e' := by
  have h1 := h.dd
  exact ⟨h.bel.setCell (p := ⟨b + 2, 0, none⟩) (show b ≤ b + 2 by omega) _, boxed_setQ h.r1 _ _ _ (by omega), Boxed.set _ h.r2, (Below.heap_setCell W ⟨b + 2, 0, none⟩ _ Dd (show Dd ≠ b + 2 by omega)).trans h.dfr, h1⟩
theorem PO.take (h : PO w0 W b Dd x e) : Boxed (W.putObj Dd (.deferred none)) (b + 1) 22 x ∧ Boxed (W.putObj Dd (.deferred none)) (b + 2) 24 (.int .i64 e) ∧ Below b w0 (W.putObj Dd (.deferred none)) := by
  have h1 := h.dd
  have hl := (Array.getElem?_eq_some_iff.1 h.dfr).1
  exact ⟨boxed_put h.r1 _ (by omega), boxed_put h.r2 _ (by omega), h.bel.trans ((rest_putObj W Dd (.deferred none)).toBelow b (by omega) (fun i hi e => by omega))⟩
end

/-- The start of Append: three blocks and the iterator's. -/
structure PS (w w2 w3 : World) (b : Nat) (s : Value) (v : Int) : Prop where
  sz2 : w2.heap.size = b + 3
  sz3 : w3.heap.size = b + 4
  bel : Below b w w3
  r0 : Boxed w3 b 22 s
  r1 : Boxed w3 (b + 1) 22 (.slice none 0 0)
  r2 : Boxed w3 (b + 2) 24 (.int .i64 0)
  vbx : Boxed w3 (b + 3) 3 (.int .i64 v)
theorem ps_new (w : World) (s : Value) (v : Int) : PS w (((w.alloc (.cells #[s] 22)).alloc (.cells #[.slice none 0 0] 22)).alloc (.cells #[.int .i64 0] 24)) ((((w.alloc (.cells #[s] 22)).alloc (.cells #[.slice none 0 0] 22)).alloc (.cells #[.int .i64 0] 24)).alloc (.cells #[.int .i64 v] 3)) w.heap.size s v := by
  have q1 : (w.alloc (.cells #[s] 22)).heap.size = w.heap.size + 1 := by simp
  have q2 : ((w.alloc (.cells #[s] 22)).alloc (.cells #[.slice none 0 0] 22)).heap.size = w.heap.size + 2 := by simp
  have q3 : (((w.alloc (.cells #[s] 22)).alloc (.cells #[.slice none 0 0] 22)).alloc (.cells #[.int .i64 0] 24)).heap.size = w.heap.size + 3 := by simp
  have b1 := below_new w (.cells #[s] 22)
  have b2 := below_new (w.alloc (.cells #[s] 22)) (.cells #[.slice none 0 0] 22)
  have b3 := below_new ((w.alloc (.cells #[s] 22)).alloc (.cells #[.slice none 0 0] 22)) (.cells #[.int .i64 0] 24)
  have b4 := below_new (((w.alloc (.cells #[s] 22)).alloc (.cells #[.slice none 0 0] 22)).alloc (.cells #[.int .i64 0] 24)) (.cells #[.int .i64 v] 3)
  have x0 := Boxed.new w 22 s
  have x1 := Boxed.new (w.alloc (.cells #[s] 22)) 22 (.slice none 0 0)
  have x2 := Boxed.new ((w.alloc (.cells #[s] 22)).alloc (.cells #[.slice none 0 0] 22)) 24 (.int .i64 0)
  have x3 := Boxed.new (((w.alloc (.cells #[s] 22)).alloc (.cells #[.slice none 0 0] 22)).alloc (.cells #[.int .i64 0] 24)) 3 (.int .i64 v)
  rw [q1] at x1 b2
  rw [q2] at x2 b3
  rw [q3] at x3 b4
  exact ⟨q3, by simp, ((b1.trans (b2.mono (by omega))).trans (b3.mono (by omega))).trans (b4.mono (by omega)), boxed_below (boxed_below (boxed_below x0 b2 (by omega)) b3 (by omega)) b4 (by omega), boxed_below (boxed_below x1 b3 (by omega)) b4 (by omega), boxed_below x2 b4 (by omega), x3⟩

/-- What Append hands back. -/
def AppOf (N : Nat) (F : List Nat) (w : World) (e : Ending) (w' : World) : Prop :=
  ∃ g c, e = .returned (.tuple #[.slice (some ⟨g, 0, none⟩) N c, .int .i64 0]) ∧ N ≤ c ∧ c ≤ 9223372036854775807 ∧ w'.ownsRow w.heap.size 5 1 (.slice (some ⟨g, 0, none⟩) N c) N (u8s F) ∧ Below w.heap.size w w'

set_option maxRecDepth 100000 in
set_option maxHeartbeats 3200000 in
theorem append_ok (A : Option Addr) (N C : Nat) (B : List Nat) (v : Nat) (hv : v < 34359738368) (w : World) (hs : SrcAt w (.slice A N C) B) (hN : N = B.length) (hC : N ≤ C) (hC2 : C ≤ 9223372036854775807) (hN2 : N ≤ 140737488350000) :
    Calls Try.prog 11 #[.slice A N C, .int .i64 v] w (AppOf (N + len1 v) (B ++ formV v (len1 v)) w) := by
  have hps := ps_new w (.slice A N C) ((v : Nat) : Int)
  have HFO := Lib.hid (Forms_any ((v : Nat) : Int) (((w.alloc (.cells #[.slice A N C] 22)).alloc (.cells #[.slice none 0 0] 22)).alloc (.cells #[.int .i64 0] 24)))
  obtain ⟨w2, hw2⟩ : ∃ w2, (((w.alloc (.cells #[.slice A N C] 22)).alloc (.cells #[.slice none 0 0] 22)).alloc (.cells #[.int .i64 0] 24)) = w2 := ⟨_, rfl⟩
  rw [hw2] at hps HFO
  obtain ⟨w3, hw3⟩ : ∃ w3, w2.alloc (.cells #[.int .i64 ((v : Nat) : Int)] 3) = w3 := ⟨_, rfl⟩
  rw [hw3] at hps HFO
  rw [hps.sz2] at HFO
  have hlt := hs.lt
  obtain ⟨b, eb⟩ : ∃ b, w.heap.size = b := ⟨_, rfl⟩
  rw [eb] at hps HFO hlt
  have W2 := Lib.hid hw2
  have PS0 := Lib.hid hps
  have EB := Lib.hid eb
  have HV := Lib.hid hv
  have HS := Lib.hid hs
  have HLT := Lib.hid hlt
  have HN := Lib.hid hN
  clear hps hw2 hw3 eb hv hs hlt hN
  refine (callsIn_wide (n := 6)).1 ?_
  refine callsIn_of_wp_marks Try.func11 rfl trivial ?_ rfl
  simp only [Try.ntmps11, List.size_toArray, List.length_cons, List.length_nil, Nat.reduceAdd, Nat.reduceSub, Array.replicate_succ, Array.replicate_zero, List.push_toArray, List.append_toArray, List.nil_append, List.cons_append]
  gi_wp2_with fail
  rw [W2.out, EB.out]
  refine ⟨trivial, ?_⟩
  refine (callsIn_wide.2 HFO.out).mono ?_
  rintro e w' ⟨rfl, rfl⟩
  gi_wp2_with fail
  refine named_open (gf := 31) (lb := #[.pointer (some ⟨b + 3, 0, none⟩)]) (by decide) rfl Try.entForms ?_
  intro fn W1 rr hrr hb1 hsz hR
  rw [PS0.out.sz3] at hrr hb1 hsz hR ⊢
  have hbw : Below w3.heap.size w3 W1 := by rw [PS0.out.sz3]; exact hb1
  have h1 : PM w W1 b (b + 4 + 1) (b + 4) (rr .ready none) (.slice A N C) (.slice none 0 0) v 0 := ⟨PS0.out.bel.trans (hbw.mono (by rw [PS0.out.sz3]; omega)), boxed_below PS0.out.r0 hbw PS0.out.r0.lt, boxed_below PS0.out.r1 hbw PS0.out.r1.lt, boxed_below PS0.out.r2 hbw PS0.out.r2.lt, boxed_below PS0.out.vbx hbw PS0.out.vbx.lt, hR, rfl, rfl⟩
  have H1 := Lib.hid h1
  have HRR := Lib.hid hrr
  clear hrr hb1 hsz hR hbw h1
  refine (forms_at 5 (by decide) (b + 4 + 1) (b + 3) v HV.out (fun k W => PM w W b (b + 4 + 1) (b + 4) (rr .ready none) (.slice A N C) (.slice none 0 0) v 0 ∧ W1.heap.size ≤ W.heap.size ∧ ∀ j, 1 ≤ j → j < k → ¬ v < 128 ^ j)
    (fun k W => (∃ g c, b ≤ g ∧ N + k ≤ c ∧ c ≤ 9223372036854775807 ∧ PM w W b (b + 4 + 1) (b + 4) (rr .done (some .ret)) (.slice A N C) (.slice (some ⟨g, 0, none⟩) (N + k) c) v 0 ∧ W.ownsRow W1.heap.size 5 1 (.slice (some ⟨g, 0, none⟩) (N + k) c) (N + k) (u8s (B ++ formV v k))) ∧ ∀ j, 1 ≤ j → j < k → ¬ v < 128 ^ j) W1 W1.heap.size
    (fun k W W' h hb => ⟨h.1.later hb, Nat.le_trans h.2.1 hb.size, h.2.2⟩) (fun k W h => ⟨h.1.vbx.cell, h.2.1⟩)
    (fun k W h h1 h5 hn => ⟨h.1, h.2.1, fun j j1 j2 => by
      by_cases hj : j = k
      · rw [hj]; exact hn
      · exact h.2.2 j j1 (by omega)⟩) ?hY ⟨H1.out, Nat.le_refl _, fun j j1 j2 => by omega⟩).mono ?post
  case post =>
    rintro e W2 ⟨hv, (⟨_, _, hf⟩ | ⟨k, k1, k5, hk, ⟨g, c, hbg, hc1, hc2, hx, hrow⟩, hj⟩)⟩
    · exact absurd HV.out (by simpa using hf 5 (by omega) (by omega))
    · refine ⟨hv, .inr ⟨.ret, hx.rec_, fun o => ?_⟩⟩
      have o1 := (hx.over o).dfr
      obtain ⟨o2, o3, o4⟩ := (hx.over o).take
      have c2 := o2.cell
      have c3 := o3.cell
      have hlt := H1.out.lt
      have hgl := (hrow.lt g rfl).1
      have hrow2 : ((W2.putObj (b + 4 + 1) o).putObj (b + 4) (.deferred none)).ownsRow b 5 1 (.slice (some ⟨g, 0, none⟩) (N + k) c) (N + k) (u8s (B ++ formV v k)) := by
        have r1 := (rest_putObj W2 (b + 4 + 1) o).row hrow (fun j hj e => by simp [Value.ownBlock] at hj; omega)
        have r2 := (rest_putObj (W2.putObj (b + 4 + 1) o) (b + 4) (.deferred none)).row r1 (fun j hj e => by simp [Value.ownBlock] at hj; omega)
        exact own_mono r2 (by omega)
      have O1 := Lib.hid o1
      have HE := Lib.hid (len1_is k1 k5 hk hj)
      have HROW := Lib.hid hrow2
      clear hx hj o1 o2 o3 hk hrow hrow2
      gi_wp2_with fail
      refine ⟨by simp, .inl ⟨_, _, rfl, run_takeDeferred O1.out, ?_⟩⟩
      refine ⟨.tuple #[.slice (some ⟨g, 0, none⟩) (N + k) c, .int .i64 0], by simp [results, Try.results11, go_sem, c2, c3], ?_⟩
      rw [HE.out]
      exact ⟨g, c, rfl, hc1, hc2, by rw [EB.out]; exact HROW.out, by rw [EB.out]; exact o4⟩
  case hY =>
    intro k g W hJ k1 k5 hk hg hgc
    obtain ⟨hm, hsz, hj⟩ := hJ
    have JW := Lib.hid hm
    have HJ := Lib.hid hj
    have HG := Lib.hid hgc
    have HSZ := Lib.hid hsz
    clear hm hsz hj hgc hk
    refine named_round HRR.out JW.out.rec_ rfl ?a1 ?asg ?body
    case asg =>
      intro K hK
      have HK := Lib.hid hK
      clear hK
      gi_wp2
      exact HK.out
    case body =>
      intro W2 hW2
      have hlt := H1.out.lt
      have hm : PM w W2 b (b + 4 + 1) (b + 4) (rr .busy none) (.slice A N C) (.slice none 0 0) v 0 := by rw [hW2]; exact JW.out.put _
      have hg2 : W2.heap[g]? = some (.cells (u8s (formV v k)).toArray 5 (0, 0)) := by rw [hW2]; exact (World.putObj_heap_other (show g ≠ b + 4 + 1 by omega)).trans HG.out
      have hsr := (HS.out.below hm.bel HLT.out)
      have hsr2 := pre_src hsr N N (Nat.le_refl _) (fun e => by subst e; have := src_none hsr; omega)
      rw [List.take_of_length_le (by have := HN.out; omega)] at hsr2
      obtain ⟨gg, cc, W3, hrun, hgg, hcc1, hcc2, hrow, hb3⟩ := run_append_full 22 hsr2 HN.out (ad := ⟨g, 0, none⟩) (m := k) (c := k) (N := formV v k) (by rw [formV_len]) k1 (fun j u hu => by
        rw [Addr.add_lit]
        simpa [World.cell?, hg2] using hu) (by omega)
      have hm3 := hm.later hb3
      have M3 := Lib.hid hm3
      have c0 := hm.r0.cell
      have c1 := hm3.r1.cell
      have c2 := hm3.r2.cell
      have f1 := hm3.r1.frozen
      have f2 := hm3.r2.frozen
      have HROW := Lib.hid hrow
      have HB3 := Lib.hid hb3
      have HRUN := Lib.hid hrun
      have HL2 := Lib.hid (show W1.heap.size ≤ W2.heap.size by rw [hW2]; exact Nat.le_trans HSZ.out (rest_putObj W (b + 4 + 1) _).size)
      clear hm hW2 hg2 hsr hsr2 hrow hb3 hm3 hrun
      gi_wp2_with (gi_at_builtin; refine wpListIn_append_eq rfl _ _ 22 rfl rfl rfl HRUN.out ?_)
      all_goals
        have h3 := (M3.out.set1 (.slice (some ⟨gg, 0, none⟩) (N + k) cc)).set2 0
        refine ⟨h3.rec_, ⟨gg, ?_, cc, hcc1, hcc2, h3.put _, ?_⟩, fun j j1 j2 => by have := HJ.out j j1 j2; omega⟩
        · have h5 := H1.out.lt
          have h4 := HL2.out
          omega
        · have hl2 : W1.heap.size ≤ W2.heap.size := HL2.out
          have r0 := own_mono HROW.out hl2
          have r1 := ((Rest.refl (fun i => i = b + 1) W3).setCell (S := fun i => i = b + 1) (p := ⟨b + 1, 0, none⟩) (fun _ => rfl) (.slice (some ⟨gg, 0, none⟩) (N + k) cc)).row r0 (fun j hj e => by simp [Value.ownBlock] at hj; omega)
          have r2 := ((Rest.refl (fun i => i = b + 2) _).setCell (S := fun i => i = b + 2) (p := ⟨b + 2, 0, none⟩) (fun _ => rfl) (.int .i64 0)).row r1 (fun j hj e => by simp [Value.ownBlock] at hj; omega)
          exact (rest_putObj _ (b + 4 + 1) _).row r2 (fun j hj e => by simp [Value.ownBlock] at hj; omega)

theorem append_bad (A : Option Addr) (N C : Nat) (v : Int) (hv : okV v = false) (w : World) :
    Calls Try.prog 11 #[.slice A N C, .int .i64 v] w fun e w' => e = .returned (.tuple #[.slice none 0 0, .int .i64 3]) ∧ Below w.heap.size w w' := by
  have hps := ps_new w (.slice A N C) v
  have HFO := Lib.hid (Forms_any v (((w.alloc (.cells #[.slice A N C] 22)).alloc (.cells #[.slice none 0 0] 22)).alloc (.cells #[.int .i64 0] 24)))
  obtain ⟨w2, hw2⟩ : ∃ w2, (((w.alloc (.cells #[.slice A N C] 22)).alloc (.cells #[.slice none 0 0] 22)).alloc (.cells #[.int .i64 0] 24)) = w2 := ⟨_, rfl⟩
  rw [hw2] at hps HFO
  obtain ⟨w3, hw3⟩ : ∃ w3, w2.alloc (.cells #[.int .i64 v] 3) = w3 := ⟨_, rfl⟩
  rw [hw3] at hps HFO
  rw [hps.sz2] at HFO
  obtain ⟨b, eb⟩ : ∃ b, w.heap.size = b := ⟨_, rfl⟩
  rw [eb] at hps HFO ⊢
  have W2 := Lib.hid hw2
  have PS0 := Lib.hid hps
  have EB := Lib.hid eb
  have HV := Lib.hid hv
  clear hps hw2 hw3 eb hv
  refine (callsIn_wide (n := 6)).1 ?_
  refine callsIn_of_wp_marks Try.func11 rfl trivial ?_ rfl
  simp only [Try.ntmps11, List.size_toArray, List.length_cons, List.length_nil, Nat.reduceAdd, Nat.reduceSub, Array.replicate_succ, Array.replicate_zero, List.push_toArray, List.append_toArray, List.nil_append, List.cons_append]
  gi_wp2_with fail
  rw [W2.out, EB.out]
  refine ⟨trivial, ?_⟩
  refine (callsIn_wide.2 HFO.out).mono ?_
  rintro e w' ⟨rfl, rfl⟩
  gi_wp2_with fail
  refine named_open (gf := 31) (lb := #[.pointer (some ⟨b + 3, 0, none⟩)]) (by decide) rfl Try.entForms ?_
  intro fn W1 rr hrr hb1 hsz hR
  rw [PS0.out.sz3] at hrr hb1 hsz hR ⊢
  have hbw : Below w3.heap.size w3 W1 := by rw [PS0.out.sz3]; exact hb1
  have h1 : PM w W1 b (b + 4 + 1) (b + 4) (rr .ready none) (.slice A N C) (.slice none 0 0) v 0 := ⟨PS0.out.bel.trans (hbw.mono (by rw [PS0.out.sz3]; omega)), boxed_below PS0.out.r0 hbw PS0.out.r0.lt, boxed_below PS0.out.r1 hbw PS0.out.r1.lt, boxed_below PS0.out.r2 hbw PS0.out.r2.lt, boxed_below PS0.out.vbx hbw PS0.out.vbx.lt, hR, rfl, rfl⟩
  have H1 := Lib.hid h1
  clear hrr hb1 hsz hR hbw h1
  refine (forms_none 5 (by decide) (b + 4 + 1) (b + 3) v HV.out W1 H1.out.vbx.cell).mono ?_
  rintro e W2 ⟨hv, rfl⟩
  refine ⟨hv, .inl ⟨H1.out.rec_, fun o => ?_⟩⟩
  have ho := H1.out.over o
  obtain ⟨W3, hW3⟩ : ∃ W3, W2.putObj (b + 4 + 1) o = W3 := ⟨_, rfl⟩
  rw [hW3] at ho ⊢
  have c1 := ho.r1.cell
  have c2 := ho.r2.cell
  have f1 := ho.r1.frozen
  have f2 := ho.r2.frozen
  have ho2 := (ho.set1 (.slice none 0 0)).set2 3
  obtain ⟨o2, o3, o4⟩ := ho2.take
  have d2 := o2.cell
  have d3 := o3.cell
  have O1 := Lib.hid ho2.dfr
  clear ho hW3 ho2 o2 o3 
  gi_wp2_with fail
  refine ⟨by simp, .inl ⟨_, _, rfl, run_takeDeferred O1.out, ?_⟩⟩
  exact ⟨.tuple #[.slice none 0 0, .int .i64 3], by simp [results, Try.results11, go_sem, d2, d3], rfl, o4⟩
end Go.Proofs.Ytfkaghfbngicmaa
