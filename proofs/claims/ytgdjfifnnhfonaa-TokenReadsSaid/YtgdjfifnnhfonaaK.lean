/- tokens: the whole text is passed, its tokens are handed back in new memory. Conditions: the scanner lies in memory; the text has at most 1048576 bytes. -/
import Derived.Test.YtgdjfifnnhfonaaI
import Derived.Maps.AppendAt
import Derived.Lib.SmallJoins
import Derived.Sort.CutIn
namespace Go.Proofs.Ytgdjfifnnhfonaa
open Go.RowKit Go.Shelf

/-- How much of the text is left. -/
def restLen (p : Nat) (w : World) : Nat := match w.cell? ⟨p, 2, none⟩ with | some (.string s) => s.size | _ => 0
theorem KAt.restLen {w : World} {p ln cn : Nat} {l : List UInt8} (h : KAt w p l ln cn) : restLen p w = l.length := by
  unfold Ytgdjfifnnhfonaa.restLen
  rw [h.c2]
  exact strL_size l

/-- What tokens answers. -/
def ToksR (r : SRes) (w : World) (p : Nat) (e : Ending) (w' : World) : Prop :=
  Rest (fun k => k = p) w w' ∧ match r with
  | .ok ts q => ∃ v, e = .returned v ∧ w'.ownsRow (w.heap.size + 1) 36 5 v ts.length (tokCells ts) ∧ KAt w' p [] q.1 q.2
  | .bad q c => Fails e q c

/-- What tokens' variables hold between two tokens. -/
structure TT (w W : World) (p : Nat) (l : List UInt8) (F : Nat) (q0 : Nat × Nat) (a : Addr) (out : Value) (ts : List TokD) (r : List UInt8) (ln cn fuel : Nat) : Prop where
  k : KAt W p r ln cn
  row : W.ownsRow (w.heap.size + 1) 36 5 out ts.length (tokCells ts)
  kd : KindsAt W a p
  rs : Rest (fun i => i = p) w W
  pw : p < w.heap.size
  ab : a.block = w.heap.size
  wW : w.heap.size + 1 ≤ W.heap.size
  fu : r.length < fuel
  eq : scanG F l q0 = pre ts (scanG fuel r (ln, cn))
  few : ts.length + r.length ≤ l.length
  bl : ln + r.length ≤ q0.1 + l.length
  bc : cn + r.length ≤ q0.2 + l.length
  c1 : 1 ≤ cn

section
variable {w W W' : World} {p F : Nat} {q0 : Nat × Nat} {l r : List UInt8} {a : Addr} {out : Value} {ts : List TokD} {ln cn fuel : Nat}
theorem row_ge {w : World} {base : Nat} {e : TypeId} {size : Nat} {v : Value} {n : Nat} {xs : List Value} (h : w.ownsRow base e size v n xs) : ∀ k, v.ownBlock = some k → base ≤ k := by
  intro k hk
  rcases h.2 with ⟨rfl, _⟩ | ⟨g, cap, cur, rfl, hb, _⟩
  · simp [Value.ownBlock] at hk
  · simp [Value.ownBlock] at hk; omega
theorem row_shape {w : World} {base n : Nat} {e : TypeId} {size : Nat} {v : Value} {xs : List Value} (h : w.ownsRow base e size v n xs) : ∃ A c, v = .slice A n c := by
  rcases Joins.ownsRow_forms h with ⟨rfl, h0⟩ | ⟨g, cap, rfl⟩
  · exact ⟨none, 0, by rw [h0]⟩
  · exact ⟨_, _, rfl⟩
theorem cell_new_at (W : World) (cs : Array Value) (t : TypeId) (s j : Nat) (hs : W.heap.size = s) : (W.alloc (.cells cs t)).cell? ⟨s, j, none⟩ = cs[j]? := by
  subst hs
  have h := World.alloc_heap_new W (.cells cs t)
  exact cell_of_row (W.alloc (.cells cs t)) W.heap.size j cs t (0, 0) h
theorem add_at (g t j : Nat) : (⟨g, t, none⟩ : Addr).add j = ⟨g, t + j, none⟩ := by
  by_cases h0 : j = 0
  · subst h0; simp [Addr.add]
  · simp [Addr.add, h0]

/-- Passing n bytes of what is left. -/
theorem TT.pass (h : TT w W p l F q0 a out ts r ln cn fuel) (n f : Nat) (hn : n ≤ r.length) (hk : KAt W' p (r.drop n) (adv (r.take n) (ln, cn)).1 (adv (r.take n) (ln, cn)).2) (hr : Rest (fun i => i = p) W W')
    (he : scanG F l q0 = pre ts (scanG f (r.drop n) (adv (r.take n) (ln, cn)))) (hf : r.length - n < f) : TT w W' p l F q0 a out ts (r.drop n) (adv (r.take n) (ln, cn)).1 (adv (r.take n) (ln, cn)).2 f := by
  have h1 := h.pw
  have h2 := h.ab
  have a1 := adv_one (r.take n) (ln, cn)
  have a2 := adv_two (r.take n) (ln, cn) h.c1
  rw [List.length_take, Nat.min_eq_left hn] at a1 a2
  simp only at a1 a2
  have b1 := h.bl
  have b2 := h.bc
  have b3 := h.few
  exact ⟨hk, hr.row h.row (fun k hk e => by have := row_ge h.row k hk; omega), h.kd.rest hr (by omega), h.rs.trans hr (fun _ _ e => e), h1, h2, Nat.le_trans h.wW hr.size, by rw [List.length_drop]; exact hf, he, by rw [List.length_drop]; omega, by rw [List.length_drop]; omega, by rw [List.length_drop]; omega, a2.1⟩
end

theorem Try.info36 : (Try.prog.info? 36).map (fun i => (i.zero, i.size, i.bytes)) = some (some (.agg #[.int .i64 0, .string ⟨#[]⟩, .int .i64 0, .int .i64 0, .int .i64 0]), 5, 48) := by kernel_rfl

set_option maxRecDepth 100000 in
set_option maxHeartbeats 3200000 in
theorem tokens_any (p ln cn F : Nat) (l : List UInt8) (w : World) (h : KAt w p l ln cn) (hF : l.length < F) (h1 : ln ≤ 1048576) (h2 : cn ≤ 1048576) (hc1 : 1 ≤ cn) (h3 : l.length ≤ 1048576) :
    Calls Try.prog 50 #[.pointer (some ⟨p, 0, none⟩)] w (ToksR (scanG F l (ln, cn)) w p) := by
  obtain ⟨R, hR⟩ : ∃ R, scanG F l (ln, cn) = R := ⟨_, rfl⟩
  have hal := (Below.refl w.heap.size w).alloc (Nat.le_refl _) (.cells #[.func (.func 55) #[.pointer (some ⟨p, 0, none⟩)] #[], .func (.func 56) #[.pointer (some ⟨p, 0, none⟩)] #[], .func (.func 57) #[.pointer (some ⟨p, 0, none⟩)] #[], .func (.func 58) #[.pointer (some ⟨p, 0, none⟩)] #[]] 101)
  have hkd : KindsAt (w.alloc (.cells #[.func (.func 55) #[.pointer (some ⟨p, 0, none⟩)] #[], .func (.func 56) #[.pointer (some ⟨p, 0, none⟩)] #[], .func (.func 57) #[.pointer (some ⟨p, 0, none⟩)] #[], .func (.func 58) #[.pointer (some ⟨p, 0, none⟩)] #[]] 101)) ⟨w.heap.size, 0, none⟩ p := by
    intro k hk
    rw [add_at, cell_new_at w _ 101 _ _ rfl, Nat.zero_add]
    match k, hk with
    | 0, _ => rfl
    | 1, _ => rfl
    | 2, _ => rfl
    | 3, _ => rfl
  have hsz : (w.alloc (.cells #[.func (.func 55) #[.pointer (some ⟨p, 0, none⟩)] #[], .func (.func 56) #[.pointer (some ⟨p, 0, none⟩)] #[], .func (.func 57) #[.pointer (some ⟨p, 0, none⟩)] #[], .func (.func 58) #[.pointer (some ⟨p, 0, none⟩)] #[]] 101)).heap.size = w.heap.size + 1 := by simp
  obtain ⟨w1, hw1⟩ : ∃ w1, w.alloc (.cells #[.func (.func 55) #[.pointer (some ⟨p, 0, none⟩)] #[], .func (.func 56) #[.pointer (some ⟨p, 0, none⟩)] #[], .func (.func 57) #[.pointer (some ⟨p, 0, none⟩)] #[], .func (.func 58) #[.pointer (some ⟨p, 0, none⟩)] #[]] 101) = w1 := ⟨_, rfl⟩
  rw [hw1] at hal hkd hsz
  obtain ⟨a, ha⟩ : ∃ a : Addr, (⟨w.heap.size, 0, none⟩ : Addr) = a := ⟨_, rfl⟩
  rw [ha] at hkd
  have hT0 : TT w w1 p l F (ln, cn) a (.slice none 0 0) [] l ln cn F := ⟨h.below hal h.lt, ⟨by simp [tokCells], .inl ⟨rfl, rfl⟩⟩, hkd, Rest.below hal, h.lt, by rw [← ha], by omega, hF, by rw [pre_nil], by simp, Nat.le_refl _, Nat.le_refl _, hc1⟩
  rw [hR]
  have HR := Lib.hid hR
  have T0 := Lib.hid hT0
  have W1 := Lib.hid hw1
  have HA := Lib.hid ha
  obtain ⟨i0, hi, hz0, hz1, hz2⟩ := info_parts Try.info36
  have HI := Lib.hid hi
  clear hR h hal hkd hsz hw1 ha hT0 hi
  go_enter Try.func50, Try.ntmps50
  go_wp2_with fail
  refine wp_scope_straight ?_
  go_wp2_with fail
  refine wp_label ?_
  go_wp2_with fail
  rw [W1.out, HA.out]
  go_loopw [3] (fun out wr => ∃ ts r ln' cn' fuel, TT w wr p l F (ln, cn) a out ts r ln' cn' fuel) (fun _ wr => restLen p wr)
  case atStart => exact ⟨[], l, ln, cn, F, T0.out⟩
  case round =>
    obtain ⟨ts, r, ln', cn', fuel, hT⟩ := hrel
    obtain ⟨A, c, rfl⟩ := row_shape hT.row
    obtain ⟨f, rfl⟩ : ∃ f, fuel = f + 1 := ⟨fuel - 1, by have := hT.fu; omega⟩
    have hbl := hT.bl
    have hbc := hT.bc
    have hfw := hT.few
    have hm0 := hT.k.restLen
    have HB := Lib.hid (run_class p ln' cn' r 60 isBlank Try.ent60 blank_any wr hT.k (by omega) (by omega) (by omega))
    have T := Lib.hid hT
    have HM0 := Lib.hid hm0
    have BB := Lib.hid (show ln' ≤ 2097152 ∧ cn' ≤ 2097152 ∧ r.length ≤ 1048576 by omega)
    clear hT hbl hbc hfw hm0
    go_wp2_with fail
    refine HB.out.mono ?_
    rintro e w2 ⟨rfl, hk2, hr2⟩
    have hT2 := T.out.pass (spanP isBlank r) (f + 1) (spanP_le _ _) hk2 hr2 (by rw [← scanG_blank]; exact T.out.eq) (by have := T.out.fu; omega)
    have hs0 := spanP_drop isBlank r
    have hlr : (r.drop (spanP isBlank r)).length ≤ r.length := by rw [List.length_drop]; omega
    generalize r.drop (spanP isBlank r) = r1 at hT2 hs0 hlr
    obtain ⟨q1, hq1⟩ : ∃ q, adv (r.take (spanP isBlank r)) (ln', cn') = q := ⟨_, rfl⟩
    rw [hq1] at hT2
    generalize strL (r.take (spanP isBlank r)) = tx0
    have hst := scanG_step f r1 (q1.1, q1.2) hs0
    have HE := Lib.hid (ended_any p _ _ r1 w2 hT2.k)
    have HF2 := Lib.hid (first_any p _ _ r1 w2 hT2.k)
    have T2 := Lib.hid hT2
    have HLR := Lib.hid hlr
    clear hk2 hr2 hT2 hs0 hlr hq1 HB
    cases hr1 : r1 with
    | nil =>
      rw [hr1] at hst HE T2
      have hfin : R = .ok ts q1 := by
        rw [← HR.out, T2.out.eq, hst]
        simp [pre]
      have HFIN := Lib.hid hfin
      clear hst hfin hr1
      go_wp2_with (go_at_call 61; refine HE.out.mono ?_; rintro e w' ⟨rfl, rfl⟩)
      simp only [Exit.noGoto]
      go_ret
      have hfin := HFIN.out
      subst hfin
      exact ⟨T2.out.rs, _, rfl, T2.out.row, T2.out.k⟩
    | cons b0 r0 =>
      have hne : r1.isEmpty = false := by rw [hr1]; rfl
      rw [hne] at hst HE
      simp only [Bool.false_eq_true, if_false] at hst
      clear hne hr1
      by_cases h35 : firstOf r1 = 35
      · rw [if_pos h35] at hst
        have hcn := com_n h35
        have bl2 := T2.out.bl
        have bc2 := T2.out.bc
        have fw2 := T2.out.few
        have HC := Lib.hid (run_class p _ _ r1 63 isCom Try.ent63 com_any w2 T2.out.k (by simp only at bl2; omega) (by simp only at bc2; omega) (by omega))
        rw [h35] at HF2
        have HST := Lib.hid hst
        have HCN := Lib.hid hcn
        clear hst hcn bl2 bc2 fw2 h35
        go_wp2_with (first | (go_at_call 61; refine HE.out.mono ?_; rintro e w' ⟨rfl, rfl⟩) | (go_at_call 62; refine HF2.out.mono ?_; rintro e w' ⟨rfl, rfl⟩))
        refine HC.out.mono ?_
        rintro e w3 ⟨rfl, hk3, hr3⟩
        have hT3 := T2.out.pass (spanP isCom r1) f (spanP_le _ _) hk3 hr3 (by rw [T2.out.eq, HST.out]) (by have := T2.out.fu; have := HCN.out; have := spanP_le isCom r1; omega)
        have T3 := Lib.hid hT3
        generalize strL (r1.take (spanP isCom r1)) = tx1
        clear hk3 hr3 hT3 HC
        go_wp2_with fail
        go_roundw
        case rel => exact ⟨ts, _, _, _, f, T3.out⟩
        case measure =>
          rw [T3.out.k.restLen, HM0.out, List.length_drop]
          have := HCN.out
          have := HLR.out
          have := spanP_le isCom r1
          omega
      · rw [if_neg h35] at hst
        have bl2 := T2.out.bl
        have bc2 := T2.out.bc
        have fw2 := T2.out.few
        have HTK := Lib.hid (token_any p _ _ r1 a w2 T2.out.k T2.out.kd (by have := T2.out.ab; have := T2.out.pw; omega) (by simp only at bl2; omega) (by simp only at bc2; omega) (by omega))
        have HST := Lib.hid hst
        generalize firstOf r1 = y at HF2 h35
        have hz : (((y : Nat) : Int) == 35) = false := by simpa using (by omega : ¬ ((y : Nat) : Int) = 35)
        clear hst bl2 bc2 fw2
        go_wp2_with (first | (go_at_call 61; refine HE.out.mono ?_; rintro e w' ⟨rfl, rfl⟩) | (go_at_call 62; refine HF2.out.mono ?_; rintro e w' ⟨rfl, rfl⟩))
        refine HTK.out.mono ?_
        rintro e w3 ⟨hr3, hm3⟩
        cases htk : tokR r1 with
        | no => exact absurd htk (tok_no r1)
        | bad m =>
          have hst := HST.out
          rw [htk] at hst hm3
          have hfin : R = .bad (adv (r1.take m) q1) (codeOf (r1.drop m)) := by rw [← HR.out, T2.out.eq, hst]; rfl
          unfold Fails at hm3
          subst hm3
          subst hfin
          exact ⟨rfl, T2.out.rs.trans hr3 (fun _ _ e => e), rfl⟩
        | ok kk tx v n =>
          have hst := HST.out
          rw [htk] at hst hm3
          obtain ⟨he, hk3⟩ := hm3
          unfold tokV at he
          subst he
          have hnn := tok_n htk
          have hal := (Below.refl w3.heap.size w3).alloc (Nat.le_refl _) (.cells #[.int .i64 kk, .string (strL tx), .int .i64 v, .int .i64 q1.1, .int .i64 q1.2] 36)
          have hcn : ∀ j u, (TokD.cells ⟨kk, tx, v, q1.1, q1.2⟩)[j]? = some u → (w3.alloc (.cells #[.int .i64 kk, .string (strL tx), .int .i64 v, .int .i64 q1.1, .int .i64 q1.2] 36)).cell? ((⟨w3.heap.size, 0, none⟩ : Addr).add j) = some u := fun j u hu => by
            rw [add_at, Nat.zero_add, cell_new_at w3 _ 36 _ j rfl]
            simpa [TokD.cells] using hu
          have hone : ∀ u ∈ TokD.cells ⟨kk, tx, v, q1.1, q1.2⟩, u.oneCell' = true := fun u hu => by
            simp only [TokD.cells, List.mem_cons, List.not_mem_nil, or_false] at hu
            rcases hu with rfl | rfl | rfl | rfl | rfl <;> rfl
          have hrow3 := Rest.row (S := fun _ => False) (Rest.below hal) (hr3.row T2.out.row (fun k hk e => by have := row_ge T2.out.row k hk; have := T2.out.pw; omega)) (fun _ _ e => e)
          have hkA := hk3.below hal hk3.lt
          have hkdA := (T2.out.kd.rest hr3 (by have := T2.out.ab; have := T2.out.pw; omega)).rest (S := fun _ => False) (Rest.below hal) (fun e => e)
          have hrsA := (T2.out.rs.trans hr3 (fun _ _ e => e)).trans (Rest.below (S := fun _ => False) hal) (fun _ _ e => e.elim)
          have hszA := Nat.le_trans T2.out.wW (Nat.le_trans hr3.size hal.size)
          have HCN := Lib.hid hcn
          have HONE := Lib.hid hone
          have HROW := Lib.hid hrow3
          have KA := Lib.hid hkA
          have KDA := Lib.hid hkdA
          have RSA := Lib.hid hrsA
          have SZA := Lib.hid hszA
          have NN := Lib.hid hnn
          have HST2 := Lib.hid hst
          have TL := Lib.hid (show ts.length ≤ 1048576 by have := T2.out.few; omega)
          clear hk3 hst hnn hal hcn hone hrow3 hkA hkdA hrsA hszA htk hr3 HTK
          go_wp2_with (at_builtin; go_must (refine wpList_append_own_at _ rfl _ _ 23 rfl (w.heap.size + 1) 36 i0 (.agg #[.int .i64 0, .string ⟨#[]⟩, .int .i64 0, .int .i64 0, .int .i64 0]) 5 48 Try.underlying23 HI.out hz0 hz1 hz2 rfl (by decide) _ _ _ rfl HROW.out ⟨w3.heap.size, 0, none⟩ 1 1 (TokD.cells ⟨kk, tx, v, q1.1, q1.2⟩) rfl rfl HCN.out HONE.out (by have := TL.out; unfold maxLen; omega) (by have := TL.out; omega) SZA.out ?_); go_must (intro v1 w4 hown1 hgrow1 _ _); have HO := Lib.hid hown1; have HG := Lib.hid hgrow1; clear hown1 hgrow1)
          have hr4 : Rest (fun q => some q = (Value.slice A ts.length c).ownBlock) _ w4 := (Rest.refl _ _).grown HG.out (fun q e _ => e.symm)
          have hge : ∀ q, some q = (Value.slice A ts.length c).ownBlock → w.heap.size + 1 ≤ q := fun q e => row_ge T2.out.row q e.symm
          have hpw := T2.out.pw
          have hab := T2.out.ab
          have a1 := adv_one (r1.take n) (q1.1, q1.2)
          have a2 := adv_two (r1.take n) (q1.1, q1.2) T2.out.c1
          rw [List.length_take, Nat.min_eq_left NN.out.2] at a1 a2
          simp only at a1 a2
          have b1 := T2.out.bl
          have b2 := T2.out.bc
          have b3 := T2.out.few
          have b4 := T2.out.fu
          have b5 := NN.out
          have hk4 := KA.out.rest hr4 (fun e => by have := hge p e; omega)
          refine ⟨⟨ts ++ [⟨kk, tx, v, q1.1, q1.2⟩], r1.drop n, _, _, f, hk4, ?_, KDA.out.rest hr4 (fun e => by have := hge _ e; omega), RSA.out.trans hr4 (fun q hq e => by have := hge q e; omega), hpw, hab, Nat.le_trans SZA.out hr4.size, ?_, ?_, ?_, ?_, ?_, a2.1⟩, ?_⟩
          · rw [tokCells_snoc, List.length_append]
            exact HO.out
          · rw [List.length_drop]; omega
          · rw [T2.out.eq, HST2.out, pre_pre]
          · rw [List.length_append, List.length_drop]; simp; omega
          · rw [List.length_drop]; simp only; omega
          · rw [List.length_drop]; simp only; omega
          · rw [hk4.restLen, HM0.out, List.length_drop]
            have := HLR.out
            omega
end Go.Proofs.Ytgdjfifnnhfonaa
