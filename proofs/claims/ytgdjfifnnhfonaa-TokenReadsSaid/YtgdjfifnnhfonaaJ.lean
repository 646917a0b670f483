/- token: a token at the beginning of a text, one of four kinds. Conditions: the scanner and its kinds lie in memory; its place and the text are far below the greatest number. -/
import Derived.Test.YtgdjfifnnhfonaaH
namespace Go.Proofs.Ytgdjfifnnhfonaa
open Go.RowKit Go.Shelf

/-- What the k-th kind finds. -/
def kindOf (l : List UInt8) (k : Nat) : TRes := match k with | 0 => wordR l | 1 => numberR l | 2 => quotedR l | _ => symR l
def firstR : List TRes → TRes
  | [] => .bad 0
  | .no :: rs => firstR rs
  | r :: _ => r
/-- The first token of a text. -/
def tokR (l : List UInt8) : TRes := firstR [wordR l, numberR l, quotedR l, symR l]

theorem firstR_cons (r : TRes) (rs : List TRes) (h : r ≠ .no) : firstR (r :: rs) = r := by cases r <;> first | rfl | exact absurd rfl h
theorem tokR_at (l : List UInt8) (k : Nat) (hk : k < 4) (hb : ∀ j, j < k → kindOf l j = .no) (h : kindOf l k ≠ .no) : tokR l = kindOf l k := by
  unfold tokR
  match k, hk with
  | 0, _ => exact firstR_cons _ _ h
  | 1, _ => rw [show wordR l = .no from hb 0 (by omega)]; exact firstR_cons _ _ h
  | 2, _ => rw [show wordR l = .no from hb 0 (by omega), show numberR l = .no from hb 1 (by omega)]; exact firstR_cons _ _ h
  | 3, _ => rw [show wordR l = .no from hb 0 (by omega), show numberR l = .no from hb 1 (by omega), show quotedR l = .no from hb 2 (by omega)]; exact firstR_cons _ _ h
theorem tokR_none (l : List UInt8) (hb : ∀ j, j < 4 → kindOf l j = .no) : tokR l = .bad 0 := by
  unfold tokR
  rw [show wordR l = .no from hb 0 (by omega), show numberR l = .no from hb 1 (by omega), show quotedR l = .no from hb 2 (by omega), show symR l = .no from hb 3 (by omega)]
  rfl

theorem Try.ent55 : ∀ args w, (callFunc 55 args).run Try.prog w = .ok (.enter 55 args) w := enters_of Try.func55 (by kernel_rfl) rfl
theorem Try.ent56 : ∀ args w, (callFunc 56 args).run Try.prog w = .ok (.enter 56 args) w := enters_of Try.func56 (by kernel_rfl) rfl
theorem Try.ent57 : ∀ args w, (callFunc 57 args).run Try.prog w = .ok (.enter 57 args) w := enters_of Try.func57 (by kernel_rfl) rfl
theorem Try.ent58 : ∀ args w, (callFunc 58 args).run Try.prog w = .ok (.enter 58 args) w := enters_of Try.func58 (by kernel_rfl) rfl

/-- One contract for the four kinds. -/
theorem kind_any (k : Nat) (hk : k < 4) : ∃ f : FuncId, f = 55 + k ∧ (∀ args w, (callFunc f args).run Try.prog w = .ok (.enter f args) w) ∧
    ∀ (p ln cn : Nat) (l : List UInt8) (w : World), KAt w p l ln cn → ln ≤ 549755813888 → cn ≤ 274877906944 → l.length ≤ 137438953472 →
      Calls Try.prog f #[.pointer (some ⟨p, 0, none⟩)] w (KindR (kindOf l k) w p ln cn l) := by
  match k, hk with
  | 0, _ => exact ⟨55, rfl, Try.ent55, fun p ln cn l w h h1 h2 h3 => word_any p ln cn l w h h1 (by omega) (by omega)⟩
  | 1, _ => exact ⟨56, rfl, Try.ent56, fun p ln cn l w h h1 h2 h3 => number_any p ln cn l w h h1 h2 h3⟩
  | 2, _ => exact ⟨57, rfl, Try.ent57, fun p ln cn l w h h1 h2 h3 => quoted_any p ln cn l w h h1 h2 h3⟩
  | 3, _ => exact ⟨58, rfl, Try.ent58, fun p ln cn l w h h1 h2 h3 => symbol_any p ln cn l w h h1 h2 h3⟩

/-- The four kinds of a scanner, in a row of memory. -/
def KindsAt (W : World) (a : Addr) (p : Nat) : Prop := ∀ k, k < 4 → W.cell? (a.add k) = some (.func (.func (55 + k)) #[.pointer (some ⟨p, 0, none⟩)] #[])
theorem KindsAt.rest {W W' : World} {S : Nat → Prop} {a : Addr} {p : Nat} (h : KindsAt W a p) (hr : Rest S W W') (hs : ¬ S a.block) : KindsAt W' a p := fun k hk => by
  have := h k hk
  exact (hr.cell (p := a.add k) (World.block_lt_of_cell? _ _ this) (by rw [add_block]; exact hs)).trans this

/-- What token's variables hold between two kinds. -/
structure TS (w W : World) (p : Nat) (l : List UInt8) (ln cn b : Nat) (a : Addr) : Prop where
  k : KAt W p l ln cn
  bx : TBox W b (.int .i64 0) (.string ⟨#[]⟩) (.int .i64 0) (.int .i64 0) (.int .i64 0)
  pl : W.heap[b + 1]? = some (.cells #[.int .i64 ln, .int .i64 cn] 25 (0, 0))
  kd : KindsAt W a p
  rs : Rest (fun i => i = p) w W
  pw : p < w.heap.size
  eb : w.heap.size = b
  ap : a.block ≠ p

section
variable {w W W' : World} {p ln cn b : Nat} {l : List UInt8} {a : Addr}
theorem TS.pl0 (h : TS w W p l ln cn b a) : W.cell? ⟨b + 1, 0, none⟩ = some (.int .i64 ln) := by simp [World.cell?, h.pl]
theorem TS.pl1 (h : TS w W p l ln cn b a) : W.cell? ⟨b + 1, 1, none⟩ = some (.int .i64 cn) := by simp [World.cell?, h.pl]
theorem TS.later (h : TS w W p l ln cn b a) (hk : KAt W' p l ln cn) (hr : Rest (fun i => i = p) W W') : TS w W' p l ln cn b a := by
  have h1 := h.pw
  have h2 := h.eb
  exact ⟨hk, h.bx.rest hr (by omega), (hr.block (b + 1) (Array.getElem?_eq_some_iff.1 h.pl).1 (by omega)).trans h.pl, h.kd.rest hr h.ap, h.rs.trans hr (fun _ _ e => e), h1, h2, h.ap⟩
theorem TS.alloc (h : TS w W p l ln cn b a) (o : Obj) : TS w (W.alloc o) p l ln cn b a :=
  h.later (h.k.below ((Below.refl _ _).alloc (Nat.le_refl _) o) h.k.lt) (Rest.below ((Below.refl _ _).alloc (Nat.le_refl _) o))
end

/-- What token answers. -/
def TokR (r : TRes) (w : World) (p ln cn : Nat) (l : List UInt8) (e : Ending) (w' : World) : Prop :=
  Rest (fun k => k = p) w w' ∧ match r with
  | .no => False
  | .ok k t v n => e = .returned (tokV k t v ln cn) ∧ KAt w' p (l.drop n) (adv (l.take n) (ln, cn)).1 (adv (l.take n) (ln, cn)).2
  | .bad m => Fails e (adv (l.take m) (ln, cn)) (codeOf (l.drop m))

set_option maxRecDepth 100000 in
set_option maxHeartbeats 3200000 in
theorem token_any (p ln cn : Nat) (l : List UInt8) (a : Addr) (w : World) (h : KAt w p l ln cn) (hkd : KindsAt w a p) (hap : a.block ≠ p) (h1 : ln ≤ 549755813888) (h2 : cn ≤ 274877906944) (h3 : l.length ≤ 137438953472) :
    Calls Try.prog 64 #[.pointer (some ⟨p, 0, none⟩), .slice (some a) 4 4] w (TokR (tokR l) w p ln cn l) := by
  obtain ⟨b, eb⟩ : ∃ b, w.heap.size = b := ⟨_, rfl⟩
  have hb0 : Below w.heap.size w ((w.alloc (.cells #[.int .i64 0, .string ⟨#[]⟩, .int .i64 0, .int .i64 0, .int .i64 0] 36)).alloc (.cells #[.int .i64 ln, .int .i64 cn] 25)) := ((Below.refl _ _).alloc (Nat.le_refl _) _).alloc (by simp) _
  have ht0 := (tbox_new w (.int .i64 0) (.string ⟨#[]⟩) (.int .i64 0) (.int .i64 0) (.int .i64 0)).below ((Below.refl _ _).alloc (Nat.le_refl _) (.cells #[.int .i64 ln, .int .i64 cn] 25)) (by simp)
  have hq0 : ((w.alloc (.cells #[.int .i64 0, .string ⟨#[]⟩, .int .i64 0, .int .i64 0, .int .i64 0] 36)).alloc (.cells #[.int .i64 ln, .int .i64 cn] 25)).heap[b + 1]? = some (.cells #[.int .i64 ln, .int .i64 cn] 25 (0, 0)) := by
    have := heap_alloc_new (w.alloc (.cells #[.int .i64 0, .string ⟨#[]⟩, .int .i64 0, .int .i64 0, .int .i64 0] 36)) (.cells #[.int .i64 ln, .int .i64 cn] 25)
    rw [World.size_alloc, eb] at this
    exact this
  have hk1 := h.below ((Below.refl _ _).alloc (Nat.le_refl _) (.cells #[.int .i64 0, .string ⟨#[]⟩, .int .i64 0, .int .i64 0, .int .i64 0] 36)) h.lt
  obtain ⟨w0, hw0⟩ : ∃ w0, (w.alloc (.cells #[.int .i64 0, .string ⟨#[]⟩, .int .i64 0, .int .i64 0, .int .i64 0] 36)).alloc (.cells #[.int .i64 ln, .int .i64 cn] 25) = w0 := ⟨_, rfl⟩
  rw [hw0] at hb0 ht0 hq0
  rw [eb] at ht0
  have hts : TS w w0 p l ln cn b a := ⟨h.below hb0 h.lt, ht0, hq0, hkd.rest (S := fun _ => False) (Rest.below hb0) (fun e => e), Rest.below hb0, h.lt, eb, hap⟩
  have c0 := hk1.c0
  have c1 := hk1.c1
  have HTS := Lib.hid hts
  have HW0 := Lib.hid hw0
  have EB := Lib.hid eb
  clear hb0 ht0 hq0 hk1 hw0 hts h hkd hap
  obtain ⟨R, hR⟩ : ∃ R, tokR l = R := ⟨_, rfl⟩
  rw [hR]
  have HR := Lib.hid hR
  clear hR eb
  go_enter Try.func64, Try.ntmps64
  go_upto_region 2 with fail
  rw [HW0.out, EB.out]
  clear c0 c1
  go_wp2_with fail
  go_loopw [16] (fun x wr => ∃ k : Nat, k ≤ 4 ∧ x = .int .i64 k ∧ (∀ j, j < k → kindOf l j = .no) ∧ TS w wr p l ln cn b a) (fun x _ => 4 - (intOf x).toNat)
  case atStart => exact ⟨0, Nat.zero_le _, rfl, fun j hj => absurd hj (Nat.not_lt_zero _), HTS.out⟩
  case round =>
    obtain ⟨k, hk4, rfl, hall, hT⟩ := hrel
    have T := Lib.hid hT
    have ALL := Lib.hid hall
    by_cases hlt : k < 4
    · obtain ⟨f, hf, ef, hcall⟩ := kind_any k hlt
      have hc := hT.kd k hlt
      rw [← hf] at hc
      have HC := Lib.hid (hcall p ln cn l wr hT.k h1 h2 h3)
      clear hT hall hcall hf
      go_wp2_with fail
      refine HC.out.mono ?_
      rintro e w2 ⟨hr, hm⟩
      cases hkr : kindOf l k with
      | no =>
        rw [hkr] at hm
        obtain ⟨he, hk2⟩ := hm
        unfold tokV at he
        subst he
        have T2 := Lib.hid (T.out.later hk2 hr)
        have HKR := Lib.hid hkr
        clear hr hk2 hkr HC hc
        go_wp2_with fail
        go_roundw
        case rel =>
          refine ⟨k + 1, hlt, by go_num, fun j hj => ?_, T2.out.alloc _⟩
          by_cases e : j = k
          · subst e; exact HKR.out
          · exact ALL.out j (by omega)
        case measure => simp [intOf]; omega
      | ok kk tx v n =>
        rw [hkr] at hm
        obtain ⟨he, hk2⟩ := hm
        unfold tokV at he
        subst he
        have hRR : R = .ok kk tx v n := by rw [← HR.out, tokR_at l k hlt ALL.out (by rw [hkr]; simp), hkr]
        have HRR := Lib.hid hRR
        have hb2 : b < w2.heap.size := by have := (T.out.bx.rest hr (by have := T.out.pw; have := T.out.eb; omega)).lt; omega
        have hbx := T.out.bx.rest hr (by have := T.out.pw; have := T.out.eb; omega)
        have hpl := (hr.block (b + 1) (Array.getElem?_eq_some_iff.1 T.out.pl).1 (by have := T.out.pw; have := T.out.eb; omega)).trans T.out.pl
        have hal := (Below.refl w2.heap.size w2).alloc (Nat.le_refl _) (.cells #[.int .i64 kk, .string (strL tx), .int .i64 v, .int .i64 0, .int .i64 0] 36)
        have hk3 := hk2.below hal hk2.lt
        have hbx3 := hbx.below hal hbx.lt
        have hpl3 := (hal.block (b + 1) (Array.getElem?_eq_some_iff.1 hpl).1).trans hpl
        have htn := tbox_new w2 (.int .i64 kk) (.string (strL tx)) (.int .i64 v) (.int .i64 0) (.int .i64 0)
        have hrw := (T.out.rs.trans hr (fun _ _ e => e)).trans (Rest.below (S := fun _ => False) hal) (fun _ _ e => e.elim)
        obtain ⟨nb, enb⟩ : ∃ nb, w2.heap.size = nb := ⟨_, rfl⟩
        obtain ⟨w3, hw3⟩ : ∃ w3, w2.alloc (.cells #[.int .i64 kk, .string (strL tx), .int .i64 v, .int .i64 0, .int .i64 0] 36) = w3 := ⟨_, rfl⟩
        rw [hw3] at hk3 hbx3 hpl3 htn hrw
        rw [enb] at htn
        have HW3 := Lib.hid hw3
        have ENB := Lib.hid enb
        have TN := Lib.hid htn
        have BX := Lib.hid hbx3
        have K3 := Lib.hid hk3
        have RW3 := Lib.hid hrw
        have PL := Lib.hid hpl3
        have HBN := Lib.hid (show b + 1 < nb by have := (Array.getElem?_eq_some_iff.1 hpl).1; omega)
        clear hkr hk2 hbx hpl hal hk3 hbx3 hpl3 htn hrw enb hw3 hRR hb2 hr hc HC
        go_upto_region 6 with fail
        rw [HW3.out, ENB.out]
        have q0 : w3.cell? ⟨b + 1, 0, none⟩ = some (.int .i64 ln) := by simp [World.cell?, PL.out]
        have q1 : w3.cell? ⟨b + 1, 1, none⟩ = some (.int .i64 cn) := by simp [World.cell?, PL.out]
        have d3 := TN.out.c3
        have d4 := TN.out.c4
        have f3 := TN.out.fr 3
        have f4 := TN.out.fr 4
        go_upto_region 8 with fail
        have hr4 : Rest (fun i => i = nb) w3 ((w3.setCell ⟨nb, 3, none⟩ (.int .i64 ln)).setCell ⟨nb, 4, none⟩ (.int .i64 cn)) := ((Rest.refl (fun i => i = nb) w3).setCell (S := fun i => i = nb) (p := ⟨nb, 3, none⟩) (fun _ => rfl) _).setCell (S := fun i => i = nb) (p := ⟨nb, 4, none⟩) (fun _ => rfl) _
        have ht4 := (TN.out.set3 (.int .i64 ln)).set4 (.int .i64 cn)
        generalize (w3.setCell ⟨nb, 3, none⟩ (.int .i64 ln)).setCell ⟨nb, 4, none⟩ (.int .i64 cn) = w4 at hr4 ht4 ⊢
        have hbx4 := BX.out.rest hr4 (by have := HBN.out; omega)
        have BX4 := Lib.hid hbx4
        have K4 := Lib.hid (K3.out.rest hr4 (by have := HBN.out; have := T.out.pw; have := T.out.eb; omega))
        have RW4 := Lib.hid (RW3.out.trans hr4 (fun i hi e => by have := HBN.out; have := T.out.eb; omega))
        have d0 := ht4.c0
        have d1 := ht4.c1
        have d2 := ht4.c2
        have d3 := ht4.c3
        have d4 := ht4.c4
        have c0 := hbx4.c0
        have c1 := hbx4.c1
        have c2 := hbx4.c2
        have c3 := hbx4.c3
        have c4 := hbx4.c4
        have g0 := hbx4.fr 0
        have g1 := hbx4.fr 1
        have g2 := hbx4.fr 2
        have g3 := hbx4.fr 3
        have g4 := hbx4.fr 4
        clear hr4 ht4 hbx4 q0 q1 f3 f4
        go_wp2_with fail
        obtain ⟨hs1, hs2⟩ := set5 BX4.out (.int .i64 kk) (.string (strL tx)) (.int .i64 v) (.int .i64 ln) (.int .i64 cn)
        generalize (((((w4.setCell ⟨b, 0, none⟩ (.int .i64 kk)).setCell ⟨b, 1, none⟩ (.string (strL tx))).setCell ⟨b, 2, none⟩ (.int .i64 v)).setCell ⟨b, 3, none⟩ (.int .i64 ln)).setCell ⟨b, 4, none⟩ (.int .i64 cn)) = w5 at hs1 hs2 ⊢
        have e0 := hs1.c0
        have e1 := hs1.c1
        have e2 := hs1.c2
        have e3 := hs1.c3
        have e4 := hs1.c4
        have hRR := HRR.out
        subst hRR
        refine bodyPost_ret (by simp [results, Try.results64, go_sem, *]; try rfl) rfl ?_
        exact ⟨RW4.out.trans hs2 (fun i hi e => by have := T.out.eb; omega), rfl, K4.out.rest hs2 (by have := T.out.eb; have := T.out.pw; omega)⟩
      | bad m =>
        rw [hkr] at hm
        have hRR : R = .bad m := by rw [← HR.out, tokR_at l k hlt ALL.out (by rw [hkr]; simp), hkr]
        have hrw := T.out.rs.trans hr (fun _ _ e => e)
        unfold Fails at hm
        subst hm
        subst hRR
        exact ⟨rfl, hrw, rfl⟩
    · obtain rfl : k = 4 := by omega
      have hRR : R = .bad 0 := by rw [← HR.out, tokR_none l hall]
      have HWR := Lib.hid (wrong_any p ln cn l wr hT.k)
      have HRR := Lib.hid hRR
      clear hT hall hlt hk4 hRR
      go_wp2_with (go_at_call 74; refine HWR.out.mono ?_; rintro e w3 ⟨rfl, hb3⟩)
      have hRR := HRR.out
      subst hRR
      exact ⟨rfl, T.out.rs.trans (Rest.below (S := fun _ => False) hb3) (fun _ _ e => e.elim), rfl⟩
end Go.Proofs.Ytgdjfifnnhfonaa
