/- The document's answers on a source: New, Left, few, Peek, Take, Close. Conditions: the bytes that were fed lie in memory, and the number of those that were taken is not above theirs. -/
import Derived.Test.YtociidinfdbaeaaTw
namespace Go.Proofs.Ytociidinfdbaeaa
open Go.RowKit Go.Shelf

/-- A source of the document: its limit, all bytes fed, how many were taken, whether it is closed. -/
abbrev refV (L : Nat) (A : Option Addr) (n c T : Nat) (C : Bool) : Value := .agg #[.int .i64 L, .slice A n c, .int .i64 T, .bool C]

/-- A part of a slice: where it lies, and its bytes. -/
def PartOf (w : World) (A : Option Addr) (n c : Nat) (a : Option Addr) (d : Nat) (N : List Nat) : Prop :=
  SrcAt w (.slice a N.length d) N ∧ N.length ≤ d ∧ ∀ k, (Value.slice a N.length d).ownBlock = some k → (Value.slice A n c).ownBlock = some k

theorem PartOf.later {w w' : World} {A : Option Addr} {n c : Nat} {a : Option Addr} {d : Nat} {N : List Nat} (h : PartOf w A n c a d N) (hb : Below w.heap.size w w') : PartOf w' A n c a d N :=
  ⟨h.1.below hb h.1.lt, h.2⟩

theorem PartOf.stay {w w' : World} {A : Option Addr} {n c : Nat} {a : Option Addr} {d m : Nat} {N : List Nat} (h : PartOf w A n c a d N) (hb : Below m w w') (hA : ∀ k, (Value.slice A n c).ownBlock = some k → k < m) : PartOf w' A n c a d N :=
  ⟨h.1.below hb (fun k hk => hA k (h.2.2 k hk)), h.2⟩

theorem src_len {w : World} {A : Option Addr} {n c : Nat} {F : List Nat} (h : SrcAt w (.slice A n c) F) : n = F.length := by
  rcases h with ⟨e, rfl⟩ | ⟨a, c', e, _⟩
  · simp only [Value.slice.injEq] at e; exact e.2.1
  · simp only [Value.slice.injEq] at e; exact e.2.1

theorem part_sub {w : World} {A : Option Addr} {n c : Nat} {F : List Nat} (h : SrcAt w (.slice A n c) F) (hnc : n ≤ c) (lo m : Nat) (hlo : lo + m ≤ n) (N : List Nat) (hN : (F.drop lo).take m = N) :
    N.length = m ∧ PartOf w A n c (if c = lo then A else A.map (·.add lo)) (c - lo) N := by
  have hn := src_len h
  have hl : N.length = m := by rw [← hN, List.length_take, List.length_drop]; omega
  refine ⟨hl, ?_, by omega, fun k hk => ?_⟩
  · have := sub_src h hnc lo m hlo
    rw [hN] at this
    rw [hl]
    exact this
  · cases A with
    | none => split at hk <;> simp [Value.ownBlock] at hk
    | some a =>
      split at hk
      · simpa [Value.ownBlock] using hk
      · simp only [Option.map_some, Value.ownBlock, add_block] at hk ⊢
        exact hk

set_option maxRecDepth 100000 in
set_option maxHeartbeats 800000 in
theorem refFew_any (L n c T : Nat) (A : Option Addr) (C : Bool) (w : World) :
    Calls Try.prog 51 #[refV L A n c T C] w fun e w' => e = .returned (.int .i64 (fewCode C)) ∧ Below w.heap.size w w' := by
  unfold refV
  cases C
  all_goals
    go_enter Try.func51, Try.ntmps51
    go_wp2
    go_ret
    exact ⟨rfl, (Below.refl _ _).alloc (Nat.le_refl _) _⟩

set_option maxRecDepth 100000 in
set_option maxHeartbeats 800000 in
theorem refLeft_any (L c T : Nat) (A : Option Addr) (F : List Nat) (C : Bool) (w : World) (hF : SrcAt w (.slice A F.length c) F) (hc : F.length ≤ c) (hT : T ≤ F.length) :
    Calls Try.prog 16 #[refV L A F.length c T C] w fun e w' => ∃ a d, e = .returned (.slice a (F.drop T).length d) ∧ PartOf w' A F.length c a d (F.drop T) ∧ d ≤ c ∧ Below w.heap.size w w' := by
  obtain ⟨hl, hp⟩ := part_sub hF hc T (F.length - T) (by omega) (F.drop T) (by rw [List.take_of_length_le]; rw [List.length_drop]; omega)
  obtain ⟨AX, hAX⟩ : ∃ AX, (if c = T then A else A.map (·.add T)) = AX := ⟨_, rfl⟩
  rw [hAX] at hp
  have HP := Lib.hid hp
  have HL := Lib.hid hl
  clear hp hF hl
  unfold refV
  go_enter Try.func16, Try.ntmps16
  go_wp2
  go_ret
  refine ⟨AX, c - T, by rw [HL.out]; rfl, HP.out.later ?_, Nat.sub_le _ _, ?_⟩
  all_goals exact (Below.refl _ _).alloc (Nat.le_refl _) _

set_option maxRecDepth 100000 in
set_option maxHeartbeats 800000 in
theorem refNew_any (L : Int) (w : World) :
    Calls Try.prog 11 #[.int .i64 L] w fun e w' => (if 1 ≤ L ∧ L ≤ 1048576 then e = .returned (.tuple #[.agg #[.int .i64 L, .slice none 0 0, .int .i64 0, .bool false], .int .i64 0]) else e = .returned (.tuple #[.agg #[.int .i64 0, .slice none 0 0, .int .i64 0, .bool false], .int .i64 2])) ∧ Below w.heap.size w w' := by
  by_cases h : 1 ≤ L ∧ L ≤ 1048576
  · simp only [if_pos h]
    obtain ⟨h1, h2⟩ := h
    go_enter Try.func11, Try.ntmps11
    go_wp2
    (try simp only [Exit.inBlock, Exit.then]); refine bodyPost_ret (by simp [results, Try.results11, go_sem]; try rfl) rfl ?_
    exact ⟨rfl, (Below.refl _ _).alloc (Nat.le_refl _) _⟩
  · simp only [if_neg h]
    go_enter Try.func11, Try.ntmps11
    go_wp2
    all_goals first | omega | skip
    all_goals (try simp only [Exit.inBlock, Exit.then]); refine bodyPost_ret (by simp [results, Try.results11, go_sem]; try rfl) rfl ?_
    all_goals exact ⟨rfl, (Below.refl _ _).alloc (Nat.le_refl _) _⟩

/-- Four values in a variable: a source of the document. -/
structure QBox (W : World) (q : Nat) (x0 x1 x2 x3 : Value) : Prop where
  blk : W.heap[q]? = some (.cells #[x0, x1, x2, x3] 31 (0, 0))

section
variable {W W' : World} {q : Nat} {x0 x1 x2 x3 : Value}
theorem QBox.lt (h : QBox W q x0 x1 x2 x3) : q < W.heap.size := (Array.getElem?_eq_some_iff.1 h.blk).1
theorem QBox.c0 (h : QBox W q x0 x1 x2 x3) : W.cell? ⟨q, 0, none⟩ = some x0 := by simp [World.cell?, h.blk]
theorem QBox.c1 (h : QBox W q x0 x1 x2 x3) : W.cell? ⟨q, 1, none⟩ = some x1 := by simp [World.cell?, h.blk]
theorem QBox.c2 (h : QBox W q x0 x1 x2 x3) : W.cell? ⟨q, 2, none⟩ = some x2 := by simp [World.cell?, h.blk]
theorem QBox.c3 (h : QBox W q x0 x1 x2 x3) : W.cell? ⟨q, 3, none⟩ = some x3 := by simp [World.cell?, h.blk]
theorem QBox.fr (h : QBox W q x0 x1 x2 x3) (o : Nat) : W.frozen? ⟨q, o, none⟩ = false := by simp [World.frozen?, h.blk]
theorem QBox.below {m : Nat} (h : QBox W q x0 x1 x2 x3) (hb : Below m W W') (hm : q < m) : QBox W' q x0 x1 x2 x3 := ⟨(hb.block q hm).trans h.blk⟩
theorem qbox_new (w : World) (x0 x1 x2 x3 : Value) : QBox (w.alloc (.cells #[x0, x1, x2, x3] 31)) w.heap.size x0 x1 x2 x3 := ⟨heap_alloc_new w _⟩
theorem qbox_next (w : World) (o : Obj) (x0 x1 x2 x3 : Value) : QBox ((w.alloc o).alloc (.cells #[x0, x1, x2, x3] 31)) (w.heap.size + 1) x0 x1 x2 x3 := ⟨by have := heap_alloc_new (w.alloc o) (.cells #[x0, x1, x2, x3] 31); rwa [World.size_alloc] at this⟩
theorem QBox.alloc (h : QBox W q x0 x1 x2 x3) (o : Obj) : QBox (W.alloc o) q x0 x1 x2 x3 := h.below ((Below.refl _ _).alloc (Nat.le_refl _) o) h.lt
end

/-- What Peek of the document answers. -/
def RefPeek (w : World) (A : Option Addr) (n c : Nat) (code : Int) (N : List Nat) (e : Ending) (w' : World) : Prop :=
  ∃ a d, e = .returned (.tuple #[.slice a N.length d, .int .i64 code]) ∧ PartOf w' A n c a d N ∧ Below w.heap.size w w'

theorem part_nil (w : World) (A : Option Addr) (n c : Nat) : PartOf w A n c none 0 [] := ⟨.inl ⟨rfl, rfl⟩, Nat.le_refl _, fun k hk => by simp [Value.ownBlock] at hk⟩

theorem takeB_ne {c n : Int} {B : List Nat} (h : c ≠ 0) : takeB c n B = [] := if_neg h
theorem takeN_ne {c n : Int} (h : c ≠ 0) : takeN c n = 0 := if_neg h

theorem PartOf.trans {w : World} {A : Option Addr} {n c : Nat} {a : Option Addr} {d m : Nat} {b : Option Addr} {d2 : Nat} {N : List Nat} (h : PartOf w a m d b d2 N) (hk : ∀ k, (Value.slice a m d).ownBlock = some k → (Value.slice A n c).ownBlock = some k) : PartOf w A n c b d2 N :=
  ⟨h.1, h.2.1, fun k e => hk k (h.2.2 k e)⟩

theorem part_take {w : World} {A : Option Addr} {n c : Nat} {a : Option Addr} {d : Nat} {B : List Nat} (h : PartOf w A n c a d B) {m : Nat} (hm : m ≤ B.length) : (B.take m).length = m ∧ PartOf w A n c a d (B.take m) := by
  have hl : (B.take m).length = m := by rw [List.length_take]; omega
  refine ⟨hl, ?_, by have := h.2.1; omega, fun k hk => h.2.2 k ?_⟩
  · rcases h.1 with ⟨e, rfl⟩ | ⟨x, c', e, hx, hc⟩
    · simp only [Value.slice.injEq] at e
      obtain ⟨rfl, _, rfl⟩ := e
      simp at hm
      subst hm
      exact .inl ⟨rfl, rfl⟩
    · simp only [Value.slice.injEq] at e
      obtain ⟨rfl, _, rfl⟩ := e
      refine .inr ⟨x, d, rfl, hx, fun j u hu => hc j u ?_⟩
      have hj := (List.getElem?_eq_some_iff.1 hu).1
      rw [u8s_length, hl] at hj
      rw [← hu]
      simp [u8s, hj]
  · cases a
    · simp [Value.ownBlock] at hk
    · simpa [Value.ownBlock] using hk

set_option maxRecDepth 100000 in
set_option maxHeartbeats 1600000 in
theorem refPeek_any (L c T : Nat) (n : Int) (A : Option Addr) (F : List Nat) (C : Bool) (w : World) (hF : SrcAt w (.slice A F.length c) F) (hc : F.length ≤ c) (hT : T ≤ F.length) :
    Calls Try.prog 47 #[refV L A F.length c T C, .int .i64 n] w (RefPeek w A F.length c (peekCode L (F.drop T).length C n) (takeB (peekCode L (F.drop T).length C n) n (F.drop T))) := by
  have HL := fun wx (hx : Below w.heap.size w wx) => Lib.hid (refLeft_any L c T A F C wx (hF.below hx hF.lt) hc hT)
  by_cases h1 : n < 0
  · have e : peekCode L (F.drop T).length C n = 2 := by unfold peekCode; rw [if_pos h1]
    rw [e, takeB_ne (by decide)]
    clear hF hc hT e
    go_enter Try.func47, Try.ntmps47
    go_wp2
    go_ret2
    exact ⟨none, 0, rfl, part_nil _ _ _ _, (Below.refl _ _).alloc (Nat.le_refl _) _⟩
  · by_cases h2 : n > L
    · have e : peekCode L (F.drop T).length C n = 3 := by unfold peekCode; rw [if_neg h1, if_pos h2]
      rw [e, takeB_ne (by decide)]
      clear hF hc hT e
      go_enter Try.func47, Try.ntmps47
      go_wp2
      go_ret2
      exact ⟨none, 0, rfl, part_nil _ _ _ _, (Below.refl _ _).alloc (Nat.le_refl _) _⟩
    · by_cases h3 : ((F.drop T).length : Int) < n
      · have e : peekCode L (F.drop T).length C n = fewCode C := by unfold peekCode; rw [if_neg h1, if_neg h2, if_pos h3]
        rw [e, takeB_ne (few_ne C)]
        obtain ⟨B, hB⟩ : ∃ B, F.drop T = B := ⟨_, rfl⟩
        simp only [hB] at h3 HL
        clear hF hc hT e hB
        go_enter Try.func47, Try.ntmps47
        go_wp2_with fail
        refine ((HL _ ((Below.refl _ _).alloc (Nat.le_refl _) _)).out).mono ?_
        rintro e w1 ⟨a, d, rfl, hp, hd, hb⟩
        have hb1 : Below w.heap.size w w1 := ((Below.refl _ _).alloc (Nat.le_refl _) _).trans (hb.mono (by simp))
        have HB1 := Lib.hid hb1
        have HBX := Lib.hid hb
        clear hp hd hb1 hb
        have hbx := (qbox_new w (.int .i64 L) (.slice A F.length c) (.int .i64 T) (.bool C)).below HBX.out (by simp)
        have k0 := hbx.c0
        have k1 := hbx.c1
        have k2 := hbx.c2
        have k3 := hbx.c3
        clear hbx
        go_wp2_with fail
        refine (refFew_any L F.length c T A C _).mono ?_
        rintro e w2 ⟨rfl, hb⟩
        have HB2 := Lib.hid (HB1.out.trans (hb.mono HB1.out.size))
        clear hb
        go_wp2
        go_ret2
        exact ⟨none, 0, rfl, part_nil _ _ _ _, HB2.out⟩
      · have e : peekCode L (F.drop T).length C n = 0 := by unfold peekCode; rw [if_neg h1, if_neg h2, if_neg h3]
        obtain ⟨m, rfl⟩ := Int.eq_ofNat_of_zero_le (Int.not_lt.1 h1)
        have hm : m ≤ (F.drop T).length := by omega
        have hN : takeB 0 (m : Int) (F.drop T) = (F.drop T).take m := by unfold takeB; rw [if_pos rfl, Int.toNat_natCast]
        rw [e, hN]
        obtain ⟨B, hB⟩ : ∃ B, F.drop T = B := ⟨_, rfl⟩
        simp only [hB] at h3 HL hm ⊢
        clear hF hc hT e hN hB
        go_enter Try.func47, Try.ntmps47
        go_wp2_with fail
        refine ((HL _ ((Below.refl _ _).alloc (Nat.le_refl _) _)).out).mono ?_
        rintro e w1 ⟨a, d, rfl, hp, hd, hb⟩
        have hb1 : Below w.heap.size w w1 := ((Below.refl _ _).alloc (Nat.le_refl _) _).trans (hb.mono (by simp))
        have HB1 := Lib.hid hb1
        have hbx := (qbox_new w (.int .i64 L) (.slice A F.length c) (.int .i64 T) (.bool C)).below hb (by simp)
        have k0 := hbx.c0
        have k1 := hbx.c1
        have k2 := hbx.c2
        have k3 := hbx.c3
        clear hp hd hb1 hb hbx
        go_wp2_with fail
        refine ((HL _ HB1.out).out).mono ?_
        rintro e w2 ⟨a2, d2, rfl, hp, hd, hb⟩
        have HB2 := Lib.hid (HB1.out.trans (hb.mono HB1.out.size))
        obtain ⟨hl, hq⟩ := part_take hp hm
        have HQ := Lib.hid hq
        have HLN := Lib.hid hl
        have hmd : m ≤ d2 := by have := hp.2.1; omega
        clear hp hd hb hl hq
        go_wp2
        go_ret2
        exact ⟨a2, d2, by rw [HLN.out]; rfl, HQ.out, HB2.out⟩

/-- What Take and Until of the document answer. -/
def RefTook (w : World) (L : Nat) (A : Option Addr) (n c T : Nat) (C : Bool) (code : Int) (N : List Nat) (e : Ending) (w' : World) : Prop :=
  ∃ a d, e = .returned (.tuple #[refV L A n c T C, .slice a N.length d, .int .i64 code]) ∧ PartOf w' A n c a d N ∧ Below w.heap.size w w'

set_option maxRecDepth 100000 in
set_option maxHeartbeats 1600000 in
theorem refTake_any (L c T : Nat) (n : Int) (A : Option Addr) (F : List Nat) (C : Bool) (w : World) (hF : SrcAt w (.slice A F.length c) F) (hc : F.length ≤ c) (hT : T ≤ F.length) (hFl : F.length ≤ 1000000) :
    Calls Try.prog 48 #[refV L A F.length c T C, .int .i64 n] w (RefTook w L A F.length c (T + takeN (peekCode L (F.drop T).length C n) n) C (peekCode L (F.drop T).length C n) (takeB (peekCode L (F.drop T).length C n) n (F.drop T))) := by
  have HL := fun wx (hx : Below w.heap.size w wx) => Lib.hid (refPeek_any L c T n A F C wx (hF.below hx hF.lt) hc hT)
  have hz : peekCode L (F.drop T).length C n = 0 → 0 ≤ n ∧ T + n.toNat ≤ F.length := fun e => by
    obtain ⟨a, b⟩ := peekCode_zero e
    rw [List.length_drop] at b
    omega
  obtain ⟨code, hcode⟩ : ∃ code, peekCode L (F.drop T).length C n = code := ⟨_, rfl⟩
  simp only [hcode] at HL hz ⊢
  obtain ⟨N, hN⟩ : ∃ N, takeB code n (F.drop T) = N := ⟨_, rfl⟩
  simp only [hN] at HL ⊢
  have HZ := Lib.hid hz
  have HLT := Lib.hid hF.lt
  clear hz hcode hN hF
  go_enter Try.func48, Try.ntmps48
  go_wp2_with fail
  refine ((HL _ (((Below.refl _ _).alloc (Nat.le_refl _) _).alloc (by simp) _)).out).mono ?_
  rintro e w1 ⟨a, d, rfl, hp, hb⟩
  have hb1 : Below w.heap.size w w1 := (((Below.refl _ _).alloc (Nat.le_refl _) _).alloc (by simp) _).trans (hb.mono (by simp; omega))
  have hq1 := ((qbox_new w (.int .i64 L) (.slice A F.length c) (.int .i64 T) (.bool C)).alloc _).below hb (by simp; omega)
  have hq2 := (qbox_next w (.cells #[.int .i64 L, .slice A F.length c, .int .i64 T, .bool C] 31) (.int .i64 0) (.slice none 0 0) (.int .i64 0) (.bool false)).below hb (by simp)
  obtain ⟨q1, e1⟩ : ∃ q1, w.heap.size = q1 := ⟨_, rfl⟩
  obtain ⟨q2, e2⟩ : ∃ q2, q1 + 1 = q2 := ⟨_, rfl⟩
  have hne : q1 ≠ q2 := by omega
  have E1 := Lib.hid e1
  have E2 := Lib.hid e2
  have k0 := hq1.c0
  have k1 := hq1.c1
  have k2 := hq1.c2
  have k3 := hq1.c3
  have f2 := hq1.fr 2
  have l0 := hq2.c0
  have l1 := hq2.c1
  have l2 := hq2.c2
  have l3 := hq2.c3
  have g0 := hq2.fr 0
  have g1 := hq2.fr 1
  have g2 := hq2.fr 2
  have g3 := hq2.fr 3
  have HP := Lib.hid hp
  have HB := Lib.hid hb1
  clear hp hb hb1 hq1 hq2
  simp only [e1] at k0 k1 k2 k3 f2 l0 l1 l2 l3 g0 g1 g2 g3 ⊢
  simp only [e2] at l0 l1 l2 l3 g0 g1 g2 g3 ⊢
  clear HL e1 e2
  by_cases h0 : code = 0
  · obtain ⟨hn, hl⟩ := HZ.out h0
    obtain ⟨m, rfl⟩ := Int.eq_ofNat_of_zero_le hn
    rw [Int.toNat_natCast] at hl
    subst h0
    go_wp2
    (try simp only [Exit.inBlock, Exit.then]); refine bodyPost_ret (by simp [results, Try.results48, go_sem, *]; try rfl) rfl ?_
    have hb : Below w.heap.size w1 (((((w1.setCell ⟨q1, 2, none⟩ (.int .i64 ((T : Int) + m))).setCell ⟨q2, 0, none⟩ (.int .i64 L)).setCell ⟨q2, 1, none⟩ (.slice A F.length c)).setCell ⟨q2, 2, none⟩ (.int .i64 ((T : Int) + m))).setCell ⟨q2, 3, none⟩ (.bool C)) :=
      ((((((Below.refl _ _).setCell (by have := E1.out; show w.heap.size ≤ q1; omega) _).setCell (by have := E1.out; have := E2.out; show w.heap.size ≤ q2; omega) _).setCell (by have := E1.out; have := E2.out; show w.heap.size ≤ q2; omega) _).setCell (by have := E1.out; have := E2.out; show w.heap.size ≤ q2; omega) _).setCell (by have := E1.out; have := E2.out; show w.heap.size ≤ q2; omega) _)
    refine ⟨a, d, ?_, HP.out.stay hb HLT.out, HB.out.trans hb⟩
    simp [takeN]
  · have hq : (code == 0) = false := by simpa using h0
    go_wp2
    (try simp only [Exit.inBlock, Exit.then]); refine bodyPost_ret (by simp [results, Try.results48, go_sem, *]; try rfl) rfl ?_
    have hb : Below w.heap.size w1 ((((w1.setCell ⟨q2, 0, none⟩ (.int .i64 L)).setCell ⟨q2, 1, none⟩ (.slice A F.length c)).setCell ⟨q2, 2, none⟩ (.int .i64 (T : Int))).setCell ⟨q2, 3, none⟩ (.bool C)) :=
      (((((Below.refl _ _).setCell (by have := E1.out; have := E2.out; show w.heap.size ≤ q2; omega) _).setCell (by have := E1.out; have := E2.out; show w.heap.size ≤ q2; omega) _).setCell (by have := E1.out; have := E2.out; show w.heap.size ≤ q2; omega) _).setCell (by have := E1.out; have := E2.out; show w.heap.size ≤ q2; omega) _)
    refine ⟨a, d, ?_, HP.out.stay hb HLT.out, HB.out.trans hb⟩
    rw [takeN_ne h0]
    rfl
end Go.Proofs.Ytociidinfdbaeaa
