/- Until at any number of bytes, and Skip of a source. Conditions: the source lies in memory; fewer than 2^62 bytes have been taken. -/
import Derived.Test.YtociidinfdbaeaaH
import Derived.RangeFuncBox
namespace Go.Proofs.Ytociidinfdbaeaa
open Go.RowKit Go.Shelf

set_option maxRecDepth 100000 in
set_option maxHeartbeats 800000 in
theorem until_any (p : Nat) (v : Value) (B : List Nat) (L T x : Nat) (n : Int) (C : Bool) (w : World) (h : SAt w p v B L T C) (hT : T ≤ 4611686018427387904) :
    Calls Try.prog 20 #[.pointer (some ⟨p, 0, none⟩), .int .u8 x, .int .i64 n] w (TookN p v B L T C (untilCode L B C x n) (untilB L B C x n) (untilK L B C x n) w) := by
  by_cases hn : 0 ≤ n ∧ n ≤ (L : Int) - 1
  · obtain ⟨m, rfl⟩ : ∃ m : Nat, n = m := ⟨n.toNat, by omega⟩
    obtain ⟨ao, cap, rfl, _, _⟩ := h.buf.form
    exact until_in p ao cap B L T x m C w h hn.2 hT
  · have HR := Lib.hid (refused_any p L n 1 w h.pos (by omega) (by omega) h.max h.c1)
    have hc : untilCode L B C x n = refCode L n 1 := by
      unfold untilCode refCode
      split
      · rfl
      · rw [if_pos (by omega), if_pos (by omega)]
    have hcn : refCode L n 1 = 2 ∨ refCode L n 1 = 3 := by
      unfold refCode
      split
      · exact .inl rfl
      · rw [if_pos (by omega)]; exact .inr rfl
    have hcz : untilCode L B C x n ≠ 0 := by rw [hc]; omega
    have h1 : untilB L B C x n = [] := if_neg hcz
    have h2 : untilK L B C x n = 0 := if_neg hcz
    rw [h1, h2, hc]
    obtain ⟨d, hd⟩ : ∃ d, refCode L n 1 = d := ⟨_, rfl⟩
    rw [hd] at HR hcn ⊢
    have H := Lib.hid h
    clear h hc hcz h1 h2 hd
    have hdz : (d != 0) = true := by rcases hcn with rfl | rfl <;> rfl
    rcases hcn with rfl | rfl
    all_goals
      go_enter Try.func20, Try.ntmps20
      go_wp2_with (go_at_call 37; go_must (refine HR.out.mono ?_); rintro e w1 ⟨rfl, rfl⟩)
      go_ret2
      exact took_none H.out (Below.refl _ _)

set_option maxRecDepth 100000 in
set_option maxHeartbeats 800000 in
theorem skip1_any (s : Value) (b1 b2 p : Nat) (v : Value) (B : List Nat) (L T n : Nat) (C : Bool) (w : World) (h : SAt w p v B L T C) (hn : n ≤ B.length) (hT : T ≤ 4611686018427387904) (c1 : w.cell? ⟨b1, 0, none⟩ = some (.pointer (some ⟨p, 0, none⟩))) (c2 : w.cell? ⟨b2, 0, none⟩ = some (.int .i64 n)) :
    Calls Try.prog 39 #[s, .pointer (some ⟨b1, 0, none⟩), .pointer (some ⟨b2, 0, none⟩)] w fun e w' => ∃ c, e = .returned (.int .i64 c) ∧ (c = 0 ∧ Left p v B L T C n w w') := by
  have HP := Lib.hid (pass_any p v B L T n C w h hn hT)
  clear h
  go_enter Try.func39, Try.ntmps39
  go_wp2_with (go_at_call 40; go_must (refine HP.out.mono ?_); rintro e w1 ⟨rfl, v', hs, hk⟩; have HS := Lib.hid hs; have HK := Lib.hid hk; clear hs hk)
  go_ret
  exact ⟨0, rfl, rfl, v', HS.out, HK.out⟩

def box2 (w : World) (x1 x2 : Value) (t1 t2 : TypeId) : World := (w.alloc (.cells #[x1] t1)).alloc (.cells #[x2] t2)
theorem box2_below (w : World) (x1 x2 : Value) (t1 t2 : TypeId) : Below w.heap.size w (box2 w x1 x2 t1 t2) :=
  ((Below.refl _ w).alloc (Nat.le_refl _) _).alloc (by simp) _
theorem box2_1 (w : World) (x1 x2 : Value) (t1 t2 : TypeId) : Boxed (box2 w x1 x2 t1 t2) w.heap.size t1 x1 :=
  (Boxed.new w t1 x1).alloc _
theorem box2_2 (w : World) (x1 x2 : Value) (t1 t2 : TypeId) : Boxed (box2 w x1 x2 t1 t2) (w.heap.size + 1) t2 x2 := by
  have := Boxed.new (w.alloc (.cells #[x1] t1)) t2 x2
  rw [World.size_alloc] at this
  exact this
theorem boxed_below {W W' : World} {B t : Nat} {v : Value} {n : Nat} (h : Boxed W B t v) (hb : Below n W W') (hn : B < n) : Boxed W' B t v := (hb.block B hn).trans h

theorem Left.after {p : Nat} {v : Value} {B : List Nat} {L T : Nat} {C : Bool} {k : Nat} {w w1 w2 : World} (hb : Below w.heap.size w w1) (h : Left p v B L T C k w1 w2) : Left p v B L T C k w w2 := by
  obtain ⟨v', h1, h2⟩ := h
  exact ⟨v', h1, Keeps.after hb h2⟩

set_option maxRecDepth 100000 in
set_option maxHeartbeats 800000 in
theorem skip_any (p : Nat) (v : Value) (B : List Nat) (L T : Nat) (n : Int) (C : Bool) (w : World) (h : SAt w p v B L T C) (hT : T ≤ 4611686018427387904) :
    Calls Try.prog 17 #[.pointer (some ⟨p, 0, none⟩), .int .i64 n] w fun e w' => e = .returned (.int .i64 (peekCode L B.length C n)) ∧ Left p v B L T C (takeN (peekCode L B.length C n) n) w w' := by
  have hfit := h.fit
  have hmax := h.max
  have hb := box2_below w (.pointer (some ⟨p, 0, none⟩)) (.int .i64 n) 25 3
  have h' := h.below hb
  have b1 := (box2_1 w (.pointer (some ⟨p, 0, none⟩)) (.int .i64 n) 25 3).cell
  have b2 := (box2_2 w (.pointer (some ⟨p, 0, none⟩)) (.int .i64 n) 25 3).cell
  have HR := Lib.hid (refused_any p L n 0 _ h.pos (by omega) (by omega) h.max h'.c1)
  have H := Lib.hid h
  have H' := Lib.hid h'
  have HB := Lib.hid hb
  clear h h' hb
  by_cases h1 : refCode L n 0 = 0
  · obtain ⟨h00, h01⟩ := refCode_zero h1
    rw [h1] at HR
    by_cases h2 : (B.length : Int) < n
    · have HT := fun f => Lib.hid (there_no p v f B L T n C _ H'.out h2)
      have hc : peekCode L B.length C n = fewCode C := by unfold peekCode; rw [if_neg (by omega), if_neg (by omega), if_pos h2]
      have hk : takeN (fewCode C) n = 0 := if_neg (few_ne C)
      rw [hc, hk]
      clear h1 hc hk
      go_enter Try.func17, Try.ntmps17
      go_wp2_with (first | (go_at_call 37; go_must (refine HR.out.mono ?_); rintro e w1 ⟨rfl, rfl⟩) | (go_at_call 38; go_must (refine (HT _).out.mono ?_); rintro e w1 ⟨rfl, rfl⟩))
      go_ret
      exact ⟨rfl, Left.same H.out HB.out⟩
    · obtain ⟨m, rfl⟩ : ∃ m : Nat, n = m := ⟨n.toNat, by omega⟩
      have hm : m ≤ B.length := by omega
      have HT := Lib.hid (there_yes p v B L T m C _ H'.out hm 39 #[.pointer (some ⟨w.heap.size, 0, none⟩), .pointer (some ⟨w.heap.size + 1, 0, none⟩)] Try.ent39 (fun c w' => c = 0 ∧ Left p v B L T C m (box2 w (.pointer (some ⟨p, 0, none⟩)) (.int .i64 m) 25 3) w') (fun A _ _ => skip1_any _ _ _ p v B L T m C _ H'.out hm hT b1 b2))
      have hc : peekCode L B.length C m = 0 := by unfold peekCode; rw [if_neg (by omega), if_neg (by omega), if_neg h2]
      have hk : takeN 0 m = m := by unfold takeN; rw [if_pos rfl]; rfl
      rw [hc, hk]
      clear h1 hc hk
      go_enter Try.func17, Try.ntmps17
      go_wp2_with (first | (go_at_call 37; go_must (refine HR.out.mono ?_); rintro e w1 ⟨rfl, rfl⟩) | (go_at_call 38; go_must (refine HT.out.mono ?_); rintro e w1 ⟨c, rfl, rfl, hh⟩; have HH := Lib.hid hh; clear hh))
      go_ret
      exact ⟨rfl, Left.after HB.out HH.out⟩
  · have hc : peekCode L B.length C n = refCode L n 0 := by
      unfold refCode at h1 ⊢
      unfold peekCode
      split
      · rfl
      · rw [if_neg (by assumption)] at h1
        rw [Int.sub_zero] at h1 ⊢
        split
        · rfl
        · rw [if_neg (by assumption)] at h1
          exact absurd rfl h1
    have hk : takeN (refCode L n 0) n = 0 := if_neg h1
    rw [hc, hk]
    obtain ⟨d, hd⟩ : ∃ d, refCode L n 0 = d := ⟨_, rfl⟩
    rw [hd] at HR h1 ⊢
    have hdz : (d == 0) = false := by simpa using h1
    clear hc hk hd b1 b2
    go_enter Try.func17, Try.ntmps17
    go_wp2_with (first | (go_at_call 37; go_must (refine HR.out.mono ?_); rintro e w1 ⟨rfl, rfl⟩))
    go_ret
    exact ⟨rfl, Left.same H.out HB.out⟩
end Go.Proofs.Ytociidinfdbaeaa
