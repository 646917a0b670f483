/- Take, Skip, Close and Feed of a source. Conditions: the source lies in memory; fewer than 2^62 bytes have been taken; the chunk's bytes lie in memory. -/
import Derived.Test.YtociidinfdbaeaaE
namespace Go.Proofs.Ytociidinfdbaeaa
open Go.RowKit Go.Shelf

/-- What a call that may take bytes leaves: k bytes have been taken. -/
def Left (p : Nat) (v : Value) (B : List Nat) (L T : Nat) (C : Bool) (k : Nat) (w w' : World) : Prop :=
  ∃ v', SAt w' p v' (B.drop k) L (T + k) C ∧ Keeps p v v' w w'

theorem Left.same {p : Nat} {v : Value} {B : List Nat} {L T : Nat} {C : Bool} {w w' : World} (h : SAt w p v B L T C) (hb : Below w.heap.size w w') : Left p v B L T C 0 w w' :=
  ⟨v, by simpa using h.below hb, Keeps.below hb⟩

/-- What Take and Until leave: new bytes, and a source of which k have been taken. -/
def TookN (p : Nat) (v : Value) (B : List Nat) (L T : Nat) (C : Bool) (c : Int) (N : List Nat) (k : Nat) (w : World) (e : Ending) (w' : World) : Prop :=
  ∃ s, e = .returned (.tuple #[s, .int .i64 c]) ∧ w'.ownsRow w.heap.size 5 1 s N.length (u8s N) ∧ (s = .slice none 0 0 ∨ ∃ g c, s = .slice (some ⟨g, 0, none⟩) N.length c) ∧ Left p v B L T C k w w'

def takeB (c n : Int) (B : List Nat) : List Nat := if c = 0 then B.take n.toNat else []
def takeN (c n : Int) : Nat := if c = 0 then n.toNat else 0

set_option maxRecDepth 100000 in
set_option maxHeartbeats 800000 in
theorem take_any (p : Nat) (v : Value) (B : List Nat) (L T : Nat) (n : Int) (C : Bool) (w : World) (h : SAt w p v B L T C) (hT : T ≤ 4611686018427387904) :
    Calls Try.prog 19 #[.pointer (some ⟨p, 0, none⟩), .int .i64 n] w (TookN p v B L T C (peekCode L B.length C n) (takeB (peekCode L B.length C n) n B) (takeN (peekCode L B.length C n) n) w) := by
  have HP := Lib.hid (peek_any p v B L T n C w h)
  have H := Lib.hid h
  clear h
  by_cases hc : peekCode L B.length C n = 0
  · obtain ⟨h0, h1⟩ := peekCode_zero hc
    obtain ⟨m, rfl⟩ : ∃ m : Nat, n = m := ⟨n.toNat, by omega⟩
    have hm : m ≤ B.length := by omega
    have HCD := Lib.hid hc
    rw [hc]
    clear hc
    go_enter Try.func19, Try.ntmps19
    go_wp2_with fail
    refine HP.out.mono ?_
    rintro e w1 ⟨s, rfl, hf⟩
    rw [HCD.out, if_pos rfl, Int.toNat_natCast] at hf
    rw [HCD.out]
    have HS := fun w => Lib.hid (pass_any p v B L T m C w)
    have HF := Lib.hid hf
    have hs1 := H.out.below hf.2.1
    have HS1 := Lib.hid (pass_any p v B L T m C w1 hs1 hm hT)
    rcases hf.2.2 with rfl | ⟨g, c, rfl⟩
    all_goals
      clear hf hs1
      go_wp2_with (go_at_call 40; go_must (refine HS1.out.mono ?_); rintro e w2 ⟨rfl, v', hs, hk⟩; have HSS := Lib.hid hs; have HK := Lib.hid hk; clear hs hk)
      go_ret2
      refine ⟨_, rfl, ?_, ?_, v', by simpa [takeN] using HSS.out, Keeps.after HF.out.2.1 HK.out⟩
      · have := HK.out.rest.row HF.out.1 (fun k hk hm => by
          have h1 := (HF.out.1.lt k hk).1
          rcases hm with e | e
          · have := H.out.lt; omega
          · have := H.out.buf.lt k e; omega)
        have e1 : takeB 0 (m : Int) B = B.take m := rfl
        rw [e1]
        have hlm : (B.take m).length = m := by rw [List.length_take]; omega
        rw [hlm] at this ⊢
        exact this
      · first
        | exact .inl rfl
        | exact .inr ⟨g, c, by rw [show (takeB 0 (m : Int) B).length = m from by show (B.take m).length = m; rw [List.length_take]; omega]; rfl⟩
  · obtain ⟨cc, hcc⟩ : ∃ c, peekCode L B.length C n = c := ⟨_, rfl⟩
    rw [hcc] at hc ⊢
    have HCD := Lib.hid hc
    have HCC := Lib.hid hcc
    have hnz : (cc == 0) = false := by simpa using hc
    clear hc hcc
    go_enter Try.func19, Try.ntmps19
    go_wp2_with fail
    refine HP.out.mono ?_
    rintro e w1 ⟨s, rfl, hf⟩
    rw [HCC.out] at hf ⊢
    rw [if_neg HCD.out] at hf
    have HF := Lib.hid hf
    have hs : s = .slice none 0 0 ∨ ∃ g c, s = .slice (some ⟨g, 0, none⟩) 0 c := hf.2.2
    rcases hs with rfl | ⟨g, c, rfl⟩
    all_goals
      clear hf
      go_wp2
      go_ret2
      refine ⟨_, rfl, ?_, ?_, ?_⟩
      · simpa [takeB, HCD.out] using HF.out.1
      · first
        | exact .inl rfl
        | exact .inr ⟨g, _, by simp [takeB, HCD.out]; rfl⟩
      · rw [takeN, if_neg HCD.out]
        exact Left.same H.out HF.out.2.1

/-- The error of Feed. -/
def feedCode (L m : Nat) (C : Bool) (k : Nat) : Int := if C then 8 else if L < m + k then 7 else 0

set_option maxRecDepth 100000 in
set_option maxHeartbeats 800000 in
theorem feed_any (p : Nat) (v x : Value) (B N : List Nat) (L T : Nat) (C : Bool) (w : World) (h : SAt w p v B L T C) (hx : SrcAt w x N) :
    Calls Try.prog 18 #[.pointer (some ⟨p, 0, none⟩), x] w fun e w' => e = .returned (.int .i64 (feedCode L B.length C N.length)) ∧ ∃ v', SAt w' p v' (if feedCode L B.length C N.length = 0 then B ++ N else B) L T C ∧ SStep p v v' w w' := by
  have HN := Lib.hid (none_no p L w h.pos h.c1)
  have HR := Lib.hid (room_any p v B L T C w h)
  have HP := Lib.hid (put_any p v x B N L T C)
  have hfit := h.fit
  have c3 := h.c3
  have H := Lib.hid h
  have HX := Lib.hid hx
  obtain ⟨ao, cap, hv⟩ : ∃ ao cap, x = .slice ao N.length cap := by
    rcases hx with ⟨rfl, rfl⟩ | ⟨a, c, rfl, _⟩
    · exact ⟨_, _, rfl⟩
    · exact ⟨_, _, rfl⟩
  subst hv
  clear h hx
  cases C
  · by_cases hl : L < B.length + N.length
    · have hc : feedCode L B.length false N.length = 7 := by simp [feedCode, hl]
      rw [hc]
      have HC := Lib.hid hc
      have hgt : (N.length : Int) > (L : Int) - B.length := by omega
      clear hc
      go_enter Try.func18, Try.ntmps18
      go_wp2_with (first | (go_at_call 30; go_must (refine HN.out.mono ?_); rintro e w1 ⟨rfl, rfl⟩) | (go_at_call 25; go_must (refine HR.out.mono ?_); rintro e w1 ⟨rfl, n, rfl⟩))
      go_ret
      exact ⟨rfl, v, H.out.rest (S := fun _ => False) ⟨rfl, rfl, rfl, Nat.le_refl _, fun _ _ _ => rfl⟩ (fun e => e) (fun _ _ e => e), SStep.below ⟨rfl, rfl, rfl, Nat.le_refl _, fun _ _ => rfl⟩⟩
    · have hc : feedCode L B.length false N.length = 0 := by simp [feedCode, hl]
      rw [hc]
      have HC := Lib.hid hc
      have hgt : ¬ ((N.length : Int) > (L : Int) - B.length) := by omega
      have HP1 := fun n => Lib.hid (HP.out (w.drewN n) (H.out.rest (S := fun _ => False) ⟨rfl, rfl, rfl, Nat.le_refl _, fun _ _ _ => rfl⟩ (fun e => e) (fun _ _ e => e)) (HX.out.rest (S := fun _ => False) ⟨rfl, rfl, rfl, Nat.le_refl _, fun _ _ _ => rfl⟩ (fun _ _ e => e)) (by omega))
      clear hc
      go_enter Try.func18, Try.ntmps18
      go_wp2_with (first | (go_at_call 30; go_must (refine HN.out.mono ?_); rintro e w1 ⟨rfl, rfl⟩) | (go_at_call 25; go_must (refine HR.out.mono ?_); rintro e w1 ⟨rfl, n, rfl⟩) | (go_at_call 41; go_must (refine (HP1 _).out.mono ?_); rintro e w2 ⟨rfl, v', hs, hk⟩; have HS := Lib.hid hs; have HK := Lib.hid hk; clear hs hk))
      go_ret
      exact ⟨rfl, v', HS.out, ⟨HK.out.rest.os, HK.out.rest.tape, HK.out.rest.output, HK.out.rest.size, HK.out.rest.block⟩, HK.out.own⟩
  · have hc : feedCode L B.length true N.length = 8 := by simp [feedCode]
    rw [hc]
    clear hc
    go_enter Try.func18, Try.ntmps18
    go_wp2_with (first | (go_at_call 30; go_must (refine HN.out.mono ?_); rintro e w1 ⟨rfl, rfl⟩))
    go_ret
    exact ⟨rfl, v, H.out, SStep.refl _ _ _⟩

set_option maxRecDepth 100000 in
set_option maxHeartbeats 800000 in
theorem close_any (p : Nat) (v : Value) (B : List Nat) (L T : Nat) (C : Bool) (w : World) (h : SAt w p v B L T C) :
    Calls Try.prog 28 #[.pointer (some ⟨p, 0, none⟩)] w fun e w' => e = .returned (.int .i64 (if C then 8 else 0)) ∧ SAt w' p v B L T true ∧ Keeps p v v w w' := by
  have HN := Lib.hid (none_no p L w h.pos h.c1)
  have c3 := h.c3
  have f3 := h.fr 3
  have H := Lib.hid h
  clear h
  cases C
  · go_enter Try.func28, Try.ntmps28
    go_wp2_with (first | (go_at_call 30; go_must (refine HN.out.mono ?_); rintro e w1 ⟨rfl, rfl⟩))
    go_ret
    exact ⟨rfl, ⟨heap_setCell_same w p 3 _ 57 _ H.out.obj, H.out.buf.setCell H.out.ne _, H.out.ne, H.out.fit, H.out.pos, H.out.max⟩, (Rest.refl (Mine p v) w).setCell (p := ⟨p, 3, none⟩) (fun _ => .inl rfl) _, fun k hk => hk⟩
  · go_enter Try.func28, Try.ntmps28
    go_wp2_with (first | (go_at_call 30; go_must (refine HN.out.mono ?_); rintro e w1 ⟨rfl, rfl⟩))
    go_ret
    exact ⟨rfl, H.out, Rest.refl _ _, fun k hk => hk⟩
end Go.Proofs.Ytociidinfdbaeaa
