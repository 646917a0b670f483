/- A source is in the state of the document's: is returns true. Conditions: both lie in memory, and the source's buffer is the document's rest. -/
import Derived.Test.YtociidinfdbaeaaWn
namespace Go.Proofs.Ytociidinfdbaeaa
open Go.RowKit Go.Shelf

theorem peek_all {L : Nat} {B : List Nat} {C : Bool} (h : B.length ≤ L) : peekCode L B.length C (B.length : Nat) = 0 := by
  unfold peekCode
  rw [if_neg (by omega), if_neg (by omega), if_neg (by omega)]

theorem peek_whole {w : World} {p L T : Nat} {v : Value} {B : List Nat} {C : Bool} (h : SAt w p v B L T C) :
    Calls Try.prog 27 #[.pointer (some ⟨p, 0, none⟩), .int .i64 (B.length : Nat)] w fun e w' => ∃ a d, e = .returned (.tuple #[.slice a B.length d, .int .i64 0]) ∧ SrcAt w' (.slice a B.length d) B ∧ Below w.heap.size w w' := by
  refine (peek_any p v B L T (B.length : Nat) C w h).mono ?_
  rintro e w' ⟨b, rfl, hf⟩
  rw [peek_all h.fit] at hf ⊢
  rw [if_pos rfl, Int.toNat_natCast, List.take_length] at hf
  obtain ⟨a, d, rfl⟩ := row_shape hf.1
  exact ⟨a, d, rfl, hf.src, hf.2.1⟩

set_option maxRecDepth 100000 in
set_option maxHeartbeats 3200000 in
theorem is_any (p L : Nat) (v : Value) (A : Option Addr) (c : Nat) (s : St) (w : World) (h : SAt w p v s.B L s.T s.C) (hF : SrcAt w (.slice A s.F.length c) s.F) (hc : s.F.length ≤ c) (hT : s.T ≤ s.F.length) (h256 : ∀ y ∈ s.F, y < 256) (hFl : s.F.length ≤ 1000000) :
    Calls Try.prog 14 #[.pointer (some ⟨p, 0, none⟩), refV L A s.F.length c s.T s.C] w fun e w' => e = .returned (.bool true) ∧ Below w.heap.size w w' := by
  have HL := fun wx (hx : Below w.heap.size w wx) => Lib.hid (refLeft_any L c s.T A s.F s.C wx (hF.below hx hF.lt) hc hT)
  have hB256 : ∀ y ∈ s.B, y < 256 := fun y hy => h256 y (List.mem_of_mem_drop hy)
  have HB256 := Lib.hid hB256
  have hBl : s.B.length ≤ 1000000 := by unfold St.B; rw [List.length_drop]; omega
  have hfit := h.fit
  have hmax := h.max
  have HH := Lib.hid h
  obtain ⟨B, hB⟩ : ∃ B, s.B = B := ⟨_, rfl⟩
  have hB' : s.F.drop s.T = B := hB
  simp only [hB, hB'] at HL hB256 HB256 hBl hfit HH
  obtain ⟨F, T, C⟩ := s
  clear h hF hc hT h256 hFl hB hB' hB256
  simp only at *
  cases C
  case false =>
    go_enter Try.func14, Try.ntmps14
    go_wp2_with fail
    refine ((HL _ ((Below.refl _ _).alloc (Nat.le_refl _) _)).out).mono ?_
    rintro e w1 ⟨a, d, rfl, hp, hd, hb⟩
    have hq1 := (qbox_new w _ _ _ _).below hb (by simp)
    have hb1 : Below w.heap.size w w1 := ((Below.refl _ _).alloc (Nat.le_refl _) _).trans (hb.mono (by simp))
    have HB1 := Lib.hid hb1
    have H1 := Lib.hid (HH.out.below hb1)
    have HQ1 := Lib.hid hq1
    obtain ⟨q, hq⟩ : ∃ q, w.heap.size = q := ⟨_, rfl⟩
    simp only [hq] at hq1 HQ1 ⊢
    have EQ := Lib.hid hq
    have k0 := hq1.c0
    have k1 := hq1.c1
    have k2 := hq1.c2
    have k3 := hq1.c3
    clear hp hd hb hb1 hq1 hq
    go_wp2_with fail
    have hdz : (!(B.length == 0) == (((B.length : Nat) : Int) == 0)) = false := by cases B <;> simp <;> omega
    go_quiet (first | (go_at_call 22; exact quiet_same (left_any p v B L T _ _ (H1.out.drewN _))) | (go_at_call 25; exact quiet_left (room_any p v B L T _ _ (H1.out.drewN _))) | (go_at_call 21; exact quiet_same (offset_any p v B L T _ _ (H1.out.drewN _))) | (go_at_call 26; exact quiet_same (ended_any p v B L T _ _ (H1.out.drewN _))))
    go_wp2_with fail
    refine (peek_whole (H1.out.drewN nq)).mono ?_
    rintro e w2 ⟨a2, d2, rfl, hs, hb⟩
    have hb2 : Below w1.heap.size w1 w2 := (below_drewN w1 nq).trans hb
    have hq2 := HQ1.out.below hb2 HQ1.out.lt
    have HS := Lib.hid hs
    have HQ2 := Lib.hid hq2
    have HB2 := Lib.hid (HB1.out.trans (hb2.mono HB1.out.size))
    have KEEP : ∀ wy, Below w2.heap.size w2 wy → wy.cell? ⟨q, 0, none⟩ = some (.int .i64 L) ∧ wy.cell? ⟨q, 1, none⟩ = some (.slice A F.length c) ∧ wy.cell? ⟨q, 2, none⟩ = some (.int .i64 T) ∧ wy.cell? ⟨q, 3, none⟩ = some (.bool false) ∧ (convert 29 9 (.slice a2 B.length d2)).run Try.prog wy = .ok (.string (strOf B)) wy := fun wy hy => by
      have h := hq2.below hy hq2.lt
      exact ⟨h.c0, h.c1, h.c2, h.c3, conv_src (hs.below hy hs.lt) HB256.out⟩
    have KEEP := Lib.hid KEEP
    clear hs hb hb2 hq2 k0 k1 k2 k3 hdz
    go_wp2_with fail
    go_region_held (fun w' => w'.cell? ⟨q, 0, none⟩ = some (.int .i64 L) ∧ w'.cell? ⟨q, 1, none⟩ = some (.slice A F.length c) ∧ w'.cell? ⟨q, 2, none⟩ = some (.int .i64 T) ∧ w'.cell? ⟨q, 3, none⟩ = some (.bool false) ∧ (convert 29 9 (.slice a2 B.length d2)).run Try.prog w' = .ok (.string (strOf B)) w') (first | exact KEEP.out _ (Below.refl _ _).drew | exact KEEP.out _ HBC.out) (first | (go_at_call 16; refine ((HL _ (HB2.out.drew)).out).mono ?_; rintro e w3 ⟨a3, d3, rfl, hp, hd, hb⟩; have HBC := Lib.hid ((Below.refl _ _).drew.trans hb); have hcn : (convert 29 9 (.slice a3 B.length d3)).run Try.prog w3 = .ok (.string (strOf B)) w3 := conv_src hp.1 HB256.out; clear hp hd hb))
    go_wp2
    go_ret
    exact ⟨rfl, HB2.out.trans (HBC.out.mono HB2.out.size)⟩
  case true =>
    go_enter Try.func14, Try.ntmps14
    go_wp2_with fail
    refine ((HL _ ((Below.refl _ _).alloc (Nat.le_refl _) _)).out).mono ?_
    rintro e w1 ⟨a, d, rfl, hp, hd, hb⟩
    have hq1 := (qbox_new w _ _ _ _).below hb (by simp)
    have hb1 : Below w.heap.size w w1 := ((Below.refl _ _).alloc (Nat.le_refl _) _).trans (hb.mono (by simp))
    have HB1 := Lib.hid hb1
    have H1 := Lib.hid (HH.out.below hb1)
    have HQ1 := Lib.hid hq1
    obtain ⟨q, hq⟩ : ∃ q, w.heap.size = q := ⟨_, rfl⟩
    simp only [hq] at hq1 HQ1 ⊢
    have EQ := Lib.hid hq
    have k0 := hq1.c0
    have k1 := hq1.c1
    have k2 := hq1.c2
    have k3 := hq1.c3
    clear hp hd hb hb1 hq1 hq
    go_wp2_with fail
    have hdz : (!(B.length == 0) == (((B.length : Nat) : Int) == 0)) = false := by cases B <;> simp <;> omega
    go_quiet (first | (go_at_call 22; exact quiet_same (left_any p v B L T _ _ (H1.out.drewN _))) | (go_at_call 25; exact quiet_left (room_any p v B L T _ _ (H1.out.drewN _))) | (go_at_call 21; exact quiet_same (offset_any p v B L T _ _ (H1.out.drewN _))) | (go_at_call 26; exact quiet_same (ended_any p v B L T _ _ (H1.out.drewN _))))
    go_wp2_with fail
    refine (peek_whole (H1.out.drewN nq)).mono ?_
    rintro e w2 ⟨a2, d2, rfl, hs, hb⟩
    have hb2 : Below w1.heap.size w1 w2 := (below_drewN w1 nq).trans hb
    have hq2 := HQ1.out.below hb2 HQ1.out.lt
    have HS := Lib.hid hs
    have HQ2 := Lib.hid hq2
    have HB2 := Lib.hid (HB1.out.trans (hb2.mono HB1.out.size))
    have KEEP : ∀ wy, Below w2.heap.size w2 wy → wy.cell? ⟨q, 0, none⟩ = some (.int .i64 L) ∧ wy.cell? ⟨q, 1, none⟩ = some (.slice A F.length c) ∧ wy.cell? ⟨q, 2, none⟩ = some (.int .i64 T) ∧ wy.cell? ⟨q, 3, none⟩ = some (.bool true) ∧ (convert 29 9 (.slice a2 B.length d2)).run Try.prog wy = .ok (.string (strOf B)) wy := fun wy hy => by
      have h := hq2.below hy hq2.lt
      exact ⟨h.c0, h.c1, h.c2, h.c3, conv_src (hs.below hy hs.lt) HB256.out⟩
    have KEEP := Lib.hid KEEP
    clear hs hb hb2 hq2 k0 k1 k2 k3 hdz
    go_wp2_with fail
    go_region_held (fun w' => w'.cell? ⟨q, 0, none⟩ = some (.int .i64 L) ∧ w'.cell? ⟨q, 1, none⟩ = some (.slice A F.length c) ∧ w'.cell? ⟨q, 2, none⟩ = some (.int .i64 T) ∧ w'.cell? ⟨q, 3, none⟩ = some (.bool true) ∧ (convert 29 9 (.slice a2 B.length d2)).run Try.prog w' = .ok (.string (strOf B)) w') (first | exact KEEP.out _ (Below.refl _ _).drew | exact KEEP.out _ HBC.out) (first | (go_at_call 16; refine ((HL _ (HB2.out.drew)).out).mono ?_; rintro e w3 ⟨a3, d3, rfl, hp, hd, hb⟩; have HBC := Lib.hid ((Below.refl _ _).drew.trans hb); have hcn : (convert 29 9 (.slice a3 B.length d3)).run Try.prog w3 = .ok (.string (strOf B)) w3 := conv_src hp.1 HB256.out; clear hp hd hb))
    go_wp2
    go_ret
    exact ⟨rfl, HB2.out.trans (HBC.out.mono HB2.out.size)⟩
end Go.Proofs.Ytociidinfdbaeaa
