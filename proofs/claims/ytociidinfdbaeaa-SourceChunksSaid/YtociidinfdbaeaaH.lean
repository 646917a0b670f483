/- Until and Skip of a source. Conditions: the source lies in memory; fewer than 2^62 bytes have been taken. -/
import Derived.Test.YtociidinfdbaeaaG
namespace Go.Proofs.Ytociidinfdbaeaa
open Go.RowKit Go.Shelf

def untilI (x : Nat) (B : List Nat) (n : Int) : Int := idxRes x (B.take (n.toNat + 1))
/-- The error of Until. -/
def untilCode (L : Nat) (B : List Nat) (C : Bool) (x : Nat) (n : Int) : Int :=
  if n < 0 then 2 else if n > (L : Int) - 1 then 3 else if untilI x B n < 0 then (if (B.length : Int) < n + 1 then fewCode C else 5) else 0

theorem idxRes_lt {x : Nat} {B : List Nat} (h : ¬ idxRes x B < 0) : ∃ i : Nat, idxRes x B = i ∧ i < B.length := by
  unfold idxRes at h ⊢
  split
  · exact ⟨_, rfl, by assumption⟩
  · rw [if_neg (by assumption)] at h; omega

set_option maxRecDepth 100000 in
set_option maxHeartbeats 400000 in
theorem until1_any (s : Value) (w : World) : Calls Try.prog 43 #[s] w fun e w' => ∃ c, e = .returned (.int .i64 c) ∧ (c = 5 ∧ w = w') := by
  go_enter Try.func43, Try.ntmps43
  go_wp2
  go_ret
  exact ⟨5, rfl, rfl, rfl⟩

theorem SAt.drewN {w : World} {p : Nat} {v : Value} {B : List Nat} {L T : Nat} {C : Bool} (h : SAt w p v B L T C) (n : Nat) : SAt (w.drewN n) p v B L T C :=
  h.rest (S := fun _ => False) ⟨rfl, rfl, rfl, Nat.le_refl _, fun _ _ _ => rfl⟩ (fun e => e) (fun _ _ e => e)
theorem below_drewN (w : World) (n : Nat) : Below w.heap.size w (w.drewN n) := ⟨rfl, rfl, rfl, Nat.le_refl _, fun _ _ => rfl⟩

def untilB (L : Nat) (B : List Nat) (C : Bool) (x : Nat) (n : Int) : List Nat := if untilCode L B C x n = 0 then B.take (untilI x B n).toNat else []
def untilK (L : Nat) (B : List Nat) (C : Bool) (x : Nat) (n : Int) : Nat := if untilCode L B C x n = 0 then (untilI x B n).toNat + 1 else 0

theorem took_none {p : Nat} {v : Value} {B : List Nat} {L T : Nat} {C : Bool} {c : Int} {w w' : World} (h : SAt w p v B L T C) (hb : Below w.heap.size w w') : TookN p v B L T C c [] 0 w (.returned (.tuple #[.slice none 0 0, .int .i64 c])) w' :=
  ⟨_, rfl, World.ownsRow_nil _ _ _ _, .inl rfl, Left.same h hb⟩

set_option maxRecDepth 100000 in
set_option maxHeartbeats 1600000 in
theorem until_in (p : Nat) (ao : Option Addr) (cap : Nat) (B : List Nat) (L T x m : Nat) (C : Bool) (w : World) (h : SAt w p (.slice ao B.length cap) B L T C) (hm : (m : Int) ≤ (L : Int) - 1) (hT : T ≤ 4611686018427387904) :
    Calls Try.prog 20 #[.pointer (some ⟨p, 0, none⟩), .int .u8 x, .int .i64 m] w (TookN p (.slice ao B.length cap) B L T C (untilCode L B C x m) (untilB L B C x m) (untilK L B C x m) w) := by
  have hfit := h.fit
  have hmax := h.max
  have HR := Lib.hid (refused_any p L m 1 w h.pos (by omega) (by omega) h.max h.c1)
  have hr0 : refCode L m 1 = 0 := by unfold refCode; rw [if_neg (by omega), if_neg (by omega)]
  rw [hr0] at HR
  have c0 := h.c0
  have HB := Lib.hid h.buf
  obtain ⟨k, hk⟩ : ∃ k : Nat, (if (B.length : Int) < m + 1 then (B.length : Int) else m + 1) = k := ⟨min (m + 1) B.length, by split <;> omega⟩
  have hkl : k ≤ B.length := by split at hk <;> omega
  have htk : B.take k = B.take (m + 1) := by
    split at hk
    · rw [List.take_of_length_le (by omega), List.take_of_length_le (by omega)]
    · rw [show k = m + 1 by omega]
  have hI : untilI x B m = idxRes x (B.take k) := by rw [htk]; rfl
  have HI := Lib.hid hI
  have H := Lib.hid h
  clear h hr0 hI
  by_cases hneg : untilI x B m < 0
  · have hc : untilCode L B C x m = if (B.length : Int) < m + 1 then fewCode C else 5 := by unfold untilCode; rw [if_neg (by omega), if_neg (by omega), if_pos hneg]
    have hcn : untilCode L B C x m ≠ 0 := by rw [hc]; split; exact few_ne C; decide
    have hlt : idxRes x (B.take k) < 0 := by rw [← HI.out]; exact hneg
    have h1 : untilB L B C x m = [] := if_neg hcn
    have h2 : untilK L B C x m = 0 := if_neg hcn
    rw [h1, h2, hc]
    obtain ⟨d, hd⟩ : ∃ d, idxRes x (B.take k) = d := ⟨_, rfl⟩
    have HD := Lib.hid hd
    rw [hd] at hlt
    clear hneg hc hcn h1 h2 hd
    by_cases hsh : (B.length : Int) < m + 1
    · rw [if_pos hsh]
      have HT := fun f n => Lib.hid (there_no p _ f B L T (m + 1) C (w.drewN n) (H.out.drewN n) hsh)
      clear hsh
      go_enter Try.func20, Try.ntmps20
      go_wp2_with (go_at_call 37; go_must (refine HR.out.mono ?_); rintro e w1 ⟨rfl, rfl⟩)
      go_quiet ((first | (go_at_call 34; exact quiet_same (size_any p _ B _ c0 (HB.out.drewN _))) | (go_at_call 35; exact quiet_same (first_det p ao cap B k _ c0 (HB.out.drewN _) hkl)) | (go_at_call 42; exact quiet_same (index_any _ x (B.take k) _ ((buf_take HB.out hkl).drewN _) (by rw [List.length_take]; omega)))))
      rw [HD.out]
      go_wp2_with (first | (go_at_call 38; go_must (refine (HT _ _).out.mono ?_); rintro e w1 ⟨rfl, rfl⟩))
      go_ret2
      exact took_none H.out (below_drewN w _)
    · rw [if_neg hsh]
      have HT := fun n => Lib.hid (there_yes p _ B L T (m + 1) C (w.drewN n) (H.out.drewN n) (by omega) 43 #[] Try.ent43 (fun c w' => c = 5 ∧ w.drewN n = w') (fun A _ _ => until1_any _ _))
      clear hsh
      go_enter Try.func20, Try.ntmps20
      go_wp2_with (go_at_call 37; go_must (refine HR.out.mono ?_); rintro e w1 ⟨rfl, rfl⟩)
      go_quiet ((first | (go_at_call 34; exact quiet_same (size_any p _ B _ c0 (HB.out.drewN _))) | (go_at_call 35; exact quiet_same (first_det p ao cap B k _ c0 (HB.out.drewN _) hkl)) | (go_at_call 42; exact quiet_same (index_any _ x (B.take k) _ ((buf_take HB.out hkl).drewN _) (by rw [List.length_take]; omega)))))
      rw [HD.out]
      go_wp2_with (first | (go_at_call 38; go_must (refine (HT _).out.mono ?_); rintro e w1 ⟨c, rfl, rfl, rfl⟩))
      go_ret2
      exact took_none H.out (below_drewN w _)
  · have hc : untilCode L B C x m = 0 := by unfold untilCode; rw [if_neg (by omega), if_neg (by omega), if_neg hneg]
    have hnl : ¬ idxRes x (B.take k) < 0 := by rw [← HI.out]; exact hneg
    obtain ⟨i, hi, hil⟩ := idxRes_lt hnl
    have hil2 : i + 1 ≤ B.length := by rw [List.length_take] at hil; omega
    have hiI : untilI x B m = i := by rw [HI.out, hi]
    have h1 : untilB L B C x m = B.take i := by unfold untilB; rw [if_pos hc, hiI]; rfl
    have h2 : untilK L B C x m = i + 1 := by unfold untilK; rw [if_pos hc, hiI]; rfl
    rw [h1, h2, hc]
    have hlm : (B.take i).length = i := by rw [List.length_take]; omega
    have HF := fun n => Lib.hid (first_det p ao cap B i (w.drewN n) c0 (HB.out.drewN n) (by omega))
    have HC := fun n => Lib.hid (clone_any (.slice ao i i) (B.take i) (w.drewN n) ((buf_take HB.out (n := i) (by omega)).drewN n).src (by rw [hlm]; omega))
    have HII := Lib.hid hi
    have HLM := Lib.hid hlm
    clear hneg hc hnl hil hiI h1 h2 hi hlm
    go_enter Try.func20, Try.ntmps20
    go_wp2_with (go_at_call 37; go_must (refine HR.out.mono ?_); rintro e w1 ⟨rfl, rfl⟩)
    go_quiet ((first | (go_at_call 34; exact quiet_same (size_any p _ B _ c0 (HB.out.drewN _))) | (go_at_call 35; exact quiet_same (first_det p ao cap B k _ c0 (HB.out.drewN _) hkl)) | (go_at_call 42; exact quiet_same (index_any _ x (B.take k) _ ((buf_take HB.out hkl).drewN _) (by rw [List.length_take]; omega)))))
    rw [HII.out]
    go_wp2_with (first | (go_at_call 35; go_must (refine (HF _).out.mono ?_); rintro e w1 ⟨rfl, rfl⟩))
    refine (HC _).out.mono ?_
    rintro e w1 ⟨s, rfl, hf⟩
    have hf := Fresh.later (below_drewN w nq) hf
    have HFR := Lib.hid hf
    have HP := Lib.hid (pass_any p _ B L T (i + 1) C w1 (H.out.below hf.2.1) hil2 hT)
    have hrw := hf.1
    have hfm := hf.2.2
    rw [HLM.out] at hfm
    rcases hfm with rfl | ⟨g, c, rfl⟩
    all_goals
      clear hf hrw
      go_wp2_with (first | (go_at_call 40; go_must (refine HP.out.mono ?_); rintro e w2 ⟨rfl, v', hs, hk⟩; have HSS := Lib.hid hs; have HK := Lib.hid hk; clear hs hk))
      go_ret2
      refine ⟨_, rfl, ?_, ?_, v', HSS.out, Keeps.after HFR.out.2.1 HK.out⟩
      · exact HK.out.rest.row HFR.out.1 (fun k hk hm => by
          have h1 := (HFR.out.1.lt k hk).1
          rcases hm with e | e
          · have := H.out.lt; omega
          · have := H.out.buf.lt k e; omega)
      · first
        | exact .inl rfl
        | exact .inr ⟨g, c, by rw [HLM.out]; rfl⟩
end Go.Proofs.Ytociidinfdbaeaa
