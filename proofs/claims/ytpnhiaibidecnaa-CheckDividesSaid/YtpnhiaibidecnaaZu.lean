/- The walk of CheckDivides. Conditions: the bytes lie in memory. -/
import Derived.Test.YtpnhiaibidecnaaZt
import Derived.Test.YtpnhiaibidecnaaZi
namespace Go.Proofs.Ytpnhiaibidecnaa
open Go.RowKit Go.Shelf

set_option maxRecDepth 100000 in
set_option maxHeartbeats 6400000 in
theorem dividesLaw_walk (A : Option Addr) (N C : Nat) (B : List Nat) (A' : Option Addr) (N' C' : Nat) (B' : List Nat) (w : World) (hs : SrcAt w (.slice A N C) B) (hN : N = B.length) (h256 : ∀ x ∈ B, x < 256) (hs' : SrcAt w (.slice A' N' C') B') (hN' : N' = B'.length) (h256' : ∀ x ∈ B', x < 256) :
    Calls Try.prog 7 #[.slice A N C, .slice A' N' C'] w fun e w' => e = .returned (.bool true) ∧ Below w.heap.size w w' := by
  have KN := fun w => Lib.hid (known10_any w)
  by_cases hl : 2000 < N
  · clear hs hN h256 hs' hN' h256'
    go_enter Try.func7, Try.ntmps7
    go_wp2_with fail
    refine (KN _).out.mono ?_
    rintro e w' ⟨rfl, hb⟩
    go_wp2
    go_ret
    exact ⟨rfl, hb⟩
  · by_cases hl' : 2000 < N'
    · clear hs hN h256 hs' hN' h256'
      go_enter Try.func7, Try.ntmps7
      go_wp2_with fail
      refine (KN _).out.mono ?_
      rintro e w' ⟨rfl, hb⟩
      go_wp2
      go_ret
      exact ⟨rfl, hb⟩
    · have HS := Lib.hid hs
      have HN := Lib.hid hN
      have H256 := Lib.hid h256
      have HL := Lib.hid hl
      have HS' := Lib.hid hs'
      have HN' := Lib.hid hN'
      have H256' := Lib.hid h256'
      have HL' := Lib.hid hl'
      have HBL : Hid (∀ x ∈ B ++ B', x < 256) := Lib.hid (fun x hx => by
        rcases List.mem_append.1 hx with h | h
        · exact h256 x h
        · exact h256' x h)
      have hx1 := hs.below ((Below.refl _ w).alloc (Nat.le_refl _) (.cells #[] 5)) hs.lt
      have hx1' := hs'.below ((Below.refl _ w).alloc (Nat.le_refl _) (.cells #[] 5)) hs'.lt
      obtain ⟨v1, w1, hrun1, hown1, hb1⟩ := run_append_zero 22 (base := w.heap.size) (heap_alloc_last w (.cells #[] 5)) (Nat.le_refl _) (by simp) hx1 (by omega)
      have hb1' := ((Below.refl _ w).alloc (Nat.le_refl _) (.cells #[] 5)).trans (hb1.mono (by simp))
      obtain ⟨v2, w2, hrun2, hown2, hg2⟩ := run_append_ownS 22 hown1 hb1'.size (hx1'.below hb1 hx1'.lt) (by omega)
      have hb2 := hb1'.trans (grown_below hown1 hg2 hb1'.size)
      obtain ⟨A1, c1, rfl, hn1, hc1⟩ := own_form hown1
      obtain ⟨A2, c2, rfl, hn2, hc2⟩ := own_form hown2
      rw [← hN] at hrun1 hrun2 hown2 hn2
      rw [← hN'] at hrun2 hown2 hn2
      have hJ := join_val B B' h256 h256'
      have hO1 := fun w hs => of_k 3 (by omega) A N C B w hs hN h256 (by omega) _ rfl
      have hO2 := fun w hs => of_k 3 (by omega) A' N' C' B' w hs hN' h256' (by omega) _ rfl
      have hO3 := fun k hk w hs => of_k k hk A2 (N + N') c2 (B ++ B') w hs (by rw [List.length_append, ← hN, ← hN']) HBL.out (by omega) _ rfl
      have hJN := fun w => join_any ((valS 3 B : Nat) : Int) ((valS 3 B' : Nat) : Int) ((B'.length : Nat) : Int) w
      rw [← hN'] at hJ hJN
      simp only [hJ] at hJN
      have HO3 := fun w hs => Lib.hid (hO3 3 (by omega) w hs)
      have HOK := fun k hk w hs => Lib.hid (hO3 k hk w hs)
      obtain ⟨V1, hV1⟩ : ∃ V, valS 3 B = V := ⟨_, rfl⟩
      obtain ⟨V2, hV2⟩ : ∃ V, valS 3 B' = V := ⟨_, rfl⟩
      obtain ⟨V3, hV3⟩ : ∃ V, valS 3 (B ++ B') = V := ⟨_, rfl⟩
      rw [hV1] at hO1
      rw [hV2] at hO2
      rw [hV1, hV2, hV3] at hJN
      rw [hV3] at HO3
      have HO1 := fun w hs => Lib.hid (hO1 w hs)
      have HO2 := fun w hs => Lib.hid (hO2 w hs)
      have HJN := fun w => Lib.hid (hJN w)
      have HR1 := Lib.hid hrun1
      have HR2 := Lib.hid hrun2
      have HB2 := Lib.hid hb2
      have HS2 := Lib.hid (SrcAt.of_row hown2)
      clear hs hN h256 hs' hN' h256' hx1 hx1' hrun1 hown1 hb1 hb1' hrun2 hown2 hg2 hb2 hJ hO1 hO2 hO3 hJN hV1 hV2 hV3
      go_enter Try.func7, Try.ntmps7
      go_wp2_with (at_builtin; first | refine wpList_append_eq rfl _ _ 22 rfl rfl rfl HR1.out ?_ | refine wpList_append_eq rfl _ _ 22 rfl rfl rfl HR2.out ?_)
      refine (HO1 _ (HS.out.below HB2.out HS.out.lt)).out.mono ?_
      rintro e w3 ⟨rfl, hb3⟩
      have HB3 := Lib.hid (HB2.out.trans (hb3.mono HB2.out.size))
      have HS3 := Lib.hid (HS2.out.below hb3 HS2.out.lt)
      clear hb3
      go_wp2_with fail
      refine (HO2 _ (HS'.out.below HB3.out HS'.out.lt)).out.mono ?_
      rintro e w4 ⟨rfl, hb4⟩
      have HB4 := Lib.hid (HB3.out.trans (hb4.mono HB3.out.size))
      have HS4 := Lib.hid (HS3.out.below hb4 HS3.out.lt)
      clear hb4
      go_wp2_with fail
      refine (HO3 _ HS4.out).out.mono ?_
      rintro e w5 ⟨rfl, hb5⟩
      have HB5 := Lib.hid (HB4.out.trans (hb5.mono HB4.out.size))
      have HS5 := Lib.hid (HS4.out.below hb5 HS4.out.lt)
      clear hb5
      go_wp2_with fail
      refine (HJN _).out.mono ?_
      rintro e w6 ⟨rfl, hb6⟩
      have HB6 := Lib.hid (HB5.out.trans (hb6.mono HB5.out.size))
      have HS6 := Lib.hid (HS5.out.below hb6 HS5.out.lt)
      clear hb6
      go_wp2
      go_loopw [14] (fun x14 wr => ∃ j : Nat, 1 ≤ j ∧ j ≤ 4 ∧ x14 = .int .i64 ((j : Nat) : Int) ∧ Below w6.heap.size w6 wr) (fun x14 _ => 4 - (intOf x14).toNat)
      case atStart => exact ⟨1, by omega, by omega, rfl, Below.refl _ _⟩
      case round =>
        obtain ⟨j, hj1, hj4, rfl, hbel⟩ := hrel
        have HBR := Lib.hid (HB6.out.trans (hbel.mono HB6.out.size))
        have HBQ := Lib.hid hbel
        clear hbel
        by_cases hj : j ≤ 3
        · have HNW := Lib.hid (new_any j ⟨hj1, hj⟩ wr)
          have HSR := Lib.hid (HS.out.below HBR.out HS.out.lt)
          have HSR' := Lib.hid (HS'.out.below HBR.out HS'.out.lt)
          have HSB := Lib.hid (HS6.out.below HBQ.out HS6.out.lt)
          have HK := Lib.hid (And.intro hj1 hj)
          have hji : ((j : Nat) : Int) ≤ 3 := by omega
          go_wp2_with fail
          refine HNW.out.mono ?_
          rintro e u1 ⟨b, rfl, hsum1, hge, hb1⟩
          have HC1 := Lib.hid hb1
          have HU1 := Lib.hid hsum1
          have HGE := Lib.hid hge
          have HW1 := Lib.hid (Write_any A N C j B [] b u1 (HSR.out.below hb1 HSR.out.lt) HN.out H256.out hsum1 (fun i hi => by have := HSR.out.lt i hi; omega) (by have := HL.out; simp; omega))
          clear hb1 hsum1 hge
          rw [List.nil_append] at HW1
          go_wp2_with fail
          refine HW1.out.mono ?_
          rintro e u2 ⟨rfl, hsum2, hr2⟩
          have HC2 := Lib.hid (HC1.out.trans (hr2.toBelow wr.heap.size HC1.out.size (fun i hi e => by have := HGE.out; omega)))
          have HU2 := Lib.hid hsum2
          have HW2 := Lib.hid (Write_any A' N' C' j B' B b u2 (HSR'.out.below HC2.out HSR'.out.lt) HN'.out H256'.out hsum2 (fun i hi => by have := HSR'.out.lt i hi; have := HGE.out; omega) (by have := HL.out; have := HL'.out; have := HN.out; omega))
          clear hr2 hsum2
          go_wp2_with fail
          refine HW2.out.mono ?_
          rintro e u3 ⟨rfl, hsum3, hr3⟩
          have HC3 := Lib.hid (HC2.out.trans (hr3.toBelow wr.heap.size HC2.out.size (fun i hi e => by have := HGE.out; omega)))
          have HSM := Lib.hid (Sum_any j (B ++ B') b u3 hsum3)
          have HOJ := fun w hs => HOK j HK.out w hs
          obtain ⟨V, hV⟩ : ∃ V, valS j (B ++ B') = V := ⟨_, rfl⟩
          rw [hV] at HSM HOJ
          clear hsum3 hr3 hV
          go_wp2_with fail
          refine HSM.out.mono ?_
          rintro e u4 ⟨rfl, hb4⟩
          have HC4 := Lib.hid (HC3.out.trans (hb4.mono HC3.out.size))
          clear hb4
          go_wp2_with fail
          refine (HOJ _ (HSB.out.below HC4.out HSB.out.lt)).out.mono ?_
          rintro e u5 ⟨rfl, hb5⟩
          have HC5 := Lib.hid (HC4.out.trans (hb5.mono HC4.out.size))
          clear hb5
          go_wp2
          go_roundw
          case rel => exact ⟨j + 1, by omega, by omega, by go_num, HBQ.out.trans (HC5.out.mono HBQ.out.size)⟩
          case measure => simp [intOf]; omega
        · have hji : (3 : Int) < ((j : Nat) : Int) := by omega
          go_wp2_with fail
          refine (KN _).out.mono ?_
          rintro e w9 ⟨rfl, hb9⟩
          have HB9 := Lib.hid (HBR.out.trans (hb9.mono HBR.out.size))
          clear hb9
          go_wp2
          go_ret
          exact ⟨rfl, HB9.out⟩
end Go.Proofs.Ytpnhiaibidecnaa
