/- The walk of CheckFlips. Conditions: the bytes lie in memory. -/
import Derived.Test.YtpnhiaibidecnaaZt
namespace Go.Proofs.Ytpnhiaibidecnaa
open Go.RowKit Go.Shelf

theorem Try.undU16 : Try.prog.underlying 50 = some (.int .u16) := by kernel_rfl
theorem u16_in {n : Int} (h : (Lit.int .u16 n).wf = true) : 0 ≤ n ∧ n < 65536 := by
  have e1 : IntKind.u16.min = 0 := rfl
  have e2 : IntKind.u16.max = 65535 := rfl
  simp [Lit.wf] at h
  omega
theorem bits_xor_u8 : ∀ x, x < 256 → ∀ q, q < 8 → bits .xor .u8 ((x : Nat) : Int) ((2 : Int) ^ q % 256) = ((x ^^^ 2 ^ q : Nat) : Int) := by decide +kernel

set_option maxRecDepth 100000 in
set_option maxHeartbeats 6400000 in
theorem flipsLaw_walk (A : Option Addr) (N C : Nat) (B : List Nat) (X : Int) (hX0 : 0 ≤ X) (hX1 : X < 65536) (w : World) (hs : SrcAt w (.slice A N C) B) (hN : N = B.length) (h256 : ∀ x ∈ B, x < 256) :
    Calls Try.prog 8 #[.slice A N C, .int .u16 X] w fun e w' => e = .returned (.bool true) ∧ Below w.heap.size w w' := by
  have KN := fun w => Lib.hid (known10_any w)
  by_cases hl0 : N < 1
  · clear hs hN h256
    go_enter Try.func8, Try.ntmps8
    go_wp2_with fail
    refine (KN _).out.mono ?_
    rintro e w' ⟨rfl, hb⟩
    go_wp2
    go_ret
    exact ⟨rfl, hb⟩
  · by_cases hl : 2000 < N
    · clear hs hN h256
      go_enter Try.func8, Try.ntmps8
      go_wp2_with fail
      refine (KN _).out.mono ?_
      rintro e w' ⟨rfl, hb⟩
      go_wp2
      go_ret
      exact ⟨rfl, hb⟩
    · obtain ⟨x, rfl⟩ : ∃ n : Nat, X = ((n : Nat) : Int) := ⟨X.toNat, by omega⟩
      have HS := Lib.hid hs
      have HN := Lib.hid hN
      have H256 := Lib.hid h256
      have HL := Lib.hid hl
      have HL0 := Lib.hid hl0
      have hx1 := hs.below ((Below.refl _ w).alloc (Nat.le_refl _) (.cells #[] 5)) hs.lt
      obtain ⟨v1, w1, hrun1, hown1, hb1⟩ := run_append_zero 22 (base := w.heap.size) (heap_alloc_last w (.cells #[] 5)) (Nat.le_refl _) (by simp) hx1 (by omega)
      have hb1' := ((Below.refl _ w).alloc (Nat.le_refl _) (.cells #[] 5)).trans (hb1.mono (by simp))
      rw [← hN] at hown1
      obtain ⟨g, c1, rfl, hg1, hn1, hc1⟩ : ∃ g c, v1 = .slice (some ⟨g, 0, none⟩) N c ∧ w.heap.size ≤ g ∧ N ≤ c ∧ c ≤ 9223372036854775807 := by
        rcases hown1.2 with ⟨_, h0⟩ | ⟨g, cap, cur, rfl, hb, _, h1, h2, _⟩
        · omega
        · exact ⟨g, cap, rfl, hb, h1, h2⟩
      obtain ⟨T, hT⟩ : ∃ T, x % (8 * N) = T := ⟨_, rfl⟩
      have hT2 : T < 8 * N := by rw [← hT]; exact Nat.mod_lt _ (by omega)
      have hTi : ((x : Nat) : Int) % (8 * ((N : Nat) : Int)) = ((T : Nat) : Int) := by rw [← hT]; simp
      obtain ⟨p, hp⟩ : ∃ p, T / 8 = p := ⟨_, rfl⟩
      obtain ⟨q, hq⟩ : ∃ q, T % 8 = q := ⟨_, rfl⟩
      have hpi : ((T : Nat) : Int) / 8 = ((p : Nat) : Int) := by omega
      have hqi : ((T : Nat) : Int) % 8 = ((q : Nat) : Int) := by omega
      have hpN : p < N := by omega
      have hq8 : q < 8 := by omega
      have hpB : p < B.length := by omega
      have hcell : w1.cell? ⟨g, p, none⟩ = some (.int .u8 ((B[p] : Nat) : Int)) := by
        rw [hown1.cellAt p (by omega)]
        exact u8s_get B p hpB
      have hfr := hown1.frozenAt p
      obtain ⟨hst, hgr⟩ := hown1.stored p (.int .u8 ((B[p] ^^^ 2 ^ q : Nat) : Int))
      rw [← u8s_set] at hst
      have hbx := bits_xor_u8 B[p] (h256 _ (List.getElem_mem hpB)) q hq8
      have hfl := fun k hk => flip_any k hk B h256 p q hpB hq8
      have hfy := flip_byte B[p] (h256 _ (List.getElem_mem hpB)) q hq8
      obtain ⟨y, hy⟩ : ∃ y, B[p] ^^^ 2 ^ q = y := ⟨_, rfl⟩
      rw [hy] at hst hgr hbx hfy
      simp only [hy] at hfl
      obtain ⟨x0, hx0⟩ : ∃ x0, B[p] = x0 := ⟨_, rfl⟩
      rw [hx0] at hcell hbx
      have hlow : ∀ z ∈ B.set p y, z < 256 := fun z hz => by
        rcases List.mem_or_eq_of_mem_set hz with h | h
        · exact h256 z h
        · rw [h]; exact hfy.1
      obtain ⟨D, hD⟩ : ∃ D, B.set p y = D := ⟨_, rfl⟩
      rw [hD] at hst hfl hlow
      have hDN : N = D.length := by rw [← hD, List.length_set]; exact hN
      have HR1 := Lib.hid hrun1
      have HST := Lib.hid hst.drew
      have HB2 := Lib.hid ((hb1'.trans (grown_below hown1 hgr hb1'.size)).drew)
      have HFL := Lib.hid hfl
      have HLW := Lib.hid hlow
      have HDN := Lib.hid hDN
      clear hs hN h256 hx1 hrun1 hown1 hb1 hb1' hst hgr hfl hfy hy hx0 hlow hD hDN hT hp hq hpB
      go_enter Try.func8, Try.ntmps8
      have k0 : ¬ ((N : Nat) : Int) < 1 := by omega
      have k1 : ¬ (2000 : Int) < ((N : Nat) : Int) := by omega
      have HPN := Lib.hid hpN
      have HPC := Lib.hid (show p < c1 by omega)
      have HQ8 := Lib.hid hq8
      clear hl0 hl hT2 hpN hq8 hn1 hc1 hg1
      go_wp2_with (at_builtin; refine wpList_append_eq rfl _ _ 22 rfl rfl rfl HR1.out ?_)
      have hpN := HPN.out
      have hpc := HPC.out
      go_region
      obtain ⟨w2, hw2⟩ : ∃ w2, (w1.setCell ⟨g, p, none⟩ (.int .u8 ((y : Nat) : Int))).drew = w2 := ⟨_, rfl⟩
      try rw [hbx]
      rw [hw2]
      rw [hw2] at HST HB2
      have HS2 := Lib.hid (SrcAt.of_row HST.out)
      clear hw2 hbx hcell hfr hpi hqi hTi hpN hpc k0 k1 hX0 hX1
      go_wp2
      go_loopw [7] (fun x7 wr => ∃ j : Nat, 1 ≤ j ∧ j ≤ 4 ∧ x7 = .int .i64 ((j : Nat) : Int) ∧ Below w2.heap.size w2 wr) (fun x7 _ => 4 - (intOf x7).toNat)
      case atStart => exact ⟨1, by omega, by omega, rfl, Below.refl _ _⟩
      case round =>
        obtain ⟨j, hj1, hj4, rfl, hbel⟩ := hrel
        have HBR := Lib.hid (HB2.out.trans (hbel.mono HB2.out.size))
        have HBQ := Lib.hid hbel
        clear hbel
        by_cases hj : j ≤ 3
        · have HO1 := fun w hs => of_k j ⟨hj1, hj⟩ A N C B w hs HN.out H256.out (by have := HL.out; omega) _ rfl
          have HO2 := fun w hs => of_k j ⟨hj1, hj⟩ (some ⟨g, 0, none⟩) N c1 D w hs HDN.out HLW.out (by have := HL.out; omega) _ rfl
          have hne := HFL.out j ⟨hj1, hj⟩
          obtain ⟨V1, hV1⟩ : ∃ V, valS j B = V := ⟨_, rfl⟩
          obtain ⟨V2, hV2⟩ : ∃ V, valS j D = V := ⟨_, rfl⟩
          rw [hV1] at HO1 hne
          rw [hV2] at HO2 hne
          have HO1 := fun w hs => Lib.hid (HO1 w hs)
          have HO2 := fun w hs => Lib.hid (HO2 w hs)
          have hni : (((V1 : Nat) : Int) == ((V2 : Nat) : Int)) = false := by simp; omega
          have hji : ((j : Nat) : Int) ≤ 3 := by omega
          clear hV1 hV2 hne
          go_wp2_with fail
          refine (HO1 _ (HS.out.below HBR.out HS.out.lt)).out.mono ?_
          rintro e w3 ⟨rfl, hb3⟩
          have HB3 := Lib.hid (HBQ.out.trans (hb3.mono HBQ.out.size))
          clear hb3
          go_wp2_with fail
          refine (HO2 _ (HS2.out.below HB3.out HS2.out.lt)).out.mono ?_
          rintro e w4 ⟨rfl, hb4⟩
          have HB4 := Lib.hid (HB3.out.trans (hb4.mono HB3.out.size))
          clear hb4
          go_wp2
          go_roundw
          case rel => exact ⟨j + 1, by omega, by omega, by go_num, HB4.out⟩
          case measure => simp [intOf]; omega
        · obtain rfl : j = 4 := by omega
          clear hj hj1 hj4
          go_wp2_with fail
          refine (KN _).out.mono ?_
          rintro e w9 ⟨rfl, hb9⟩
          have HB9 := Lib.hid (HBR.out.trans (hb9.mono HBR.out.size))
          clear hb9
          go_wp2
          go_ret
          exact ⟨rfl, HB9.out⟩
end Go.Proofs.Ytpnhiaibidecnaa
