/- Bytes added to the register of the CRC: addCRC; to both numbers of Adler-32: addAdler; their sums. Conditions: the sum and the bytes lie in memory, apart from each other. -/
import Derived.Test.YtpnhiaibidecnaaZb
namespace Go.Proofs.Ytpnhiaibidecnaa
open Go.RowKit Go.Shelf

theorem bits_xor_i64 (a b : Nat) (ha : a < 65536) (hb : b < 65536) : bits .xor .i64 (a : Int) (b : Int) = ((a ^^^ b : Nat) : Int) := by
  have hx : a ^^^ b < 2 ^ 16 := Nat.xor_lt_two_pow (by omega) (by omega)
  have h1 : (BitVec.ofInt 64 (a : Int)).toNat = a := by
    rw [BitVec.ofInt_natCast, BitVec.toNat_ofNat]; exact Nat.mod_eq_of_lt (by omega)
  have h2 : (BitVec.ofInt 64 (b : Int)).toNat = b := by
    rw [BitVec.ofInt_natCast, BitVec.toNat_ofNat]; exact Nat.mod_eq_of_lt (by omega)
  show IntKind.i64.wrap ((BitVec.ofInt 64 (a : Int) ^^^ BitVec.ofInt 64 (b : Int)).toNat : Int) = _
  rw [BitVec.toNat_xor, h1, h2]
  simp [IntKind.wrap, IntKind.bits, IntKind.signed]
  omega
theorem dbl_hi {x : Nat} (h : 32768 ≤ x) : dbl x = 2 * x % 65536 ^^^ 4129 := by unfold dbl; rw [if_pos (by omega)]
theorem dbl_lo {x : Nat} (h : x < 32768) : dbl x = 2 * x := by unfold dbl; rw [if_neg (by omega)]
attribute [local irreducible] dbl dbls

set_option maxRecDepth 100000 in
set_option maxHeartbeats 3200000 in
theorem addCRC_any (A : Option Addr) (N C : Nat) (B : List Nat) (b : Nat) (s : Nat × Nat) (pos k : Nat) (w : World) (hs : 0 < N → SrcAt w (.slice A N C) B) (hN : N = B.length) (h256 : ∀ x ∈ B, x < 256) (hu : SumAt w b s pos k) (hne : 0 < N → ∀ j, (Value.slice A N C).ownBlock = some j → j ≠ b) (h1 : s.1 < 65536) (hl : N ≤ 4294967296) :
    Calls Try.prog 40 #[.pointer (some ⟨b, 0, none⟩), .slice A N C] w fun e w' => e = .returned (.tuple #[]) ∧ SumAt w' b (crcL s.1 B, s.2) pos k ∧ Rest (fun j => j = b) w w' := by
  have HS := Lib.hid hs
  have HN := Lib.hid hN
  have HU := Lib.hid hu
  have HE := Lib.hid hne
  have H256 := Lib.hid h256
  have H1 := Lib.hid h1
  clear hs hN hu hne h256
  go_enter Try.func40, Try.ntmps40
  go_wp2
  go_loopw [8] (fun x8 wr => ∃ i : Nat, i ≤ N ∧ x8 = .int .i64 ((i : Nat) : Int) ∧ SumAt wr b (crcL s.1 (B.take i), s.2) pos k ∧ Rest (fun j => j = b) w wr) (fun x8 _ => N - (intOf x8).toNat)
  case atStart => exact ⟨0, Nat.zero_le _, rfl, by simpa [crcL] using HU.out, Rest.refl _ _⟩
  case round =>
    obtain ⟨i, hi, rfl, hsum, hrest⟩ := hrel
    by_cases hlt : i < N
    · have hkB : i < B.length := by rw [← HN.out]; exact hlt
      have hsrc := (HS.out (by omega)).rest hrest (HE.out (by omega))
      obtain ⟨a, rfl, hcell⟩ := src_byte hsrc i hkB
      have hx256 := H256.out _ (List.getElem_mem hkB)
      have hsn := crcL_snoc B i hkB s.1
      have hnl : crcL s.1 (B.take i) < 65536 := crcL_lt _ H1.out (fun y hy => H256.out y (List.mem_of_mem_take hy))
      obtain ⟨S, hS⟩ : ∃ S, crcL s.1 (B.take i) = S := ⟨_, rfl⟩
      obtain ⟨x, hx⟩ : ∃ x, B[i] = x := ⟨_, rfl⟩
      rw [hx] at hcell hsn hx256
      rw [hS] at hsum hnl hsn
      unfold crcB at hsn
      have hxl : S ^^^ x * 256 < 65536 := Nat.xor_lt_two_pow (n := 16) hnl (by omega)
      obtain ⟨Y, hY⟩ : ∃ Y, S ^^^ x * 256 = Y := ⟨_, rfl⟩
      rw [hY] at hsn hxl
      have HSN := Lib.hid hsn
      have HY := Lib.hid hY
      have HXL := Lib.hid hxl
      have c0 := hsum.c0
      have f0 := hsum.f0
      dsimp only at c0
      have hne2 : a.block ≠ b := HE.out (by omega) _ rfl
      have HSU := Lib.hid hsum
      have HRE := Lib.hid hrest
      have hlti : ((i : Nat) : Int) < ((N : Nat) : Int) := by omega
      clear hx hS hsn hsum hrest hsrc hY
      have hbx : bits .xor .i64 ((S : Nat) : Int) (((x : Nat) : Int) * 256) = ((Y : Nat) : Int) := by
        rw [show ((x : Nat) : Int) * 256 = ((x * 256 : Nat) : Int) by omega, bits_xor_i64 _ _ hnl (by omega), HY.out]
      go_wp2
      have HQ := Lib.hid (HSU.out.set0 (x := Y))
      have HR2 := Lib.hid (HRE.out.setCell (p := ⟨b, 0, none⟩) (fun _ => rfl) (.int .i64 ((Y : Nat) : Int)))
      obtain ⟨w1, hw1⟩ : ∃ w1, wr.setCell ⟨b, 0, none⟩ (.int .i64 ((Y : Nat) : Int)) = w1 := ⟨_, rfl⟩
      first | rw [hw1] at HQ HR2 ⊢ | (rw [hbx] ; rw [hw1] at HQ HR2 ⊢)
      clear hw1 hbx hcell c0 f0
      go_loopw [22] (fun x22 wq => ∃ j : Nat, j ≤ 8 ∧ x22 = .int .i64 ((j : Nat) : Int) ∧ SumAt wq b (dbls j Y, s.2) pos k ∧ Rest (fun j => j = b) w wq) (fun x22 _ => 8 - (intOf x22).toNat)
      case atStart => exact ⟨0, Nat.zero_le _, rfl, by simpa only [dbls] using HQ.out, HR2.out⟩
      case round =>
        obtain ⟨j, hj, rfl, hsum, hrest⟩ := hrel
        by_cases hjl : j < 8
        · have hdl := dbls_lt j HXL.out
          have hds := dbls_snoc j Y
          obtain ⟨Z, hZ⟩ : ∃ Z, dbls j Y = Z := ⟨_, rfl⟩
          rw [hZ] at hsum hdl hds
          have HDS := Lib.hid hds
          have c0 := hsum.c0
          have f0 := hsum.f0
          dsimp only at c0
          have HSU2 := Lib.hid hsum
          have HRE2 := Lib.hid hrest
          have hji : ((j : Nat) : Int) < 8 := by omega
          clear hZ hds hsum hrest
          rcases Nat.lt_or_ge Z 32768 with hlo | hhi
          · have HLO := Lib.hid hlo
            have hge : ¬ (65536 : Int) ≤ ((Z : Nat) : Int) * 2 := by omega
            clear hdl hlo
            go_wp2
            go_roundw
            case rel =>
              refine ⟨j + 1, by omega, by go_num, ?_, (HRE2.out.setCell (p := ⟨b, 0, none⟩) (fun _ => rfl) _)⟩
              have hq := HSU2.out.set0 (2 * Z)
              rw [HDS.out, dbl_lo HLO.out]
              rw [show ((2 * Z : Nat) : Int) = ((Z : Nat) : Int) * 2 by omega] at hq
              exact hq
            case measure => simp [intOf]; omega
          · have hxv : bits .xor .i64 (((Z : Nat) : Int) * 2 % 65536) 4129 = ((dbl Z : Nat) : Int) := by
              rw [show ((Z : Nat) : Int) * 2 % 65536 = ((2 * Z % 65536 : Nat) : Int) by omega, show (4129 : Int) = ((4129 : Nat) : Int) from rfl, bits_xor_i64 _ _ (by omega) (by omega), dbl_hi hhi]
            have hge : (65536 : Int) ≤ ((Z : Nat) : Int) * 2 := by omega
            go_wp2
            go_roundw
            case rel =>
              refine ⟨j + 1, by omega, by go_num, ?_, (HRE2.out.setCell (p := ⟨b, 0, none⟩) (fun _ => rfl) _).setCell (p := ⟨b, 0, none⟩) (fun _ => rfl) _⟩
              have hq := (HSU2.out.set0 (2 * Z)).set0 (dbl Z)
              rw [← HDS.out, show ((2 * Z : Nat) : Int) = ((Z : Nat) : Int) * 2 by omega] at hq
              rw [← HDS.out]
              exact hq
            case measure => simp [intOf]; omega
        · obtain rfl : j = 8 := by omega
          rw [← HSN.out] at hsum
          have HSU2 := Lib.hid hsum
          have HRE2 := Lib.hid hrest
          clear hsum hrest
          go_wp2
          go_roundw
          case rel => exact ⟨i + 1, by omega, by go_num, HSU2.out, HRE2.out⟩
          case measure => simp [intOf]; omega
    · obtain rfl : i = N := by omega
      rw [List.take_of_length_le (by have := HN.out; omega)] at hsum
      go_wp2
      refine bodyPost_end (results_none rfl _ _ _) rfl ?_
      exact ⟨rfl, hsum, hrest⟩

set_option maxRecDepth 100000 in
set_option maxHeartbeats 800000 in
theorem adlerSum_any (b : Nat) (s : Nat × Nat) (n k : Nat) (w : World) (hs : SumAt w b s n k) (h1 : s.1 < 65536) (h2 : s.2 < 65536) : Calls Try.prog 43 #[.pointer (some ⟨b, 0, none⟩)] w fun e w' => e = .returned (.int .i64 ((s.2 * 65536 + s.1 : Nat) : Int)) ∧ Below w.heap.size w w' := by
  obtain ⟨c0, c1, _, _, _, _, _⟩ := hs
  go_enter Try.func43, Try.ntmps43
  go_wp2
  go_region
  go_wp2
  go_ret
  exact ⟨ret_int' (by omega), below_drewN w 1⟩
end Go.Proofs.Ytpnhiaibidecnaa
