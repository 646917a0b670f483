/- The document's own answers of layer 10: the CRC bit by bit. Conditions: the bytes lie in memory. -/
import Derived.Test.YtpnhiaibidecnaaZh
namespace Go.Proofs.Ytpnhiaibidecnaa
open Go.RowKit Go.Shelf

theorem crcR_one {r b : Nat} (h : (r / 32768 + b) % 2 = 1) : crcR r b = 2 * r % 65536 ^^^ 4129 := by unfold crcR; rw [if_pos h]
theorem crcR_zero {r b : Nat} (h : ¬ (r / 32768 + b) % 2 = 1) : crcR r b = 2 * r % 65536 := by unfold crcR; rw [if_neg h]
theorem crcK_succ (c k r : Nat) : crcK c (k + 1) r = crcR (crcK c k r) (c / 2 ^ (7 - k) % 2) := rfl
theorem crcK_zero (c r : Nat) : crcK c 0 r = r := rfl
attribute [local irreducible] crcR crcK

set_option maxRecDepth 100000 in
set_option maxHeartbeats 6400000 in
theorem crc_any (A : Option Addr) (N C : Nat) (B : List Nat) (w : World) (hs : SrcAt w (.slice A N C) B) (hN : N = B.length) (h256 : ∀ x ∈ B, x < 256) (hp : N ≤ 4294967296) : Calls Try.prog 32 #[.slice A N C] w fun e w' => e = .returned (.int .i64 ((valS 2 B : Nat) : Int)) ∧ w = w' := by
  have HS := Lib.hid hs
  have HN := Lib.hid hN
  have H256 := Lib.hid h256
  have HL := fun i => Lib.hid (crcL_lt (B.take i) (r := 65535) (by decide) (fun x hx => h256 x (List.mem_of_mem_take hx)))
  have HV : Hid (valS 2 B = crcL 65535 B) := Lib.hid rfl
  obtain ⟨V, hV⟩ : ∃ V, valS 2 B = V := ⟨_, rfl⟩
  rw [hV] at HV ⊢
  clear hs hN h256 hV
  go_enter Try.func32, Try.ntmps32
  go_wp2
  go_loop [3, 4] (fun x3 x4 => ∃ i : Nat, i ≤ N ∧ x4 = .int .i64 ((i : Nat) : Int) ∧ x3 = .int .i64 ((crcL 65535 (B.take i) : Nat) : Int)) (fun _ x4 => N - (intOf x4).toNat)
  case atStart => exact ⟨0, Nat.zero_le _, rfl, rfl⟩
  case round =>
    obtain ⟨i, hi, rfl, rfl⟩ := hrel
    have hnl := (HL i).out
    by_cases hlt : i < N
    · have hkB : i < B.length := by rw [← HN.out]; exact hlt
      obtain ⟨a, rfl, hcell⟩ := src_byte HS.out i hkB
      have hx256 := H256.out _ (List.getElem_mem hkB)
      have hsn := crcL_snoc B i hkB 65535
      obtain ⟨r0, hS⟩ : ∃ S, crcL 65535 (B.take i) = S := ⟨_, rfl⟩
      obtain ⟨x, hx⟩ : ∃ x, B[i] = x := ⟨_, rfl⟩
      rw [hx] at hcell hsn hx256
      rw [hS] at hnl hsn ⊢
      rw [← crcK_crc x hx256 r0 hnl] at hsn
      have HSN := Lib.hid hsn
      have HK := fun j => Lib.hid (crcK_lt x j hnl)
      have hlti : ((i : Nat) : Int) < ((N : Nat) : Int) := by omega
      clear hx hS hsn
      go_wp2
      go_loop [3, 5] (fun x3 x5 => ∃ j : Nat, j ≤ 8 ∧ x5 = .int .i64 (7 - ((j : Nat) : Int)) ∧ x3 = .int .i64 ((crcK x j r0 : Nat) : Int)) (fun _ x5 => (intOf x5 + 1).toNat)
      case atStart => exact ⟨0, Nat.zero_le _, rfl, by rw [crcK_zero]⟩
      case round =>
        obtain ⟨j, hj, rfl, rfl⟩ := hrel
        have hR := (HK j).out
        by_cases hjl : j < 8
        · have hst := crcK_succ x j r0
          obtain ⟨R, hRR⟩ : ∃ R, crcK x j r0 = R := ⟨_, rfl⟩
          rw [hRR] at hR hst ⊢
          have HST := Lib.hid hst
          clear hst hRR
          have hbx : bits .xor .i64 (2 * ((R : Nat) : Int) % 65536) 4129 = ((2 * R % 65536 ^^^ 4129 : Nat) : Int) := by
            rw [show 2 * ((R : Nat) : Int) % 65536 = ((2 * R % 65536 : Nat) : Int) by omega, show (4129 : Int) = ((4129 : Nat) : Int) from rfl, bits_xor_i64 _ _ (by omega) (by omega)]
          obtain rfl | rfl | rfl | rfl | rfl | rfl | rfl | rfl : j = 0 ∨ j = 1 ∨ j = 2 ∨ j = 3 ∨ j = 4 ∨ j = 5 ∨ j = 6 ∨ j = 7 := by omega
          · have hst : crcK x 1 r0 = crcR R (x / 128 % 2) := by rw [HST.out]
            by_cases hc : (R / 32768 + x / 128 % 2) % 2 = 1
            · rw [crcR_one hc] at hst
              have HS2 := Lib.hid hst
              have hci : (((R : Nat) : Int) / 32768 + ((x : Nat) : Int) / 128 % 2) % 2 = 1 := by omega
              have hj7 : (7 : Int) - ((0 : Nat) : Int) = 7 := by omega
              clear hc hst
              rw [hj7]
              go_wp2
              go_round
              case rel => exact ⟨1, by omega, rfl, by rw [HS2.out]⟩
              case measure => simp [intOf]
            · rw [crcR_zero hc] at hst
              have HS2 := Lib.hid hst
              have hci : ¬ (((R : Nat) : Int) / 32768 + ((x : Nat) : Int) / 128 % 2) % 2 = 1 := by omega
              have hj7 : (7 : Int) - ((0 : Nat) : Int) = 7 := by omega
              clear hc hst hbx
              rw [hj7]
              go_wp2
              go_round
              case rel => exact ⟨1, by omega, rfl, by rw [HS2.out]; go_num⟩
              case measure => simp [intOf]
          · have hst : crcK x 2 r0 = crcR R (x / 64 % 2) := by rw [HST.out]
            by_cases hc : (R / 32768 + x / 64 % 2) % 2 = 1
            · rw [crcR_one hc] at hst
              have HS2 := Lib.hid hst
              have hci : (((R : Nat) : Int) / 32768 + ((x : Nat) : Int) / 64 % 2) % 2 = 1 := by omega
              have hj7 : (7 : Int) - ((1 : Nat) : Int) = 6 := by omega
              clear hc hst
              rw [hj7]
              go_wp2
              go_round
              case rel => exact ⟨2, by omega, rfl, by rw [HS2.out]⟩
              case measure => simp [intOf]
            · rw [crcR_zero hc] at hst
              have HS2 := Lib.hid hst
              have hci : ¬ (((R : Nat) : Int) / 32768 + ((x : Nat) : Int) / 64 % 2) % 2 = 1 := by omega
              have hj7 : (7 : Int) - ((1 : Nat) : Int) = 6 := by omega
              clear hc hst hbx
              rw [hj7]
              go_wp2
              go_round
              case rel => exact ⟨2, by omega, rfl, by rw [HS2.out]; go_num⟩
              case measure => simp [intOf]
          · have hst : crcK x 3 r0 = crcR R (x / 32 % 2) := by rw [HST.out]
            by_cases hc : (R / 32768 + x / 32 % 2) % 2 = 1
            · rw [crcR_one hc] at hst
              have HS2 := Lib.hid hst
              have hci : (((R : Nat) : Int) / 32768 + ((x : Nat) : Int) / 32 % 2) % 2 = 1 := by omega
              have hj7 : (7 : Int) - ((2 : Nat) : Int) = 5 := by omega
              clear hc hst
              rw [hj7]
              go_wp2
              go_round
              case rel => exact ⟨3, by omega, rfl, by rw [HS2.out]⟩
              case measure => simp [intOf]
            · rw [crcR_zero hc] at hst
              have HS2 := Lib.hid hst
              have hci : ¬ (((R : Nat) : Int) / 32768 + ((x : Nat) : Int) / 32 % 2) % 2 = 1 := by omega
              have hj7 : (7 : Int) - ((2 : Nat) : Int) = 5 := by omega
              clear hc hst hbx
              rw [hj7]
              go_wp2
              go_round
              case rel => exact ⟨3, by omega, rfl, by rw [HS2.out]; go_num⟩
              case measure => simp [intOf]
          · have hst : crcK x 4 r0 = crcR R (x / 16 % 2) := by rw [HST.out]
            by_cases hc : (R / 32768 + x / 16 % 2) % 2 = 1
            · rw [crcR_one hc] at hst
              have HS2 := Lib.hid hst
              have hci : (((R : Nat) : Int) / 32768 + ((x : Nat) : Int) / 16 % 2) % 2 = 1 := by omega
              have hj7 : (7 : Int) - ((3 : Nat) : Int) = 4 := by omega
              clear hc hst
              rw [hj7]
              go_wp2
              go_round
              case rel => exact ⟨4, by omega, rfl, by rw [HS2.out]⟩
              case measure => simp [intOf]
            · rw [crcR_zero hc] at hst
              have HS2 := Lib.hid hst
              have hci : ¬ (((R : Nat) : Int) / 32768 + ((x : Nat) : Int) / 16 % 2) % 2 = 1 := by omega
              have hj7 : (7 : Int) - ((3 : Nat) : Int) = 4 := by omega
              clear hc hst hbx
              rw [hj7]
              go_wp2
              go_round
              case rel => exact ⟨4, by omega, rfl, by rw [HS2.out]; go_num⟩
              case measure => simp [intOf]
          · have hst : crcK x 5 r0 = crcR R (x / 8 % 2) := by rw [HST.out]
            by_cases hc : (R / 32768 + x / 8 % 2) % 2 = 1
            · rw [crcR_one hc] at hst
              have HS2 := Lib.hid hst
              have hci : (((R : Nat) : Int) / 32768 + ((x : Nat) : Int) / 8 % 2) % 2 = 1 := by omega
              have hj7 : (7 : Int) - ((4 : Nat) : Int) = 3 := by omega
              clear hc hst
              rw [hj7]
              go_wp2
              go_round
              case rel => exact ⟨5, by omega, rfl, by rw [HS2.out]⟩
              case measure => simp [intOf]
            · rw [crcR_zero hc] at hst
              have HS2 := Lib.hid hst
              have hci : ¬ (((R : Nat) : Int) / 32768 + ((x : Nat) : Int) / 8 % 2) % 2 = 1 := by omega
              have hj7 : (7 : Int) - ((4 : Nat) : Int) = 3 := by omega
              clear hc hst hbx
              rw [hj7]
              go_wp2
              go_round
              case rel => exact ⟨5, by omega, rfl, by rw [HS2.out]; go_num⟩
              case measure => simp [intOf]
          · have hst : crcK x 6 r0 = crcR R (x / 4 % 2) := by rw [HST.out]
            by_cases hc : (R / 32768 + x / 4 % 2) % 2 = 1
            · rw [crcR_one hc] at hst
              have HS2 := Lib.hid hst
              have hci : (((R : Nat) : Int) / 32768 + ((x : Nat) : Int) / 4 % 2) % 2 = 1 := by omega
              have hj7 : (7 : Int) - ((5 : Nat) : Int) = 2 := by omega
              clear hc hst
              rw [hj7]
              go_wp2
              go_round
              case rel => exact ⟨6, by omega, rfl, by rw [HS2.out]⟩
              case measure => simp [intOf]
            · rw [crcR_zero hc] at hst
              have HS2 := Lib.hid hst
              have hci : ¬ (((R : Nat) : Int) / 32768 + ((x : Nat) : Int) / 4 % 2) % 2 = 1 := by omega
              have hj7 : (7 : Int) - ((5 : Nat) : Int) = 2 := by omega
              clear hc hst hbx
              rw [hj7]
              go_wp2
              go_round
              case rel => exact ⟨6, by omega, rfl, by rw [HS2.out]; go_num⟩
              case measure => simp [intOf]
          · have hst : crcK x 7 r0 = crcR R (x / 2 % 2) := by rw [HST.out]
            by_cases hc : (R / 32768 + x / 2 % 2) % 2 = 1
            · rw [crcR_one hc] at hst
              have HS2 := Lib.hid hst
              have hci : (((R : Nat) : Int) / 32768 + ((x : Nat) : Int) / 2 % 2) % 2 = 1 := by omega
              have hj7 : (7 : Int) - ((6 : Nat) : Int) = 1 := by omega
              clear hc hst
              rw [hj7]
              go_wp2
              go_round
              case rel => exact ⟨7, by omega, rfl, by rw [HS2.out]⟩
              case measure => simp [intOf]
            · rw [crcR_zero hc] at hst
              have HS2 := Lib.hid hst
              have hci : ¬ (((R : Nat) : Int) / 32768 + ((x : Nat) : Int) / 2 % 2) % 2 = 1 := by omega
              have hj7 : (7 : Int) - ((6 : Nat) : Int) = 1 := by omega
              clear hc hst hbx
              rw [hj7]
              go_wp2
              go_round
              case rel => exact ⟨7, by omega, rfl, by rw [HS2.out]; go_num⟩
              case measure => simp [intOf]
          · have hst : crcK x 8 r0 = crcR R (x % 2) := by rw [HST.out]; simp
            by_cases hc : (R / 32768 + x % 2) % 2 = 1
            · rw [crcR_one hc] at hst
              have HS2 := Lib.hid hst
              have hci : (((R : Nat) : Int) / 32768 + ((x : Nat) : Int) % 2) % 2 = 1 := by omega
              have hj7 : (7 : Int) - ((7 : Nat) : Int) = 0 := by omega
              clear hc hst
              rw [hj7]
              go_wp2
              go_round
              case rel => exact ⟨8, by omega, rfl, by rw [HS2.out]⟩
              case measure => simp [intOf]
            · rw [crcR_zero hc] at hst
              have HS2 := Lib.hid hst
              have hci : ¬ (((R : Nat) : Int) / 32768 + ((x : Nat) : Int) % 2) % 2 = 1 := by omega
              have hj7 : (7 : Int) - ((7 : Nat) : Int) = 0 := by omega
              clear hc hst hbx
              rw [hj7]
              go_wp2
              go_round
              case rel => exact ⟨8, by omega, rfl, by rw [HS2.out]; go_num⟩
              case measure => simp [intOf]
        · obtain rfl : j = 8 := by omega
          rw [← HSN.out] at hR ⊢
          obtain ⟨R, hRR⟩ : ∃ R, crcL 65535 (B.take (i + 1)) = R := ⟨_, rfl⟩
          rw [hRR]
          have HRR := Lib.hid hRR
          clear hRR hR
          go_wp2
          go_round
          case rel => exact ⟨i + 1, by omega, by go_num, by rw [HRR.out]⟩
          case measure => simp [intOf]; omega
    · obtain rfl : i = N := by omega
      rw [List.take_of_length_le (by have := HN.out; omega), ← HV.out]
      clear hnl
      go_wp2
      go_ret
      exact ⟨rfl, rfl⟩
end Go.Proofs.Ytpnhiaibidecnaa
