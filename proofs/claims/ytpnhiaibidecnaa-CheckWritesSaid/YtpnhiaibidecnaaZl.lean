/- The document's own answers of layer 10: Bits, the three checksums, Sum. Conditions: the bytes lie in memory. -/
import Derived.Test.YtpnhiaibidecnaaZh
namespace Go.Proofs.Ytpnhiaibidecnaa
open Go.RowKit Go.Shelf

set_option maxRecDepth 100000 in
set_option maxHeartbeats 1600000 in
theorem rbits_any (v : Int) (w : World) : Calls Try.prog 14 #[.int .i64 v] w fun e w' => e = .returned (.tuple #[.int .i64 (bitsC v).1, .int .i64 (bitsC v).2]) ∧ w = w' := by
  by_cases h1 : v = 1
  · subst h1
    go_enter Try.func14, Try.ntmps14
    go_wp2
    go_ret2
    exact ⟨rfl, rfl⟩
  · by_cases h2 : v = 2
    · subst h2
      go_enter Try.func14, Try.ntmps14
      go_wp2
      go_ret2
      exact ⟨rfl, rfl⟩
    · by_cases h3 : v = 3
      · subst h3
        go_enter Try.func14, Try.ntmps14
        go_wp2
        go_ret2
        exact ⟨rfl, rfl⟩
      · have hk : kindB v = false := decide_eq_false (by omega)
        rw [bitsC_no hk]
        have e1 : (v == 1) = false := by simpa using h1
        have e2 : (v == 2) = false := by simpa using h2
        have e3 : (v == 3) = false := by simpa using h3
        clear hk h1 h2 h3
        go_enter Try.func14, Try.ntmps14
        go_wp2
        go_ret2
        exact ⟨rfl, rfl⟩

set_option maxRecDepth 100000 in
set_option maxHeartbeats 3200000 in
theorem ones_any (A : Option Addr) (N C : Nat) (B : List Nat) (w : World) (hs : SrcAt w (.slice A N C) B) (hN : N = B.length) (h256 : ∀ x ∈ B, x < 256) (hp : N ≤ 4294967296) : Calls Try.prog 31 #[.slice A N C] w fun e w' => e = .returned (.int .i64 ((valS 1 B : Nat) : Int)) ∧ w = w' := by
  have HS := Lib.hid hs
  have HN := Lib.hid hN
  have H256 := Lib.hid h256
  have HT := fun i => Lib.hid (tot_le (B.take i) 0 (fun x hx => h256 x (List.mem_of_mem_take hx)))
  have HV : Hid (valS 1 B = 65535 - nrm (tot 0 B)) := Lib.hid (by unfold valS fin stS addS beg; simp)
  obtain ⟨V, hV⟩ : ∃ V, valS 1 B = V := ⟨_, rfl⟩
  rw [hV] at HV ⊢
  clear hs hN h256 hV
  go_enter Try.func31, Try.ntmps31
  go_wp2
  go_loop [3, 4] (fun x3 x4 => ∃ i : Nat, i ≤ N ∧ x4 = .int .i64 ((i : Nat) : Int) ∧ x3 = .int .i64 ((tot 0 (B.take i) : Nat) : Int)) (fun _ x4 => N - (intOf x4).toNat)
  case atStart => exact ⟨0, Nat.zero_le _, rfl, rfl⟩
  case round =>
    obtain ⟨i, hi, rfl, rfl⟩ := hrel
    by_cases hlt : i < N
    · have hkB : i < B.length := by rw [← HN.out]; exact hlt
      obtain ⟨a, rfl, hcell⟩ := src_byte HS.out i hkB
      have hx256 := H256.out _ (List.getElem_mem hkB)
      have hsn := tot_snoc B i hkB 0
      have ht := (HT i).out
      rw [List.length_take, Nat.min_eq_left (by omega)] at ht
      obtain ⟨S, hS⟩ : ∃ S, tot 0 (B.take i) = S := ⟨_, rfl⟩
      obtain ⟨x, hx⟩ : ∃ x, B[i] = x := ⟨_, rfl⟩
      rw [hx] at hcell hsn hx256
      rw [hS] at hsn ht ⊢
      have hS2 : S ≤ 281474976710656 := by omega
      have hlti : ((i : Nat) : Int) < ((N : Nat) : Int) := by omega
      clear hx hS
      by_cases hpar : i % 2 = 0
      · rw [Nat.zero_add, if_pos hpar] at hsn
        have HSN := Lib.hid hsn
        have hpi : ((i : Nat) : Int) % 2 = 0 := by omega
        clear hsn ht hpar
        go_wp2
        go_round
        case rel => exact ⟨i + 1, by omega, by go_num, by rw [HSN.out]; go_num⟩
        case measure => simp [intOf]; omega
      · rw [Nat.zero_add, if_neg hpar] at hsn
        have HSN := Lib.hid hsn
        have hpi : ((i : Nat) : Int) % 2 = 1 := by omega
        clear hsn ht hpar
        go_wp2
        go_round
        case rel => exact ⟨i + 1, by omega, by go_num, by rw [HSN.out]; go_num⟩
        case measure => simp [intOf]; omega
    · obtain rfl : i = N := by omega
      have ht := (HT i).out
      rw [List.length_take, List.take_of_length_le (by have := HN.out; omega)] at ht
      rw [List.take_of_length_le (by have := HN.out; omega)]
      obtain ⟨S, hS⟩ : ∃ S, tot 0 B = S := ⟨_, rfl⟩
      rw [hS] at ht HV ⊢
      have hS2 : S ≤ 281474976710656 := by omega
      clear ht hS
      go_wp2
      go_loop [3] (fun x3 => ∃ s : Nat, s ≤ 281474976710656 ∧ x3 = .int .i64 ((s : Nat) : Int) ∧ nrm s = nrm S) (fun x3 => (intOf x3).toNat)
      case atStart => exact ⟨S, hS2, rfl, rfl⟩
      case round =>
        obtain ⟨s, hs, rfl, hn⟩ := hrel
        have HNR := Lib.hid hn
        clear hn
        by_cases hgt : 65535 < s
        · have hgi : (65535 : Int) < ((s : Nat) : Int) := by omega
          go_wp2
          go_round
          case rel => exact ⟨s % 65536 + s / 65536, by omega, by go_num, by rw [Nat.add_comm, nrm_fold, HNR.out]⟩
          case measure => simp [intOf]; omega
        · have hgi : ((s : Nat) : Int) ≤ 65535 := by omega
          go_wp2
          go_ret
          refine ⟨ret_int' ?_, rfl⟩
          rw [HV.out, ← HNR.out, nrm_small (by omega)]
          omega

set_option maxRecDepth 100000 in
set_option maxHeartbeats 3200000 in
theorem adler_any (A : Option Addr) (N C : Nat) (B : List Nat) (w : World) (hs : SrcAt w (.slice A N C) B) (hN : N = B.length) (h256 : ∀ x ∈ B, x < 256) (hp : N ≤ 4294967296) : Calls Try.prog 33 #[.slice A N C] w fun e w' => e = .returned (.int .i64 ((valS 3 B : Nat) : Int)) ∧ w = w' := by
  have HS := Lib.hid hs
  have HN := Lib.hid hN
  have H256 := Lib.hid h256
  have HL := fun i => Lib.hid (adl_lt (B.take i) (s := (1, 0)) (by decide) (by decide))
  have HV : Hid (valS 3 B = (adl (1, 0) B).2 * 65536 + (adl (1, 0) B).1) := Lib.hid rfl
  obtain ⟨V, hV⟩ : ∃ V, valS 3 B = V := ⟨_, rfl⟩
  rw [hV] at HV ⊢
  clear hs hN h256 hV
  go_enter Try.func33, Try.ntmps33
  go_wp2
  go_loop [3, 4, 5] (fun x3 x4 x5 => ∃ i : Nat, i ≤ N ∧ x5 = .int .i64 ((i : Nat) : Int) ∧ x3 = .int .i64 (((adl (1, 0) (B.take i)).1 : Nat) : Int) ∧ x4 = .int .i64 (((adl (1, 0) (B.take i)).2 : Nat) : Int)) (fun _ _ x5 => N - (intOf x5).toNat)
  case atStart => exact ⟨0, Nat.zero_le _, rfl, rfl, rfl⟩
  case round =>
    obtain ⟨i, hi, rfl, rfl, rfl⟩ := hrel
    have hnl := (HL i).out
    by_cases hlt : i < N
    · have hkB : i < B.length := by rw [← HN.out]; exact hlt
      obtain ⟨a, rfl, hcell⟩ := src_byte HS.out i hkB
      have hx256 := H256.out _ (List.getElem_mem hkB)
      have hsn := adl_snoc B i hkB (1, 0)
      obtain ⟨⟨lo, hi2⟩, hS⟩ : ∃ S, adl (1, 0) (B.take i) = S := ⟨_, rfl⟩
      obtain ⟨x, hx⟩ : ∃ x, B[i] = x := ⟨_, rfl⟩
      rw [hx] at hcell hsn hx256
      rw [hS] at hnl hsn ⊢
      dsimp only at hnl hsn ⊢
      obtain ⟨hlo, hhi⟩ := hnl
      have HSN := Lib.hid hsn
      have hlti : ((i : Nat) : Int) < ((N : Nat) : Int) := by omega
      clear hx hS hsn
      go_wp2
      go_round
      case rel => exact ⟨i + 1, by omega, by go_num, by rw [HSN.out]; go_num, by rw [HSN.out]; go_num⟩
      case measure => simp [intOf]; omega
    · obtain rfl : i = N := by omega
      rw [List.take_of_length_le (by have := HN.out; omega)] at hnl ⊢
      obtain ⟨⟨lo, hi2⟩, hS⟩ : ∃ S, adl (1, 0) B = S := ⟨_, rfl⟩
      rw [hS] at hnl HV ⊢
      dsimp only at hnl HV ⊢
      obtain ⟨hlo, hhi⟩ := hnl
      clear hS
      go_wp2
      go_ret
      refine ⟨ret_int' ?_, rfl⟩
      rw [HV.out]
      omega
end Go.Proofs.Ytpnhiaibidecnaa
