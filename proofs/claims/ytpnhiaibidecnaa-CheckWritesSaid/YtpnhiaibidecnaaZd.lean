/- Bytes added to the sum in ones' complement: addOnes; onesSum. Conditions: the sum and the bytes lie in memory, apart from each other. -/
import Derived.Test.YtpnhiaibidecnaaZb
namespace Go.Proofs.Ytpnhiaibidecnaa
open Go.RowKit Go.Shelf

set_option maxRecDepth 100000 in
set_option maxHeartbeats 800000 in
theorem onesSum_any (b : Nat) (s : Nat × Nat) (n k : Nat) (w : World) (hs : SumAt w b s n k) (h1 : s.1 ≤ 65535) : Calls Try.prog 39 #[.pointer (some ⟨b, 0, none⟩)] w fun e w' => e = .returned (.int .i64 ((65535 - s.1 : Nat) : Int)) ∧ w = w' := by
  obtain ⟨c0, _, _, _, _, _, _⟩ := hs
  go_enter Try.func39, Try.ntmps39
  go_wp2
  go_ret
  exact ⟨ret_int' (by omega), rfl⟩

set_option maxRecDepth 100000 in
set_option maxHeartbeats 800000 in
theorem crcSum_any (b : Nat) (s : Nat × Nat) (n k : Nat) (w : World) (hs : SumAt w b s n k) : Calls Try.prog 41 #[.pointer (some ⟨b, 0, none⟩)] w fun e w' => e = .returned (.int .i64 ((s.1 : Nat) : Int)) ∧ w = w' := by
  obtain ⟨c0, _, _, _, _, _, _⟩ := hs
  go_enter Try.func41, Try.ntmps41
  go_wp2
  go_ret
  exact ⟨rfl, rfl⟩

set_option maxRecDepth 100000 in
set_option maxHeartbeats 3200000 in
theorem addOnes_any (A : Option Addr) (N C : Nat) (B : List Nat) (b : Nat) (s : Nat × Nat) (pos k : Nat) (w : World) (hs : 0 < N → SrcAt w (.slice A N C) B) (hN : N = B.length) (h256 : ∀ x ∈ B, x < 256) (hu : SumAt w b s pos k) (hne : 0 < N → ∀ j, (Value.slice A N C).ownBlock = some j → j ≠ b) (h1 : s.1 ≤ 65535) (hp : pos + N ≤ 4294967296) :
    Calls Try.prog 38 #[.pointer (some ⟨b, 0, none⟩), .slice A N C] w fun e w' => e = .returned (.tuple #[]) ∧ SumAt w' b (nrm (s.1 + tot pos B), s.2) pos k ∧ Rest (fun j => j = b) w w' := by
  have HS := Lib.hid hs
  have HN := Lib.hid hN
  have HU := Lib.hid hu
  have HE := Lib.hid hne
  have H256 := Lib.hid h256
  have H1 := Lib.hid h1
  clear hs hN hu hne h256
  go_enter Try.func38, Try.ntmps38
  go_wp2
  go_loopw [9] (fun x9 wr => ∃ i : Nat, i ≤ N ∧ x9 = .int .i64 ((i : Nat) : Int) ∧ SumAt wr b (nrm (s.1 + tot pos (B.take i)), s.2) pos k ∧ Rest (fun j => j = b) w wr) (fun x9 _ => N - (intOf x9).toNat)
  case atStart => exact ⟨0, Nat.zero_le _, rfl, by simpa [tot, nrm_small H1.out] using HU.out, Rest.refl _ _⟩
  case round =>
    obtain ⟨i, hi, rfl, hsum, hrest⟩ := hrel
    by_cases hlt : i < N
    · have hkB : i < B.length := by rw [← HN.out]; exact hlt
      have hsrc := (HS.out (by omega)).rest hrest (HE.out (by omega))
      obtain ⟨a, rfl, hcell⟩ := src_byte hsrc i hkB
      have hx256 := H256.out _ (List.getElem_mem hkB)
      have hsn := tot_snoc B i hkB pos
      have hnl := nrm_le (s.1 + tot pos (B.take i))
      obtain ⟨S, hS⟩ : ∃ S, nrm (s.1 + tot pos (B.take i)) = S := ⟨_, rfl⟩
      have hno : ∀ v, nrm (S + v) = nrm (s.1 + (tot pos (B.take i) + v)) := fun v => by rw [← hS, nrm_add, Nat.add_assoc]
      obtain ⟨x, hx⟩ : ∃ x, B[i] = x := ⟨_, rfl⟩
      rw [hx] at hcell hsn hx256
      rw [hS] at hsum hnl
      have HSN := Lib.hid hsn
      have HNO := Lib.hid hno
      have c0 := hsum.c0
      have c2 := hsum.c2
      have f0 := hsum.f0
      dsimp only at c0
      have hne2 : a.block ≠ b := HE.out (by omega) _ rfl
      have HSU := Lib.hid hsum
      have HRE := Lib.hid hrest
      have hlti : ((i : Nat) : Int) < ((N : Nat) : Int) := by omega
      clear hx hS hsn hno hsum hrest hsrc
      by_cases hpar : (pos + i) % 2 = 0
      · have hpi : (((pos : Nat) : Int) + ((i : Nat) : Int)) % 2 = 0 := by omega
        go_wp2
        go_region
        rw [if_pos hpar] at HSN
        have hq := HSU.out.set0 (x := S + x * 256)
        have hq2 := (hq.set0 (nrm (S + x * 256))).drew
        have hfold : (((S : Nat) : Int) + ((x : Nat) : Int) * 256) / 65536 + (((S : Nat) : Int) + ((x : Nat) : Int) * 256) % 65536 = ((nrm (S + x * 256) : Nat) : Int) := by
          rw [← nrm_once (by omega)]; omega
        have hcast : ((S : Nat) : Int) + ((x : Nat) : Int) * 256 = ((S + x * 256 : Nat) : Int) := by omega
        have hval : nrm (S + x * 256) = nrm (s.1 + tot pos (B.take (i + 1))) := by rw [HNO.out, HSN.out, Nat.mul_comm x 256]
        rw [hfold, hcast]
        rw [hval] at hq2 ⊢
        have HQ := Lib.hid hq2
        have HR2 := Lib.hid (((HRE.out.setCell (p := ⟨b, 0, none⟩) (fun _ => rfl) (.int .i64 ((S + x * 256 : Nat) : Int))).setCell (p := ⟨b, 0, none⟩) (fun _ => rfl) (.int .i64 ((nrm (s.1 + tot pos (B.take (i + 1))) : Nat) : Int))).drew)
        clear hq hq2 hfold hcast hval
        go_wp2
        go_roundw
        case rel => exact ⟨i + 1, by omega, by go_num, HQ.out, HR2.out⟩
        case measure => simp [intOf]; omega
      · have hpi : (((pos : Nat) : Int) + ((i : Nat) : Int)) % 2 ≠ 0 := by omega
        have hpj : (((pos : Nat) : Int) + ((i : Nat) : Int)) % 2 = 1 := by omega
        go_wp2
        go_region
        rw [if_neg hpar] at HSN
        have hq := HSU.out.set0 (x := S + x)
        have hq2 := (hq.set0 (nrm (S + x))).drew
        have hfold : (((S : Nat) : Int) + ((x : Nat) : Int)) / 65536 + (((S : Nat) : Int) + ((x : Nat) : Int)) % 65536 = ((nrm (S + x) : Nat) : Int) := by
          rw [← nrm_once (by omega)]; omega
        have hcast : ((S : Nat) : Int) + ((x : Nat) : Int) = ((S + x : Nat) : Int) := by omega
        have hval : nrm (S + x) = nrm (s.1 + tot pos (B.take (i + 1))) := by rw [HNO.out, HSN.out]
        rw [hfold, hcast]
        rw [hval] at hq2 ⊢
        have HQ := Lib.hid hq2
        have HR2 := Lib.hid (((HRE.out.setCell (p := ⟨b, 0, none⟩) (fun _ => rfl) (.int .i64 ((S + x : Nat) : Int))).setCell (p := ⟨b, 0, none⟩) (fun _ => rfl) (.int .i64 ((nrm (s.1 + tot pos (B.take (i + 1))) : Nat) : Int))).drew)
        clear hq hq2 hfold hcast hval
        go_wp2
        go_roundw
        case rel => exact ⟨i + 1, by omega, by go_num, HQ.out, HR2.out⟩
        case measure => simp [intOf]; omega
    · obtain rfl : i = N := by omega
      rw [List.take_of_length_le (by have := HN.out; omega)] at hsum
      go_wp2
      refine bodyPost_end (results_none rfl _ _ _) rfl ?_
      exact ⟨rfl, hsum, hrest⟩
end Go.Proofs.Ytpnhiaibidecnaa
