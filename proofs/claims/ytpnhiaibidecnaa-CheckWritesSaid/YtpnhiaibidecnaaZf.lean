/- Bytes added to both numbers of Adler-32: addAdler. Conditions: the sum and the bytes lie in memory, apart from each other. -/
import Derived.Test.YtpnhiaibidecnaaZb
namespace Go.Proofs.Ytpnhiaibidecnaa
open Go.RowKit Go.Shelf

set_option maxRecDepth 100000 in
set_option maxHeartbeats 3200000 in
theorem addAdler_any (A : Option Addr) (N C : Nat) (B : List Nat) (b : Nat) (s : Nat × Nat) (pos k : Nat) (w : World) (hs : 0 < N → SrcAt w (.slice A N C) B) (hN : N = B.length) (h256 : ∀ x ∈ B, x < 256) (hu : SumAt w b s pos k) (hne : 0 < N → ∀ j, (Value.slice A N C).ownBlock = some j → j ≠ b) (h1 : s.1 < 65521) (h2 : s.2 < 65521) (hl : N ≤ 4294967296) :
    Calls Try.prog 42 #[.pointer (some ⟨b, 0, none⟩), .slice A N C] w fun e w' => e = .returned (.tuple #[]) ∧ SumAt w' b (adl s B) pos k ∧ Rest (fun j => j = b) w w' := by
  have HS := Lib.hid hs
  have HN := Lib.hid hN
  have HU := Lib.hid hu
  have HE := Lib.hid hne
  have H256 := Lib.hid h256
  have HL := fun B => Lib.hid (adl_lt B h1 h2)
  have HM := fun v w => Lib.hid (rem_any v w)
  clear hs hN hu hne h256 h1 h2
  go_enter Try.func42, Try.ntmps42
  go_wp2
  go_loopw [8] (fun x8 wr => ∃ i : Nat, i ≤ N ∧ x8 = .int .i64 ((i : Nat) : Int) ∧ SumAt wr b (adl s (B.take i)) pos k ∧ Rest (fun j => j = b) w wr) (fun x8 _ => N - (intOf x8).toNat)
  case atStart => exact ⟨0, Nat.zero_le _, rfl, by simpa [adl] using HU.out, Rest.refl _ _⟩
  case round =>
    obtain ⟨i, hi, rfl, hsum, hrest⟩ := hrel
    by_cases hlt : i < N
    · have hkB : i < B.length := by rw [← HN.out]; exact hlt
      have hsrc := (HS.out (by omega)).rest hrest (HE.out (by omega))
      obtain ⟨a, rfl, hcell⟩ := src_byte hsrc i hkB
      have hx256 := H256.out _ (List.getElem_mem hkB)
      have hsn := adl_snoc B i hkB s
      have hnl := (HL (B.take i)).out
      obtain ⟨⟨lo, hi2⟩, hS⟩ : ∃ S, adl s (B.take i) = S := ⟨_, rfl⟩
      obtain ⟨x, hx⟩ : ∃ x, B[i] = x := ⟨_, rfl⟩
      rw [hx] at hcell hsn hx256
      rw [hS] at hsum hnl hsn
      dsimp only at hnl hsn
      obtain ⟨hlo, hhi⟩ := hnl
      have HSN := Lib.hid hsn
      have c0 := hsum.c0
      have c1 := hsum.c1
      have f0 := hsum.f0
      have f1 := hsum.f1
      dsimp only at c0 c1
      have hne2 : a.block ≠ b := HE.out (by omega) _ rfl
      have HSU := Lib.hid hsum
      have HRE := Lib.hid hrest
      have hlti : ((i : Nat) : Int) < ((N : Nat) : Int) := by omega
      clear hx hS hsn hsum hrest hsrc
      obtain ⟨l2, hl2⟩ : ∃ l2 : Nat, (lo + x) % 65521 = l2 := ⟨_, rfl⟩
      obtain ⟨h3, hh3⟩ : ∃ h3 : Nat, (hi2 + l2) % 65521 = h3 := ⟨_, rfl⟩
      rw [hl2, hh3] at HSN
      have M1 := fun w => Lib.hid (show Calls Try.prog 36 #[.int .i64 (((lo : Nat) : Int) + ((x : Nat) : Int))] w fun e w' => e = .returned (.int .i64 ((l2 : Nat) : Int)) ∧ w = w' by
        have := rem_any (((lo : Nat) : Int) + ((x : Nat) : Int)) w
        rwa [show (((lo : Nat) : Int) + ((x : Nat) : Int)) % 65521 = ((l2 : Nat) : Int) by omega] at this)
      have M2 := fun w => Lib.hid (show Calls Try.prog 36 #[.int .i64 (((hi2 : Nat) : Int) + ((l2 : Nat) : Int))] w fun e w' => e = .returned (.int .i64 ((h3 : Nat) : Int)) ∧ w = w' by
        have := rem_any (((hi2 : Nat) : Int) + ((l2 : Nat) : Int)) w
        rwa [show (((hi2 : Nat) : Int) + ((l2 : Nat) : Int)) % 65521 = ((h3 : Nat) : Int) by omega] at this)
      have hl2b : l2 < 65521 := by omega
      have HQ := Lib.hid ((HSU.out.set0 l2).set1 h3).drew
      have HR := Lib.hid (((HRE.out.setCell (p := ⟨b, 0, none⟩) (fun _ => rfl) (.int .i64 ((l2 : Nat) : Int))).setCell (p := ⟨b, 1, none⟩) (fun _ => rfl) (.int .i64 ((h3 : Nat) : Int))).drew)
      have hwr : IntKind.i64.wrap (((hi2 : Nat) : Int) + ((l2 : Nat) : Int)) = ((hi2 : Nat) : Int) + ((l2 : Nat) : Int) := wrapi_in (by omega) (by omega)
      clear hl2 hh3
      go_wp2_with (go_at_call 36; refine (M1 _).out.mono ?_; rintro e w' ⟨rfl, rfl⟩)
      go_region_with (go_at_call 36; refine (M2 _).out.mono ?_; rintro e w' ⟨rfl, rfl⟩)
      all_goals
        first
        | go_wp2
        | skip
      all_goals
        go_roundw
        · exact ⟨i + 1, by omega, by go_num, by rw [HSN.out]; exact HQ.out, HR.out⟩
        · simp [intOf]; omega
    · obtain rfl : i = N := by omega
      rw [List.take_of_length_le (by have := HN.out; omega)] at hsum
      go_wp2
      refine bodyPost_end (results_none rfl _ _ _) rfl ?_
      exact ⟨rfl, hsum, hrest⟩
end Go.Proofs.Ytpnhiaibidecnaa
