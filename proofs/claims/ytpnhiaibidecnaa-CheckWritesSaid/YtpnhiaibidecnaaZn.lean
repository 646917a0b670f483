/- The document's own answers of layer 10: Sum, Bytes. Conditions: the bytes lie in memory. -/
import Derived.Test.YtpnhiaibidecnaaZl
import Derived.Test.YtpnhiaibidecnaaZm
import Derived.Test.YtpnhiaibidecnaaZj
namespace Go.Proofs.Ytpnhiaibidecnaa
open Go.RowKit Go.Shelf

set_option maxRecDepth 100000 in
set_option maxHeartbeats 1600000 in
theorem rsum_any (v : Int) (A : Option Addr) (N C : Nat) (B : List Nat) (w : World) (hs : SrcAt w (.slice A N C) B) (hN : N = B.length) (h256 : ∀ x ∈ B, x < 256) (hp : N ≤ 4294967296) : Calls Try.prog 15 #[.int .i64 v, .slice A N C] w fun e w' => e = .returned (.tuple #[.int .i64 (ofC v B).1, .int .i64 (ofC v B).2]) ∧ w = w' := by
  have HO := Lib.hid (ones_any A N C B w hs hN h256 hp)
  have HC := Lib.hid (crc_any A N C B w hs hN h256 hp)
  have HA := Lib.hid (adler_any A N C B w hs hN h256 hp)
  clear hs hN h256 hp
  by_cases h1 : v = 1
  · subst h1
    rw [show (1 : Int) = ((1 : Nat) : Int) from rfl, ofC_k (by omega)]
    obtain ⟨V, hV⟩ : ∃ V, valS 1 B = V := ⟨_, rfl⟩
    rw [hV] at HO ⊢
    clear hV
    go_enter Try.func15, Try.ntmps15
    go_wp2_with (go_at_call 31; refine HO.out.mono ?_; rintro e w' ⟨rfl, rfl⟩)
    go_ret2
    exact ⟨rfl, rfl⟩
  · by_cases h2 : v = 2
    · subst h2
      rw [show (2 : Int) = ((2 : Nat) : Int) from rfl, ofC_k (by omega)]
      obtain ⟨V, hV⟩ : ∃ V, valS 2 B = V := ⟨_, rfl⟩
      rw [hV] at HC ⊢
      clear hV
      go_enter Try.func15, Try.ntmps15
      go_wp2_with (go_at_call 32; refine HC.out.mono ?_; rintro e w' ⟨rfl, rfl⟩)
      go_ret2
      exact ⟨rfl, rfl⟩
    · by_cases h3 : v = 3
      · subst h3
        rw [show (3 : Int) = ((3 : Nat) : Int) from rfl, ofC_k (by omega)]
        obtain ⟨V, hV⟩ : ∃ V, valS 3 B = V := ⟨_, rfl⟩
        rw [hV] at HA ⊢
        clear hV
        go_enter Try.func15, Try.ntmps15
        go_wp2_with (go_at_call 33; refine HA.out.mono ?_; rintro e w' ⟨rfl, rfl⟩)
        go_ret2
        exact ⟨rfl, rfl⟩
      · have hk : kindB v = false := decide_eq_false (by omega)
        rw [ofC_no hk]
        have e1 : (v == 1) = false := by simpa using h1
        have e2 : (v == 2) = false := by simpa using h2
        have e3 : (v == 3) = false := by simpa using h3
        clear hk h1 h2 h3
        go_enter Try.func15, Try.ntmps15
        go_wp2
        go_ret2
        exact ⟨rfl, rfl⟩

set_option maxRecDepth 100000 in
set_option maxHeartbeats 1600000 in
theorem rbytes_bad (v s : Int) (h : bytesB v s = false) (w : World) : Calls Try.prog 17 #[.int .i64 v, .int .i64 s] w fun e w' => e = .returned (.tuple #[.slice none 0 0, .int .i64 2]) ∧ w = w' := by
  have HB := fun w => Lib.hid (rbits_any v w)
  cases hk : kindB v with
  | false =>
    rw [bitsC_no hk] at HB
    clear hk h
    go_enter Try.func17, Try.ntmps17
    go_wp2_with (go_at_call 14; refine (HB _).out.mono ?_; rintro e w' ⟨rfl, rfl⟩)
    go_ret2
    exact ⟨rfl, rfl⟩
  | true =>
    have hf : fitB v.toNat s = false := by unfold bytesB at h; rw [hk] at h; simpa using h
    obtain ⟨k, rfl, hk3⟩ := kindB_of hk
    rw [Int.toNat_natCast] at hf
    rw [bitsC_k hk3] at HB
    unfold fitB at hf
    have hf := of_decide_eq_false hf
    have hb : bitsS k = 16 ∨ bitsS k = 32 := by unfold bitsS; split; exact .inr rfl; exact .inl rfl
    by_cases h0 : s < 0
    · rcases hb with hb | hb
      all_goals
        rw [hb] at HB
        clear hk h hf hk3 hb
        go_enter Try.func17, Try.ntmps17
        go_wp2_with (go_at_call 14; refine (HB _).out.mono ?_; rintro e w' ⟨rfl, rfl⟩)
        go_ret2
        exact ⟨rfl, rfl⟩
    · rcases hb with hb | hb
      · rw [hb] at HB hf
        have hs : (65536 : Int) ≤ s := by
          have : ¬ s < (2:Int) ^ 16 := fun h => hf ⟨by omega, h⟩
          have e : (2 : Int) ^ 16 = 65536 := by decide
          omega
        clear hk h hf hk3 hb
        go_enter Try.func17, Try.ntmps17
        go_wp2_with (go_at_call 14; refine (HB _).out.mono ?_; rintro e w' ⟨rfl, rfl⟩)
        go_ret2
        exact ⟨rfl, rfl⟩
      · rw [hb] at HB hf
        have hs : (4294967296 : Int) ≤ s := by
          have : ¬ s < (2:Int) ^ 32 := fun h => hf ⟨by omega, h⟩
          have e : (2 : Int) ^ 32 = 4294967296 := by decide
          omega
        clear hk h hf hk3 hb
        go_enter Try.func17, Try.ntmps17
        go_wp2_with (go_at_call 14; refine (HB _).out.mono ?_; rintro e w' ⟨rfl, rfl⟩)
        go_ret2
        exact ⟨rfl, rfl⟩

theorem bytesL_len (k s : Nat) : (bytesL k s).length = if k = 3 then 4 else 2 := by unfold bytesL; split <;> rfl

set_option maxRecDepth 100000 in
set_option maxHeartbeats 3200000 in
theorem rbytes_two (k s : Nat) (hk : 1 ≤ k ∧ k ≤ 3) (h3 : k ≠ 3) (hf : fitB k ((s : Nat) : Int) = true) (w : World) : Calls Try.prog 17 #[.int .i64 ((k : Nat) : Int), .int .i64 ((s : Nat) : Int)] w fun e w' => ∃ v, e = .returned (.tuple #[v, .int .i64 0]) ∧ w'.ownsRow w.heap.size 5 1 v (bytesL k s).length (u8s (bytesL k s)) ∧ Below w.heap.size w w' := by
  have HB := fun w => Lib.hid (rbits_any ((k : Nat) : Int) w)
  rw [bitsC_k hk] at HB
  have hb : bitsS k = 16 := by unfold bitsS; rw [if_neg h3]
  rw [hb] at HB
  have hs : s < 65536 := by unfold fitB at hf; rw [hb] at hf; have := (of_decide_eq_true hf).2; omega
  have HL : Hid (bytesL k s = [s / 256 % 256, s % 256]) := Lib.hid (by unfold bytesL; rw [if_neg h3])
  have H0 := Lib.hid (World.ownsRow_nil w w.heap.size 5 1)
  obtain ⟨L, hL⟩ : ∃ L, bytesL k s = L := ⟨_, rfl⟩
  rw [hL] at HL ⊢
  have hsi : ¬ (65536 : Int) ≤ ((s : Nat) : Int) := by omega
  have hs0 : ¬ ((s : Nat) : Int) < 0 := by omega
  have HS := Lib.hid hs
  clear hk h3 hf hb hL hs
  obtain ⟨S, hS⟩ : ∃ S : Int, ((s : Nat) : Int) = S := ⟨_, rfl⟩
  rw [hS] at hsi hs0 ⊢
  have HSS := Lib.hid hS
  clear hS
  go_enter Try.func17, Try.ntmps17
  go_wp2_with (go_at_call 14; refine (HB _).out.mono ?_; rintro e w' ⟨rfl, rfl⟩)
  go_loopw [6, 8] (fun x6 x8 wr => ∃ j : Nat, j ≤ 2 ∧ x6 = .int .i64 (16 - 8 * ((j : Nat) : Int)) ∧ wr.ownsRow w.heap.size 5 1 x8 j (u8s ([s / 256 % 256, s % 256].take j)) ∧ Below w.heap.size w wr) (fun x6 _ _ => (intOf x6).toNat)
  case atStart => exact ⟨0, Nat.zero_le _, rfl, by simpa [u8s] using H0.out, Below.refl _ _⟩
  case round =>
    obtain ⟨j, hj, rfl, hown, hbel⟩ := hrel
    have hs := HS.out
    clear hsi hs0
    have hss := HSS.out
    subst hss
    obtain rfl | rfl | rfl : j = 0 ∨ j = 1 ∨ j = 2 := by omega
    · obtain ⟨v', w', hrun, hown', hb'⟩ := run_append_byte 22 hown hbel.size (((s : Nat) : Int) / 256 % 256) (s / 256 % 256) (by omega) (by omega)
      have HRUN := Lib.hid hrun
      have HOW := Lib.hid hown'
      have HBB := Lib.hid (hbel.trans hb')
      have h16 : (16 : Int) - 8 * ((0 : Nat) : Int) = 16 := by decide
      rw [h16]
      clear hrun hown' hb' hown hbel h16
      go_wp2_with (at_builtin; refine wpList_append_eq rfl _ _ 22 rfl rfl rfl HRUN.out ?_)
      go_roundw
      case rel => exact ⟨1, by omega, rfl, by simpa using HOW.out, HBB.out⟩
      case measure => simp [intOf]
    · obtain ⟨v', w', hrun, hown', hb'⟩ := run_append_byte 22 hown hbel.size (((s : Nat) : Int) % 256) (s % 256) (by omega) (by omega)
      have HRUN := Lib.hid hrun
      have HOW := Lib.hid hown'
      have HBB := Lib.hid (hbel.trans hb')
      have h16 : (16 : Int) - 8 * ((1 : Nat) : Int) = 8 := by decide
      rw [h16]
      clear hrun hown' hb' hown hbel h16
      go_wp2_with (at_builtin; refine wpList_append_eq rfl _ _ 22 rfl rfl rfl HRUN.out ?_)
      go_roundw
      case rel => exact ⟨2, by omega, rfl, by simpa using HOW.out, HBB.out⟩
      case measure => simp [intOf]
    · have HOW := Lib.hid hown
      have HBB := Lib.hid hbel
      have h16 : (16 : Int) - 8 * ((2 : Nat) : Int) = 0 := by decide
      rw [h16]
      clear hown hbel h16
      go_wp2
      go_ret2
      exact ⟨_, rfl, by rw [HL.out]; exact HOW.out, HBB.out⟩

set_option maxRecDepth 100000 in
set_option maxHeartbeats 3200000 in
theorem rbytes_four (s : Nat) (hf : fitB 3 ((s : Nat) : Int) = true) (w : World) : Calls Try.prog 17 #[.int .i64 ((3 : Nat) : Int), .int .i64 ((s : Nat) : Int)] w fun e w' => ∃ v, e = .returned (.tuple #[v, .int .i64 0]) ∧ w'.ownsRow w.heap.size 5 1 v (bytesL 3 s).length (u8s (bytesL 3 s)) ∧ Below w.heap.size w w' := by
  have HB := fun w => Lib.hid (rbits_any ((3 : Nat) : Int) w)
  rw [bitsC_k (by omega)] at HB
  have hb : bitsS 3 = 32 := rfl
  rw [hb] at HB
  have hs : s < 4294967296 := by unfold fitB at hf; rw [hb] at hf; have := (of_decide_eq_true hf).2; omega
  have HL : Hid (bytesL 3 s = [s / 16777216 % 256, s / 65536 % 256, s / 256 % 256, s % 256]) := Lib.hid rfl
  have H0 := Lib.hid (World.ownsRow_nil w w.heap.size 5 1)
  obtain ⟨L, hL⟩ : ∃ L, bytesL 3 s = L := ⟨_, rfl⟩
  rw [hL] at HL ⊢
  have hsi : ¬ (4294967296 : Int) ≤ ((s : Nat) : Int) := by omega
  have hs0 : ¬ ((s : Nat) : Int) < 0 := by omega
  have HS := Lib.hid hs
  obtain ⟨kk, hkk⟩ : ∃ x : Int, ((3 : Nat) : Int) = x := ⟨_, rfl⟩
  rw [hkk] at HB ⊢
  clear hf hb hL hs
  obtain ⟨S, hS⟩ : ∃ S : Int, ((s : Nat) : Int) = S := ⟨_, rfl⟩
  rw [hS] at hsi hs0 ⊢
  have HSS := Lib.hid hS
  clear hS
  go_enter Try.func17, Try.ntmps17
  go_wp2_with (go_at_call 14; refine (HB _).out.mono ?_; rintro e w' ⟨rfl, rfl⟩)
  go_loopw [6, 8] (fun x6 x8 wr => ∃ j : Nat, j ≤ 4 ∧ x6 = .int .i64 (32 - 8 * ((j : Nat) : Int)) ∧ wr.ownsRow w.heap.size 5 1 x8 j (u8s ([s / 16777216 % 256, s / 65536 % 256, s / 256 % 256, s % 256].take j)) ∧ Below w.heap.size w wr) (fun x6 _ _ => (intOf x6).toNat)
  case atStart => exact ⟨0, Nat.zero_le _, rfl, by simpa [u8s] using H0.out, Below.refl _ _⟩
  case round =>
    obtain ⟨j, hj, rfl, hown, hbel⟩ := hrel
    have hs := HS.out
    clear hsi hs0
    have hss := HSS.out
    subst hss
    obtain rfl | rfl | rfl | rfl | rfl : j = 0 ∨ j = 1 ∨ j = 2 ∨ j = 3 ∨ j = 4 := by omega
    · obtain ⟨v', w', hrun, hown', hb'⟩ := run_append_byte 22 hown hbel.size (((s : Nat) : Int) / 16777216 % 256) (s / 16777216 % 256) (by omega) (by omega)
      have HRUN := Lib.hid hrun
      have HOW := Lib.hid hown'
      have HBB := Lib.hid (hbel.trans hb')
      have h16 : (32 : Int) - 8 * ((0 : Nat) : Int) = 32 := by decide
      rw [h16]
      clear hrun hown' hb' hown hbel h16
      go_wp2_with (at_builtin; refine wpList_append_eq rfl _ _ 22 rfl rfl rfl HRUN.out ?_)
      go_roundw
      case rel => exact ⟨1, by omega, rfl, by simpa using HOW.out, HBB.out⟩
      case measure => simp [intOf]
    · obtain ⟨v', w', hrun, hown', hb'⟩ := run_append_byte 22 hown hbel.size (((s : Nat) : Int) / 65536 % 256) (s / 65536 % 256) (by omega) (by omega)
      have HRUN := Lib.hid hrun
      have HOW := Lib.hid hown'
      have HBB := Lib.hid (hbel.trans hb')
      have h16 : (32 : Int) - 8 * ((1 : Nat) : Int) = 24 := by decide
      rw [h16]
      clear hrun hown' hb' hown hbel h16
      go_wp2_with (at_builtin; refine wpList_append_eq rfl _ _ 22 rfl rfl rfl HRUN.out ?_)
      go_roundw
      case rel => exact ⟨2, by omega, rfl, by simpa using HOW.out, HBB.out⟩
      case measure => simp [intOf]
    · obtain ⟨v', w', hrun, hown', hb'⟩ := run_append_byte 22 hown hbel.size (((s : Nat) : Int) / 256 % 256) (s / 256 % 256) (by omega) (by omega)
      have HRUN := Lib.hid hrun
      have HOW := Lib.hid hown'
      have HBB := Lib.hid (hbel.trans hb')
      have h16 : (32 : Int) - 8 * ((2 : Nat) : Int) = 16 := by decide
      rw [h16]
      clear hrun hown' hb' hown hbel h16
      go_wp2_with (at_builtin; refine wpList_append_eq rfl _ _ 22 rfl rfl rfl HRUN.out ?_)
      go_roundw
      case rel => exact ⟨3, by omega, rfl, by simpa using HOW.out, HBB.out⟩
      case measure => simp [intOf]
    · obtain ⟨v', w', hrun, hown', hb'⟩ := run_append_byte 22 hown hbel.size (((s : Nat) : Int) % 256) (s % 256) (by omega) (by omega)
      have HRUN := Lib.hid hrun
      have HOW := Lib.hid hown'
      have HBB := Lib.hid (hbel.trans hb')
      have h16 : (32 : Int) - 8 * ((3 : Nat) : Int) = 8 := by decide
      rw [h16]
      clear hrun hown' hb' hown hbel h16
      go_wp2_with (at_builtin; refine wpList_append_eq rfl _ _ 22 rfl rfl rfl HRUN.out ?_)
      go_roundw
      case rel => exact ⟨4, by omega, rfl, by simpa using HOW.out, HBB.out⟩
      case measure => simp [intOf]
    · have HOW := Lib.hid hown
      have HBB := Lib.hid hbel
      have h16 : (32 : Int) - 8 * ((4 : Nat) : Int) = 0 := by decide
      rw [h16]
      clear hown hbel h16
      go_wp2
      go_ret2
      exact ⟨_, rfl, by rw [HL.out]; exact HOW.out, HBB.out⟩

theorem rbytes_any (k s : Nat) (hk : 1 ≤ k ∧ k ≤ 3) (hf : fitB k ((s : Nat) : Int) = true) (w : World) : Calls Try.prog 17 #[.int .i64 ((k : Nat) : Int), .int .i64 ((s : Nat) : Int)] w fun e w' => ∃ v, e = .returned (.tuple #[v, .int .i64 0]) ∧ w'.ownsRow w.heap.size 5 1 v (bytesL k s).length (u8s (bytesL k s)) ∧ Below w.heap.size w w' := by
  by_cases h3 : k = 3
  · subst h3
    exact rbytes_four s hf w
  · exact rbytes_two k s hk h3 hf w
end Go.Proofs.Ytpnhiaibidecnaa
