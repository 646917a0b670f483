/- The examples of the chapter: known of law 10 returns true. No conditions. -/
import Derived.Test.YtpnhiaibidecnaaZj
namespace Go.Proofs.Ytpnhiaibidecnaa
open Go.RowKit Go.Shelf

set_option maxRecDepth 100000 in
set_option maxHeartbeats 1600000 in
theorem sums_any (k : Nat) (B : List Nat) (v : Nat) (hv : valS k B = v) (hk : 1 ≤ k ∧ k ≤ 3) (S : ByteArray) (hS : strOf B = S) (hB : ∀ c ∈ B, c < 256) (hl : B.length ≤ 1000) (w : World) :
    Calls Try.prog 25 #[.int .i64 ((k : Nat) : Int), .string S, .int .i64 ((v : Nat) : Int)] w fun e w' => e = .returned (.bool true) ∧ Below w.heap.size w w' := by
  obtain ⟨a, c, w1, hconv, hsrc, hb1, hc1, hc2⟩ := conv_str w B hB hl
  have HR := Lib.hid (of_any ((k : Nat) : Int) (some ⟨a, 0, none⟩) B.length c B w1 hsrc rfl hB (by omega))
  rw [ofC_k hk, hv] at HR
  rw [hS] at hconv
  have HB1 := Lib.hid hb1
  clear hv hS hB hl hsrc hb1 hc1 hc2 hk
  obtain ⟨x1, h1⟩ : ∃ x : Int, ((v : Nat) : Int) = x := ⟨_, rfl⟩
  obtain ⟨x2, h2⟩ : ∃ x : Int, ((k : Nat) : Int) = x := ⟨_, rfl⟩
  rw [h1, h2] at HR ⊢
  clear h1 h2
  go_enter Try.func25, Try.ntmps25
  go_wp2_with fail
  refine HR.out.mono ?_
  rintro e w2 ⟨rfl, hb2⟩
  have HB2 := Lib.hid hb2
  clear hb2
  go_wp2
  go_ret
  exact ⟨rfl, HB1.out.trans (HB2.out.mono HB1.out.size)⟩

set_option maxRecDepth 100000 in
set_option maxHeartbeats 6400000 in
theorem known10_any (w : World) : Calls Try.prog 11 #[] w fun e w' => e = .returned (.bool true) ∧ Below w.heap.size w w' := by
  have S1 := fun w => Lib.hid (sums_any 1 [49, 50, 51, 52, 53, 54, 55, 56, 57] 63018 (by decide +kernel) (by omega) ⟨#[49, 50, 51, 52, 53, 54, 55, 56, 57]⟩ rfl (by decide) (by decide) w)
  have S2 := fun w => Lib.hid (sums_any 2 [49, 50, 51, 52, 53, 54, 55, 56, 57] 10673 (by decide +kernel) (by omega) ⟨#[49, 50, 51, 52, 53, 54, 55, 56, 57]⟩ rfl (by decide) (by decide) w)
  have S3 := fun w => Lib.hid (sums_any 3 [49, 50, 51, 52, 53, 54, 55, 56, 57] 152961502 (by decide +kernel) (by omega) ⟨#[49, 50, 51, 52, 53, 54, 55, 56, 57]⟩ rfl (by decide) (by decide) w)
  have S4 := fun w => Lib.hid (sums_any 1 [] 65535 (by decide +kernel) (by omega) ⟨#[]⟩ rfl (by decide) (by decide) w)
  have S5 := fun w => Lib.hid (sums_any 2 [] 65535 (by decide +kernel) (by omega) ⟨#[]⟩ rfl (by decide) (by decide) w)
  have S6 := fun w => Lib.hid (sums_any 3 [] 1 (by decide +kernel) (by omega) ⟨#[]⟩ rfl (by decide) (by decide) w)
  have B1 := fun w => Lib.hid (bits_any 3 w)
  have B2 := fun w => Lib.hid (bits_any 4 w)
  rw [show bitsC 3 = (32, 0) by decide] at B1
  rw [show bitsC 4 = (0, 2) by decide] at B2
  have Y1 := fun w => Lib.hid (bytes_any 2 258 (by omega) (by decide) w)
  have Y2 := fun w => Lib.hid (bytes_bad 2 65536 (by decide) w)
  unfold BytesOf at Y1
  rw [show bytesL 2 258 = [1, 2] by decide] at Y1
  go_enter Try.func11, Try.ntmps11
  go_wp2_with fail
  refine (S1 _).out.mono ?_
  rintro e w1 ⟨rfl, hb1⟩
  have HB1 := Lib.hid hb1
  clear hb1
  go_wp2_with fail
  refine (S2 _).out.mono ?_
  rintro e w2 ⟨rfl, hb2⟩
  have HB2 := Lib.hid (HB1.out.trans (hb2.mono HB1.out.size))
  clear hb2
  go_wp2_with fail
  refine (S3 _).out.mono ?_
  rintro e w3 ⟨rfl, hb3⟩
  have HB3 := Lib.hid (HB2.out.trans (hb3.mono HB2.out.size))
  clear hb3
  go_wp2_with fail
  refine (S4 _).out.mono ?_
  rintro e w4 ⟨rfl, hb4⟩
  have HB4 := Lib.hid (HB3.out.trans (hb4.mono HB3.out.size))
  clear hb4
  go_wp2_with fail
  refine (S5 _).out.mono ?_
  rintro e w5 ⟨rfl, hb5⟩
  have HB5 := Lib.hid (HB4.out.trans (hb5.mono HB4.out.size))
  clear hb5
  go_wp2_with fail
  refine (S6 _).out.mono ?_
  rintro e w6 ⟨rfl, hb6⟩
  have HB6 := Lib.hid (HB5.out.trans (hb6.mono HB5.out.size))
  clear hb6
  go_wp2_with fail
  refine (B1 _).out.mono ?_
  rintro e w7 ⟨rfl, hb7⟩
  have HB7 := Lib.hid (HB6.out.trans (hb7.mono HB6.out.size))
  clear hb7
  go_wp2_with fail
  refine (B2 _).out.mono ?_
  rintro e w8 ⟨rfl, hb8⟩
  have HB8 := Lib.hid (HB7.out.trans (hb8.mono HB7.out.size))
  clear hb8
  go_wp2_with fail
  refine (Y1 _).out.mono ?_
  rintro e w9 ⟨a, rfl, hs9, _, hb9⟩
  have HB9 := Lib.hid (HB8.out.trans (hb9.mono HB8.out.size))
  have HS9 := Lib.hid hs9
  clear hs9 hb9
  go_wp2_with fail
  refine (Y2 _).out.mono ?_
  rintro e w10 ⟨rfl, hb10⟩
  have HB10 := Lib.hid (HB9.out.trans (hb10.mono HB9.out.size))
  have q1 := conv_src (HS9.out.below hb10 HS9.out.lt) (by decide)
  rw [show strOf [1, 2] = ⟨#[1, 2]⟩ from rfl] at q1
  rw [show ([1, 2] : List Nat).length = 2 from rfl] at q1
  clear hb10
  go_wp2
  go_ret
  exact ⟨rfl, HB10.out⟩
end Go.Proofs.Ytpnhiaibidecnaa
