/- The walks of CheckSums, CheckBytes, CheckJoins. Conditions: the bytes lie in memory. -/
import Derived.Test.YtpnhiaibidecnaaZn
import Derived.Test.YtpnhiaibidecnaaZo
import Derived.Test.YtpnhiaibidecnaaZp
namespace Go.Proofs.Ytpnhiaibidecnaa
open Go.RowKit Go.Shelf

set_option maxRecDepth 100000 in
set_option maxHeartbeats 3200000 in
theorem sumsLaw_walk (v : Int) (A : Option Addr) (N C : Nat) (B : List Nat) (w : World) (hs : SrcAt w (.slice A N C) B) (hN : N = B.length) (h256 : ∀ x ∈ B, x < 256) :
    Calls Try.prog 3 #[.int .i64 v, .slice A N C] w fun e w' => e = .returned (.bool true) ∧ Below w.heap.size w w' := by
  have KN := fun w => Lib.hid (known10_any w)
  by_cases hl : 3000 < N
  · clear hs hN h256
    go_enter Try.func3, Try.ntmps3
    go_wp2_with fail
    refine (KN _).out.mono ?_
    rintro e w' ⟨rfl, hb⟩
    go_wp2
    go_ret
    exact ⟨rfl, hb⟩
  · have HB := fun w => Lib.hid (bits_any v w)
    have HRB := fun w => Lib.hid (rbits_any v w)
    have HO := fun w hs => Lib.hid (of_any v A N C B w hs hN h256 (by omega))
    have HRS := fun w hs => Lib.hid (rsum_any v A N C B w hs hN h256 (by omega))
    have HS := Lib.hid hs
    obtain ⟨⟨b1, b2⟩, hb⟩ : ∃ r, bitsC v = r := ⟨_, rfl⟩
    obtain ⟨⟨o1, o2⟩, ho⟩ : ∃ r, ofC v B = r := ⟨_, rfl⟩
    simp only [hb] at HB HRB
    simp only [ho] at HO HRS
    clear hs hN h256 hb ho
    go_enter Try.func3, Try.ntmps3
    go_wp2_with fail
    refine (HB _).out.mono ?_
    rintro e w1 ⟨rfl, hb1⟩
    have HB1 := Lib.hid hb1
    clear hb1
    go_wp2_with fail
    refine (HO _ (HS.out.below HB1.out HS.out.lt)).out.mono ?_
    rintro e w2 ⟨rfl, hb2⟩
    have HB2 := Lib.hid (HB1.out.trans (hb2.mono HB1.out.size))
    clear hb2
    go_wp2_with fail
    refine (HRB _).out.mono ?_
    rintro e w' ⟨rfl, rfl⟩
    go_wp2_with fail
    refine (HRS _ (HS.out.below HB2.out HS.out.lt)).out.mono ?_
    rintro e w' ⟨rfl, rfl⟩
    go_wp2_with fail
    refine (KN _).out.mono ?_
    rintro e w3 ⟨rfl, hb3⟩
    have HB3 := Lib.hid (HB2.out.trans (hb3.mono HB2.out.size))
    clear hb3
    go_wp2
    go_ret
    exact ⟨rfl, HB3.out⟩

set_option maxRecDepth 100000 in
set_option maxHeartbeats 3200000 in
theorem joinsLaw_walk (f s l : Int) (w : World) : Calls Try.prog 6 #[.int .i64 f, .int .i64 s, .int .i64 l] w fun e w' => e = .returned (.bool true) ∧ Below w.heap.size w w' := by
  have KN := fun w => Lib.hid (known10_any w)
  have HJ := fun w => Lib.hid (join_any f s l w)
  have HRJ := fun w => Lib.hid (rjoin_any f s l w)
  obtain ⟨⟨b1, b2⟩, hb⟩ : ∃ r, joinC f s l = r := ⟨_, rfl⟩
  simp only [hb] at HJ HRJ
  clear hb
  go_enter Try.func6, Try.ntmps6
  go_wp2_with fail
  refine (HJ _).out.mono ?_
  rintro e w1 ⟨rfl, hb1⟩
  have HB1 := Lib.hid hb1
  clear hb1
  go_wp2_with fail
  refine (HRJ _).out.mono ?_
  rintro e w' ⟨rfl, rfl⟩
  go_wp2_with fail
  refine (KN _).out.mono ?_
  rintro e w3 ⟨rfl, hb3⟩
  have HB3 := Lib.hid (HB1.out.trans (hb3.mono HB1.out.size))
  clear hb3
  go_wp2
  go_ret
  exact ⟨rfl, HB3.out⟩

theorem bytesL_small (k s : Nat) : ∀ c ∈ bytesL k s, c < 256 := by
  unfold bytesL
  split
  · intro c hc
    simp only [List.mem_cons, List.not_mem_nil, or_false] at hc
    omega
  · intro c hc
    simp only [List.mem_cons, List.not_mem_nil, or_false] at hc
    omega

set_option maxRecDepth 100000 in
set_option maxHeartbeats 3200000 in
theorem bytesLaw_walk (v s : Int) (w : World) : Calls Try.prog 4 #[.int .i64 v, .int .i64 s] w fun e w' => e = .returned (.bool true) ∧ Below w.heap.size w w' := by
  have KN := fun w => Lib.hid (known10_any w)
  cases h : bytesB v s with
  | false =>
    have HY := fun w => Lib.hid (bytes_bad v s h w)
    have HRY := fun w => Lib.hid (rbytes_bad v s h w)
    clear h
    go_enter Try.func4, Try.ntmps4
    go_wp2_with fail
    refine (HY _).out.mono ?_
    rintro e w1 ⟨rfl, hb1⟩
    have HB1 := Lib.hid hb1
    clear hb1
    go_wp2_with fail
    refine (HRY _).out.mono ?_
    rintro e w' ⟨rfl, rfl⟩
    have q1 := conv_src (w := w1) (s := .slice none 0 0) (B := []) (.inl ⟨rfl, rfl⟩) (by simp)
    go_wp2_with fail
    clear q1
    refine (KN _).out.mono ?_
    rintro e w3 ⟨rfl, hb3⟩
    have HB3 := Lib.hid (HB1.out.trans (hb3.mono HB1.out.size))
    clear hb3
    go_wp2
    go_ret
    exact ⟨rfl, HB3.out⟩
  | true =>
    have hk : kindB v = true := by unfold bytesB at h; rw [Bool.and_eq_true] at h; exact h.1
    have hf : fitB v.toNat s = true := by unfold bytesB at h; rw [Bool.and_eq_true] at h; exact h.2
    obtain ⟨k, rfl, hk3⟩ := kindB_of hk
    rw [Int.toNat_natCast] at hf
    obtain ⟨S, rfl⟩ : ∃ F : Nat, s = ((F : Nat) : Int) := ⟨s.toNat, by
      unfold fitB at hf
      have := (of_decide_eq_true hf).1
      omega⟩
    have HY := fun w => Lib.hid (bytes_any k S hk3 hf w)
    have HRY := fun w => Lib.hid (rbytes_any k S hk3 hf w)
    unfold BytesOf at HY
    have HL := Lib.hid (bytesL_small k S)
    obtain ⟨L, hL⟩ : ∃ L, bytesL k S = L := ⟨_, rfl⟩
    rw [hL] at HY HL
    simp only [hL] at HRY
    obtain ⟨m, hm⟩ : ∃ m, L.length = m := ⟨_, rfl⟩
    rw [hm] at HY
    simp only [hm] at HRY
    clear h hk hf hk3 hL hm
    go_enter Try.func4, Try.ntmps4
    go_wp2_with fail
    refine (HY _).out.mono ?_
    rintro e w1 ⟨a, rfl, hs1, _, hb1⟩
    have HB1 := Lib.hid hb1
    have HS1 := Lib.hid hs1
    clear hb1 hs1
    go_wp2_with fail
    refine (HRY _).out.mono ?_
    rintro e w2 ⟨v2, rfl, hown, hb2⟩
    have HB2 := Lib.hid (HB1.out.trans (hb2.mono HB1.out.size))
    obtain ⟨A2, c2, rfl⟩ : ∃ A c, v2 = .slice A m c := by
      rcases hown.2 with ⟨rfl, rfl⟩ | ⟨g, cap, cur, rfl, _⟩
      · exact ⟨none, 0, rfl⟩
      · exact ⟨_, _, rfl⟩
    have q1 := conv_src (HS1.out.below hb2 HS1.out.lt) HL.out
    have q2 := conv_src (SrcAt.of_row hown) HL.out
    obtain ⟨T, hT⟩ : ∃ T, strOf L = T := ⟨_, rfl⟩
    rw [hT] at q1 q2
    clear hown hb2 hT
    go_wp2_with fail
    clear q1 q2
    refine (KN _).out.mono ?_
    rintro e w3 ⟨rfl, hb3⟩
    have HB3 := Lib.hid (HB2.out.trans (hb3.mono HB2.out.size))
    clear hb3
    go_wp2
    go_ret
    exact ⟨rfl, HB3.out⟩
end Go.Proofs.Ytpnhiaibidecnaa
