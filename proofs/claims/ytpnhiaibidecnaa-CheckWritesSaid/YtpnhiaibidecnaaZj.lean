/- Package check: the bytes of a checksum. No conditions. -/
import Derived.Test.YtpnhiaibidecnaaZh
import Derived.Test.YtpnhiaibidecnaaZk
namespace Go.Proofs.Ytpnhiaibidecnaa
open Go.RowKit Go.Shelf

/-- The bytes of a checksum. -/
def bytesL (k s : Nat) : List Nat := if k = 3 then [s / 16777216 % 256, s / 65536 % 256, s / 256 % 256, s % 256] else [s / 256 % 256, s % 256]
/-- Is there an answer? -/
def bytesB (v s : Int) : Bool := kindB v && fitB v.toNat s

set_option maxRecDepth 100000 in
set_option maxHeartbeats 1600000 in
theorem bytes_bad (v s : Int) (h : bytesB v s = false) (w : World) : Calls Try.prog 16 #[.int .i64 v, .int .i64 s] w fun e w' => e = .returned (.tuple #[.slice none 0 0, .int .i64 2]) ∧ Below w.heap.size w w' := by
  have HE := fun w => Lib.hid (exists_any v w)
  have HB := Lib.hid (Below.refl w.heap.size w)
  cases hk : kindB v with
  | false =>
    rw [hk] at HE
    clear hk h
    go_enter Try.func16, Try.ntmps16
    go_wp2_with (go_at_call 26; refine (HE _).out.mono ?_; rintro e w' ⟨rfl, rfl⟩)
    go_ret2
    exact ⟨rfl, HB.out⟩
  | true =>
    rw [hk] at HE
    have hf : fitB v.toNat s = false := by unfold bytesB at h; rw [hk] at h; simpa using h
    obtain ⟨k, rfl, hk3⟩ := kindB_of hk
    rw [Int.toNat_natCast] at hf
    have HF := fun w => Lib.hid (fits_any k hk3 s w)
    rw [hf] at HF
    clear hk h hf hk3
    go_enter Try.func16, Try.ntmps16
    go_wp2_with (first | (go_at_call 26; refine (HE _).out.mono ?_; rintro e w' ⟨rfl, rfl⟩) | (go_at_call 34; refine (HF _).out.mono ?_; rintro e w1 ⟨rfl, hb1⟩; have HB1 := Lib.hid hb1; clear hb1))
    go_ret2
    exact ⟨rfl, HB1.out⟩

/-- What Bytes hands back. -/
def BytesOf (k s : Nat) (w : World) (e : Ending) (w' : World) : Prop :=
  ∃ a, e = .returned (.tuple #[.slice (some a) (bytesL k s).length (bytesL k s).length, .int .i64 0]) ∧ SrcAt w' (.slice (some a) (bytesL k s).length (bytesL k s).length) (bytesL k s) ∧ w.heap.size ≤ a.block ∧ Below w.heap.size w w'

set_option maxRecDepth 100000 in
set_option maxHeartbeats 1600000 in
theorem bytes_two (k s : Nat) (hk : 1 ≤ k ∧ k ≤ 3) (h3 : k ≠ 3) (hf : fitB k ((s : Nat) : Int) = true) (w : World) : Calls Try.prog 16 #[.int .i64 ((k : Nat) : Int), .int .i64 ((s : Nat) : Int)] w (BytesOf k s w) := by
  have HE := fun w => Lib.hid (exists_any ((k : Nat) : Int) w)
  rw [kindB_k hk] at HE
  have HF := fun w => Lib.hid (fits_any k hk ((s : Nat) : Int) w)
  rw [hf] at HF
  have HR := fun w => Lib.hid (ruleOf_any k hk w)
  unfold ruleV at HR
  have hb : bitsS k = 16 := by unfold bitsS; rw [if_neg h3]
  rw [hb] at HR
  have hs : s < 65536 := by unfold fitB at hf; rw [hb] at hf; have := (of_decide_eq_true hf).2; omega
  obtain ⟨y, hy⟩ : ∃ x : Int, (((beg k).1 : Nat) : Int) = x := ⟨_, rfl⟩
  obtain ⟨z, hz⟩ : ∃ x : Int, (((beg k).2 : Nat) : Int) = x := ⟨_, rfl⟩
  rw [hy, hz] at HR
  have r0 := rule_0
  have HL : Hid (bytesL k s = [s / 256 % 256, s % 256]) := Lib.hid (by unfold bytesL; rw [if_neg h3])
  clear hk h3 hf hb hy hz
  go_enter Try.func16, Try.ntmps16
  go_wp2_with (first | (go_at_call 26; refine (HE _).out.mono ?_; rintro e w' ⟨rfl, rfl⟩) | (go_at_call 34; refine (HF _).out.mono ?_; rintro e w1 ⟨rfl, hb1⟩; have HB1 := Lib.hid hb1; clear hb1) | (go_at_call 27; refine (HR _).out.mono ?_; rintro e w2 ⟨rfl, hb2⟩; have HB2 := Lib.hid hb2; clear hb2))
  go_ret2
  have hl := HL.out
  refine ⟨_, by rw [hl]; rfl, ?_, HB1.out.size, HB1.out.trans ((below_new _ _).mono HB1.out.size |>.trans (HB2.out.mono (by have := HB1.out.size; simp; omega)))⟩
  rw [hl]
  refine src_part HB2.out 2 _ _ rfl (fun j u hu => ?_)
  have hj := (List.getElem?_eq_some_iff.1 hu).1
  rw [u8s_length] at hj
  have : j = 0 ∨ j = 1 := by simp at hj; omega
  rcases this with rfl | rfl
  · simp [u8s] at hu ⊢
    rw [← hu]; simp; omega
  · simp [u8s] at hu ⊢
    rw [← hu]

set_option maxRecDepth 100000 in
set_option maxHeartbeats 1600000 in
theorem bytes_four (s : Nat) (hf : fitB 3 ((s : Nat) : Int) = true) (w : World) : Calls Try.prog 16 #[.int .i64 ((3 : Nat) : Int), .int .i64 ((s : Nat) : Int)] w (BytesOf 3 s w) := by
  have HE := fun w => Lib.hid (exists_any ((3 : Nat) : Int) w)
  rw [kindB_k (by omega)] at HE
  have HF := fun w => Lib.hid (fits_any 3 (by omega) ((s : Nat) : Int) w)
  rw [hf] at HF
  have HR := fun w => Lib.hid (ruleOf_any 3 (by omega) w)
  unfold ruleV at HR
  have hb : bitsS 3 = 32 := rfl
  rw [hb] at HR
  have hs : s < 4294967296 := by unfold fitB at hf; rw [hb] at hf; have := (of_decide_eq_true hf).2; omega
  obtain ⟨y, hy⟩ : ∃ x : Int, (((beg 3).1 : Nat) : Int) = x := ⟨_, rfl⟩
  obtain ⟨z, hz⟩ : ∃ x : Int, (((beg 3).2 : Nat) : Int) = x := ⟨_, rfl⟩
  rw [hy, hz] at HR
  have r0 := rule_0
  have HL : Hid (bytesL 3 s = [s / 16777216 % 256, s / 65536 % 256, s / 256 % 256, s % 256]) := Lib.hid rfl
  obtain ⟨kk, hkk⟩ : ∃ x : Int, ((3 : Nat) : Int) = x := ⟨_, rfl⟩
  rw [hkk] at HE HF HR ⊢
  clear hf hb hy hz
  go_enter Try.func16, Try.ntmps16
  go_wp2_with (first | (go_at_call 26; refine (HE _).out.mono ?_; rintro e w' ⟨rfl, rfl⟩) | (go_at_call 34; refine (HF _).out.mono ?_; rintro e w1 ⟨rfl, hb1⟩; have HB1 := Lib.hid hb1; clear hb1) | (go_at_call 27; refine (HR _).out.mono ?_; rintro e w2 ⟨rfl, hb2⟩; have HB2 := Lib.hid hb2; clear hb2))
  go_ret2
  have hl := HL.out
  refine ⟨_, by rw [hl]; rfl, ?_, HB1.out.size, HB1.out.trans ((below_new _ _).mono HB1.out.size |>.trans (HB2.out.mono (by have := HB1.out.size; simp; omega)))⟩
  rw [hl]
  refine src_part HB2.out 0 _ _ rfl (fun j u hu => ?_)
  have hj := (List.getElem?_eq_some_iff.1 hu).1
  rw [u8s_length] at hj
  have : j = 0 ∨ j = 1 ∨ j = 2 ∨ j = 3 := by simp at hj; omega
  rcases this with rfl | rfl | rfl | rfl
  · simp [u8s] at hu ⊢
    rw [← hu]; simp; omega
  · simp [u8s] at hu ⊢
    rw [← hu]
  · simp [u8s] at hu ⊢
    rw [← hu]
  · simp [u8s] at hu ⊢
    rw [← hu]

theorem bytes_any (k s : Nat) (hk : 1 ≤ k ∧ k ≤ 3) (hf : fitB k ((s : Nat) : Int) = true) (w : World) : Calls Try.prog 16 #[.int .i64 ((k : Nat) : Int), .int .i64 ((s : Nat) : Int)] w (BytesOf k s w) := by
  by_cases h3 : k = 3
  · subst h3
    exact bytes_four s hf w
  · exact bytes_two k s hk h3 hf w
end Go.Proofs.Ytpnhiaibidecnaa
