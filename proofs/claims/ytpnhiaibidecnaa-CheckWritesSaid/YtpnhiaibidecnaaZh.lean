/- Package check: none, Bits, fits, Of, New, Write, Sum, Len, Copy. Conditions: the sum and the bytes lie in memory, apart from each other. -/
import Derived.Test.YtpnhiaibidecnaaZg
namespace Go.Proofs.Ytpnhiaibidecnaa
open Go.RowKit Go.Shelf

theorem kindB_of {v : Int} (h : kindB v = true) : ∃ k : Nat, v = ((k : Nat) : Int) ∧ 1 ≤ k ∧ k ≤ 3 := by
  unfold kindB at h
  have := of_decide_eq_true h
  exact ⟨v.toNat, by omega, by omega, by omega⟩
theorem kindB_k {k : Nat} (h : 1 ≤ k ∧ k ≤ 3) : kindB ((k : Nat) : Int) = true := by
  unfold kindB; exact decide_eq_true (by omega)

/-- What Bits answers. -/
def bitsC (v : Int) : Int × Int := if kindB v = true then (((bitsS v.toNat : Nat) : Int), 0) else (0, 2)
/-- What Of answers. -/
def ofC (v : Int) (B : List Nat) : Int × Int := if kindB v = true then (((valS v.toNat B : Nat) : Int), 0) else (0, 2)
theorem bitsC_k {k : Nat} (h : 1 ≤ k ∧ k ≤ 3) : bitsC ((k : Nat) : Int) = (((bitsS k : Nat) : Int), 0) := by unfold bitsC; rw [if_pos (kindB_k h)]; rfl
theorem ofC_k {k : Nat} (h : 1 ≤ k ∧ k ≤ 3) (B : List Nat) : ofC ((k : Nat) : Int) B = (((valS k B : Nat) : Int), 0) := by unfold ofC; rw [if_pos (kindB_k h)]; rfl
theorem bitsC_no {v : Int} (h : kindB v = false) : bitsC v = (0, 2) := by unfold bitsC; rw [h]; rfl
theorem ofC_no {v : Int} (h : kindB v = false) (B : List Nat) : ofC v B = (0, 2) := by unfold ofC; rw [h]; rfl

set_option maxRecDepth 100000 in
set_option maxHeartbeats 1600000 in
theorem none_nil (w : World) : Calls Try.prog 35 #[.pointer none] w fun e w' => e = .returned (.bool true) ∧ w = w' := by
  go_enter Try.func35, Try.ntmps35
  go_wp2
  go_ret
  exact ⟨rfl, rfl⟩

set_option maxRecDepth 100000 in
set_option maxHeartbeats 1600000 in
theorem none_any (b : Nat) (s : Nat × Nat) (n k : Nat) (w : World) (hu : SumAt w b s n k) : Calls Try.prog 35 #[.pointer (some ⟨b, 0, none⟩)] w fun e w' => e = .returned (.bool (!kindB ((k : Nat) : Int))) ∧ w = w' := by
  have c3 := hu.c3
  have HE := fun w => Lib.hid (exists_any ((k : Nat) : Int) w)
  obtain ⟨K, hK⟩ : ∃ K, kindB ((k : Nat) : Int) = K := ⟨_, rfl⟩
  rw [hK] at HE ⊢
  clear hu hK
  cases K
  all_goals
    go_enter Try.func35, Try.ntmps35
    go_wp2_with (go_at_call 26; refine (HE _).out.mono ?_; rintro e w' ⟨rfl, rfl⟩)
    go_ret
    exact ⟨rfl, rfl⟩

theorem none_of (b k : Nat) (D : List Nat) (w : World) (hu : SumOf w b k D) : Calls Try.prog 35 #[.pointer (some ⟨b, 0, none⟩)] w fun e w' => e = .returned (.bool false) ∧ w = w' := by
  have := none_any b _ _ k w hu.at_
  rwa [kindB_k hu.kind] at this

set_option maxRecDepth 100000 in
set_option maxHeartbeats 1600000 in
theorem bits_any (v : Int) (w : World) : Calls Try.prog 12 #[.int .i64 v] w fun e w' => e = .returned (.tuple #[.int .i64 (bitsC v).1, .int .i64 (bitsC v).2]) ∧ Below w.heap.size w w' := by
  have HE := fun w => Lib.hid (exists_any v w)
  cases hk : kindB v with
  | false =>
    rw [bitsC_no hk]
    rw [hk] at HE
    clear hk
    go_enter Try.func12, Try.ntmps12
    go_wp2_with (go_at_call 26; refine (HE _).out.mono ?_; rintro e w' ⟨rfl, rfl⟩)
    go_ret2
    exact ⟨rfl, Below.refl _ _⟩
  | true =>
    rw [hk] at HE
    obtain ⟨k, rfl, hk3⟩ := kindB_of hk
    rw [bitsC_k hk3]
    have HR := fun w => Lib.hid (ruleOf_any k hk3 w)
    unfold ruleV at HR
    obtain ⟨x, hx⟩ : ∃ x : Int, ((bitsS k : Nat) : Int) = x := ⟨_, rfl⟩
    obtain ⟨y, hy⟩ : ∃ x : Int, (((beg k).1 : Nat) : Int) = x := ⟨_, rfl⟩
    obtain ⟨z, hz⟩ : ∃ x : Int, (((beg k).2 : Nat) : Int) = x := ⟨_, rfl⟩
    rw [hx, hy, hz] at HR
    rw [hx]
    have r0 := rule_0
    clear hk hk3 hx hy hz
    go_enter Try.func12, Try.ntmps12
    go_wp2_with (first | (go_at_call 26; refine (HE _).out.mono ?_; rintro e w' ⟨rfl, rfl⟩) | (go_at_call 27; refine (HR _).out.mono ?_; rintro e w1 ⟨rfl, hb1⟩; have HB1 := Lib.hid hb1; clear hb1))
    go_ret2
    exact ⟨rfl, HB1.out⟩

/-- No more bits than a kind's checksums have. -/
def fitB (k : Nat) (v : Int) : Bool := decide (0 ≤ v ∧ v < (2 : Int) ^ bitsS k)

set_option maxRecDepth 100000 in
set_option maxHeartbeats 1600000 in
theorem fits_any (k : Nat) (hk : 1 ≤ k ∧ k ≤ 3) (v : Int) (w : World) : Calls Try.prog 34 #[.int .i64 ((k : Nat) : Int), .int .i64 v] w fun e w' => e = .returned (.bool (fitB k v)) ∧ Below w.heap.size w w' := by
  have HR := fun w => Lib.hid (ruleOf_any k hk w)
  unfold ruleV at HR
  have r0 := rule_0
  have HB := Lib.hid (Below.refl w.heap.size w)
  obtain ⟨x, hx⟩ : ∃ x : Int, (2 : Int) ^ bitsS k = x := ⟨_, rfl⟩
  have hf : fitB k v = decide (0 ≤ v ∧ v < x) := by unfold fitB; rw [hx]
  rw [hf]
  obtain ⟨y, hy⟩ : ∃ x : Int, (((beg k).1 : Nat) : Int) = x := ⟨_, rfl⟩
  obtain ⟨z, hz⟩ : ∃ x : Int, (((beg k).2 : Nat) : Int) = x := ⟨_, rfl⟩
  rw [hy, hz] at HR
  have hb : bitsS k = 16 ∧ x = 65536 ∨ bitsS k = 32 ∧ x = 4294967296 := by
    rw [← hx]
    unfold bitsS
    split
    · exact .inr ⟨rfl, by decide⟩
    · exact .inl ⟨rfl, by decide⟩
  clear hy hz hx hf hk
  rcases hb with ⟨e1, rfl⟩ | ⟨e1, rfl⟩
  all_goals
    rw [e1] at HR
    clear e1
    by_cases h0 : 0 ≤ v
    · go_enter Try.func34, Try.ntmps34
      go_wp2_with (go_at_call 27; refine (HR _).out.mono ?_; rintro e w1 ⟨rfl, hb1⟩; have HB1 := Lib.hid hb1; clear hb1)
      all_goals
        go_ret
        refine ⟨ret_bool' ?_, HB1.out⟩
        rw [Bool.eq_iff_iff]
        simp [*]
    · go_enter Try.func34, Try.ntmps34
      go_wp2
      go_ret
      refine ⟨ret_bool' ?_, HB.out⟩
      rw [show decide (0 ≤ v) = false from decide_eq_false (by omega), Bool.false_and]

set_option maxRecDepth 100000 in
set_option maxHeartbeats 1600000 in
theorem of_any (v : Int) (A : Option Addr) (N C : Nat) (B : List Nat) (w : World) (hs : SrcAt w (.slice A N C) B) (hN : N = B.length) (h256 : ∀ x ∈ B, x < 256) (hp : N ≤ 4294967296) : Calls Try.prog 13 #[.int .i64 v, .slice A N C] w fun e w' => e = .returned (.tuple #[.int .i64 (ofC v B).1, .int .i64 (ofC v B).2]) ∧ Below w.heap.size w w' := by
  have HE := fun w => Lib.hid (exists_any v w)
  cases hk : kindB v with
  | false =>
    rw [ofC_no hk]
    rw [hk] at HE
    clear hk hs hN
    go_enter Try.func13, Try.ntmps13
    go_wp2_with (go_at_call 26; refine (HE _).out.mono ?_; rintro e w' ⟨rfl, rfl⟩)
    go_ret2
    exact ⟨rfl, Below.refl _ _⟩
  | true =>
    rw [hk] at HE
    obtain ⟨k, rfl, hk3⟩ := kindB_of hk
    rw [ofC_k hk3]
    have HG := fun w => Lib.hid (begin_any k hk3 w)
    have HNW := fun (w : World) => Lib.hid (show SumOf (w.alloc (.cells #[.int .i64 (((beg k).1 : Nat) : Int), .int .i64 (((beg k).2 : Nat) : Int), .int .i64 0, .int .i64 ((k : Nat) : Int)] 56)) w.heap.size k [] from ⟨by rw [stS_nil k hk3]; exact SumAt.new w (beg k) 0 k 56, by simp, hk3⟩)
    have HWR := fun b w2 (h2 : SrcAt w2 (.slice A N C) B) hu hne => Lib.hid (write_any A N C k B [] b w2 h2 hN h256 hu hne (by simpa using hp))
    rw [List.nil_append] at HWR
    have HRS := fun b w2 hu => Lib.hid (result_any k B b w2 hu)
    have HS := Lib.hid hs
    obtain ⟨y, hy⟩ : ∃ x : Int, (((beg k).1 : Nat) : Int) = x := ⟨_, rfl⟩
    obtain ⟨z, hz⟩ : ∃ x : Int, (((beg k).2 : Nat) : Int) = x := ⟨_, rfl⟩
    rw [hy, hz] at HG HNW
    obtain ⟨V, hV⟩ : ∃ V, valS k B = V := ⟨_, rfl⟩
    rw [hV] at HRS ⊢
    clear hk hk3 hy hz hs hN h256 hV
    go_enter Try.func13, Try.ntmps13
    go_wp2_with (go_at_call 26; refine (HE _).out.mono ?_; rintro e w' ⟨rfl, rfl⟩)
    refine (HG _).out.mono ?_
    rintro e w1 ⟨rfl, hb1⟩
    have HB1 := Lib.hid hb1
    clear hb1
    go_wp2_with fail
    have HB2 := Lib.hid (HB1.out.trans (((Below.refl _ _).alloc (Nat.le_refl _) (.cells #[.int .i64 y, .int .i64 z, .int .i64 0, .int .i64 ((k : Nat) : Int)] 56)).mono HB1.out.size))
    have HL1 := Lib.hid HB1.out.size
    refine (HWR _ _ (HS.out.below HB2.out HS.out.lt) (HNW _).out (fun j hj => by have := HS.out.lt j hj; have := HL1.out; omega)).out.mono ?_
    rintro e w3 ⟨rfl, hs3, hr3⟩
    have HS3 := Lib.hid hs3
    have HB3 := Lib.hid (HB2.out.trans (hr3.toBelow w.heap.size HB2.out.size (fun i hi e => by have := HL1.out; omega)))
    clear hs3 hr3
    go_wp2_with fail
    refine (HRS _ _ HS3.out).out.mono ?_
    rintro e w4 ⟨rfl, hb4⟩
    have HB4 := Lib.hid (HB3.out.trans (hb4.mono HB3.out.size))
    clear hb4
    go_wp2
    go_ret2
    exact ⟨rfl, HB4.out⟩
end Go.Proofs.Ytpnhiaibidecnaa
