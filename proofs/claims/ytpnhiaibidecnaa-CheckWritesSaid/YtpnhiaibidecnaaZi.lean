/- Package check: New, Write, Sum, Len, Copy, of sums and without one. Conditions: the sum and the bytes lie in memory, apart from each other. -/
import Derived.Test.YtpnhiaibidecnaaZh
namespace Go.Proofs.Ytpnhiaibidecnaa
open Go.RowKit Go.Shelf

set_option maxRecDepth 100000 in
set_option maxHeartbeats 1600000 in
theorem new_bad (v : Int) (hk : kindB v = false) (w : World) : Calls Try.prog 18 #[.int .i64 v] w fun e w' => e = .returned (.tuple #[.pointer none, .int .i64 2]) ∧ w = w' := by
  have HE := fun w => Lib.hid (exists_any v w)
  rw [hk] at HE
  clear hk
  go_enter Try.func18, Try.ntmps18
  go_wp2_with (go_at_call 26; refine (HE _).out.mono ?_; rintro e w' ⟨rfl, rfl⟩)
  go_ret2
  exact ⟨rfl, rfl⟩

set_option maxRecDepth 100000 in
set_option maxHeartbeats 1600000 in
theorem new_any (k : Nat) (hk : 1 ≤ k ∧ k ≤ 3) (w : World) : Calls Try.prog 18 #[.int .i64 ((k : Nat) : Int)] w fun e w' => ∃ b, e = .returned (.tuple #[.pointer (some ⟨b, 0, none⟩), .int .i64 0]) ∧ SumOf w' b k [] ∧ w.heap.size ≤ b ∧ Below w.heap.size w w' := by
  have HE := fun w => Lib.hid (exists_any ((k : Nat) : Int) w)
  rw [kindB_k hk] at HE
  have HG := fun w => Lib.hid (begin_any k hk w)
  have HNW := fun (w : World) => Lib.hid (show SumOf (w.alloc (.cells #[.int .i64 (((beg k).1 : Nat) : Int), .int .i64 (((beg k).2 : Nat) : Int), .int .i64 0, .int .i64 ((k : Nat) : Int)] 56)) w.heap.size k [] from ⟨by rw [stS_nil k hk]; exact SumAt.new w (beg k) 0 k 56, by simp, hk⟩)
  obtain ⟨y, hy⟩ : ∃ x : Int, (((beg k).1 : Nat) : Int) = x := ⟨_, rfl⟩
  obtain ⟨z, hz⟩ : ∃ x : Int, (((beg k).2 : Nat) : Int) = x := ⟨_, rfl⟩
  rw [hy, hz] at HG HNW
  clear hk hy hz
  go_enter Try.func18, Try.ntmps18
  go_wp2_with (go_at_call 26; refine (HE _).out.mono ?_; rintro e w' ⟨rfl, rfl⟩)
  refine (HG _).out.mono ?_
  rintro e w1 ⟨rfl, hb1⟩
  have HB1 := Lib.hid hb1
  clear hb1
  go_wp2
  go_ret2
  exact ⟨_, rfl, (HNW _).out, HB1.out.size, HB1.out.trans (((Below.refl _ _).alloc (Nat.le_refl _) _).mono HB1.out.size)⟩

set_option maxRecDepth 100000 in
set_option maxHeartbeats 1600000 in
theorem WriteE_any (A : Option Addr) (N C k : Nat) (B D : List Nat) (b : Nat) (w : World) (hs : 0 < N → SrcAt w (.slice A N C) B) (hN : N = B.length) (h256 : ∀ x ∈ B, x < 256) (hu : SumOf w b k D) (hne : 0 < N → ∀ j, (Value.slice A N C).ownBlock = some j → j ≠ b) (hp : D.length + N ≤ 4294967296) :
    Calls Try.prog 20 #[.pointer (some ⟨b, 0, none⟩), .slice A N C] w fun e w' => e = .returned (.int .i64 0) ∧ SumOf w' b k (D ++ B) ∧ Rest (fun j => j = b) w w' := by
  have HO := Lib.hid (none_of b k D w hu)
  have HW := Lib.hid (writeE_any A N C k B D b w hs hN h256 hu hne hp)
  clear hs hN h256 hu hne hp
  go_enter Try.func20, Try.ntmps20
  go_wp2_with (go_at_call 35; refine HO.out.mono ?_; rintro e w' ⟨rfl, rfl⟩)
  refine HW.out.mono ?_
  rintro e w1 ⟨rfl, hs1, hr1⟩
  have HS1 := Lib.hid hs1
  have HR1 := Lib.hid hr1
  clear hs1 hr1
  go_wp2
  go_ret
  exact ⟨rfl, HS1.out, HR1.out⟩

theorem Write_any (A : Option Addr) (N C k : Nat) (B D : List Nat) (b : Nat) (w : World) (hs : SrcAt w (.slice A N C) B) (hN : N = B.length) (h256 : ∀ x ∈ B, x < 256) (hu : SumOf w b k D) (hne : ∀ j, (Value.slice A N C).ownBlock = some j → j ≠ b) (hp : D.length + N ≤ 4294967296) :
    Calls Try.prog 20 #[.pointer (some ⟨b, 0, none⟩), .slice A N C] w fun e w' => e = .returned (.int .i64 0) ∧ SumOf w' b k (D ++ B) ∧ Rest (fun j => j = b) w w' :=
  WriteE_any A N C k B D b w (fun _ => hs) hN h256 hu (fun _ => hne) hp

set_option maxRecDepth 100000 in
set_option maxHeartbeats 1600000 in
theorem Sum_any (k : Nat) (D : List Nat) (b : Nat) (w : World) (hu : SumOf w b k D) :
    Calls Try.prog 21 #[.pointer (some ⟨b, 0, none⟩)] w fun e w' => e = .returned (.tuple #[.int .i64 ((valS k D : Nat) : Int), .int .i64 0]) ∧ Below w.heap.size w w' := by
  have HO := Lib.hid (none_of b k D w hu)
  have HW := Lib.hid (result_any k D b w hu)
  obtain ⟨V, hV⟩ : ∃ V, valS k D = V := ⟨_, rfl⟩
  rw [hV] at HW ⊢
  clear hu hV
  go_enter Try.func21, Try.ntmps21
  go_wp2_with (go_at_call 35; refine HO.out.mono ?_; rintro e w' ⟨rfl, rfl⟩)
  refine HW.out.mono ?_
  rintro e w1 ⟨rfl, hb1⟩
  have HB1 := Lib.hid hb1
  clear hb1
  go_wp2
  go_ret2
  exact ⟨rfl, HB1.out⟩

set_option maxRecDepth 100000 in
set_option maxHeartbeats 1600000 in
theorem Len_any (k : Nat) (D : List Nat) (b : Nat) (w : World) (hu : SumOf w b k D) :
    Calls Try.prog 22 #[.pointer (some ⟨b, 0, none⟩)] w fun e w' => e = .returned (.int .i64 ((D.length : Nat) : Int)) ∧ w = w' := by
  have HO := Lib.hid (none_of b k D w hu)
  have c2 := hu.at_.c2
  clear hu
  go_enter Try.func22, Try.ntmps22
  go_wp2_with (go_at_call 35; refine HO.out.mono ?_; rintro e w' ⟨rfl, rfl⟩)
  go_ret
  exact ⟨rfl, rfl⟩

set_option maxRecDepth 100000 in
set_option maxHeartbeats 1600000 in
theorem Copy_any (k : Nat) (D : List Nat) (b : Nat) (w : World) (hu : SumOf w b k D) :
    Calls Try.prog 19 #[.pointer (some ⟨b, 0, none⟩)] w fun e w' => ∃ c, e = .returned (.pointer (some ⟨c, 0, none⟩)) ∧ SumOf w' c k D ∧ w.heap.size ≤ c ∧ Below w.heap.size w w' := by
  have HO := Lib.hid (none_of b k D w hu)
  have c0 := hu.at_.c0
  have c1 := hu.at_.c1
  have c2 := hu.at_.c2
  have c3 := hu.at_.c3
  have HNW := Lib.hid (show SumOf (w.alloc (.cells #[.int .i64 (((stS k D).1 : Nat) : Int), .int .i64 (((stS k D).2 : Nat) : Int), .int .i64 ((D.length : Nat) : Int), .int .i64 ((k : Nat) : Int)] 56)) w.heap.size k D from ⟨SumAt.new w (stS k D) D.length k 56, hu.low, hu.kind⟩)
  obtain ⟨y, hy⟩ : ∃ x : Int, (((stS k D).1 : Nat) : Int) = x := ⟨_, rfl⟩
  obtain ⟨z, hz⟩ : ∃ x : Int, (((stS k D).2 : Nat) : Int) = x := ⟨_, rfl⟩
  rw [hy] at c0 HNW
  rw [hz] at c1 HNW
  clear hu hy hz
  go_enter Try.func19, Try.ntmps19
  go_wp2_with (go_at_call 35; refine HO.out.mono ?_; rintro e w' ⟨rfl, rfl⟩)
  go_ret
  exact ⟨_, rfl, HNW.out, Nat.le_refl _, (Below.refl _ _).alloc (Nat.le_refl _) _⟩

/-- No sum: nil, or a kind that does not exist. -/
def NoSum (w : World) (p : Option Addr) : Prop := p = none ∨ ∃ b s n k, p = some ⟨b, 0, none⟩ ∧ SumAt w b s n k ∧ kindB ((k : Nat) : Int) = false
theorem NoSum.below {w w' : World} {m : Nat} {p : Option Addr} (h : NoSum w p) (hb : Below m w w') (hm : ∀ a, p = some a → a.block < m) : NoSum w' p := by
  rcases h with h | ⟨b, s, n, k, rfl, h, hk⟩
  · exact .inl h
  · exact .inr ⟨b, s, n, k, rfl, h.below hb (hm _ rfl), hk⟩
theorem none_no {w : World} {p : Option Addr} (h : NoSum w p) : Calls Try.prog 35 #[.pointer p] w fun e w' => e = .returned (.bool true) ∧ w = w' := by
  rcases h with rfl | ⟨b, s, n, k, rfl, h, hk⟩
  · exact none_nil w
  · have := none_any b s n k w h
    rwa [hk] at this

set_option maxRecDepth 100000 in
set_option maxHeartbeats 1600000 in
theorem Write_no (p : Option Addr) (v : Value) (w : World) (h : NoSum w p) : Calls Try.prog 20 #[.pointer p, v] w fun e w' => e = .returned (.int .i64 1) ∧ w = w' := by
  have HO := Lib.hid (none_no h)
  clear h
  go_enter Try.func20, Try.ntmps20
  go_wp2_with (go_at_call 35; refine HO.out.mono ?_; rintro e w' ⟨rfl, rfl⟩)
  go_ret
  exact ⟨rfl, rfl⟩
set_option maxRecDepth 100000 in
set_option maxHeartbeats 1600000 in
theorem Sum_no (p : Option Addr) (w : World) (h : NoSum w p) : Calls Try.prog 21 #[.pointer p] w fun e w' => e = .returned (.tuple #[.int .i64 0, .int .i64 1]) ∧ w = w' := by
  have HO := Lib.hid (none_no h)
  clear h
  go_enter Try.func21, Try.ntmps21
  go_wp2_with (go_at_call 35; refine HO.out.mono ?_; rintro e w' ⟨rfl, rfl⟩)
  go_ret2
  exact ⟨rfl, rfl⟩
set_option maxRecDepth 100000 in
set_option maxHeartbeats 1600000 in
theorem Len_no (p : Option Addr) (w : World) (h : NoSum w p) : Calls Try.prog 22 #[.pointer p] w fun e w' => e = .returned (.int .i64 0) ∧ w = w' := by
  have HO := Lib.hid (none_no h)
  clear h
  go_enter Try.func22, Try.ntmps22
  go_wp2_with (go_at_call 35; refine HO.out.mono ?_; rintro e w' ⟨rfl, rfl⟩)
  go_ret
  exact ⟨rfl, rfl⟩
set_option maxRecDepth 100000 in
set_option maxHeartbeats 1600000 in
theorem Copy_no (p : Option Addr) (w : World) (h : NoSum w p) : Calls Try.prog 19 #[.pointer p] w fun e w' => e = .returned (.pointer none) ∧ w = w' := by
  have HO := Lib.hid (none_no h)
  clear h
  go_enter Try.func19, Try.ntmps19
  go_wp2_with (go_at_call 35; refine HO.out.mono ?_; rintro e w' ⟨rfl, rfl⟩)
  go_ret
  exact ⟨rfl, rfl⟩
end Go.Proofs.Ytpnhiaibidecnaa
