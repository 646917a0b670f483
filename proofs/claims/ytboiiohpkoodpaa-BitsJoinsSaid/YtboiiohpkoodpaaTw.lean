/- Two writers side by side: each call of one leaves the other as it is. Conditions: both lie in memory apart from each other. -/
import Derived.Test.YtboiiohpkoodpaaKn
namespace Go.Proofs.Ytboiiohpkoodpaa
open Go.RowKit Go.Shelf

theorem known_tail {w w1 : World} (hb : Below w.heap.size w w1) : Calls Try.prog 10 #[] w1 fun e w' => e = .returned (.bool true) ∧ Below w.heap.size w w' :=
  (known_any w1).mono fun _ _ ⟨he, h⟩ => ⟨he, hb.trans (h.mono hb.size)⟩

theorem packs_lt (l : List Bool) : ∀ c ∈ packs l, c < 256 := by
  intro c hc
  simp only [packs, List.mem_map] at hc
  obtain ⟨i, _, rfl⟩ := hc
  exact byteOf_lt l i

structure Two (w W : World) (b1 : Nat) (v1 : Value) (l1 : List Bool) (b2 : Nat) (v2 : Value) (l2 : List Bool) : Prop where
  one : WAt W b1 v1 l1
  two : WAt W b2 v2 l2
  ne : b1 ≠ b2
  apart : ∀ k, v1.ownBlock = some k → v2.ownBlock ≠ some k
  low1 : w.heap.size ≤ b1
  low2 : w.heap.size ≤ b2
  row1 : ∀ k, v1.ownBlock = some k → w.heap.size ≤ k
  row2 : ∀ k, v2.ownBlock = some k → w.heap.size ≤ k
  below : Below w.heap.size w W

section
variable {w W W' : World} {b1 b2 : Nat} {v1 v1' v2 : Value} {l1 l1' l2 : List Bool}
theorem Two.swap (h : Two w W b1 v1 l1 b2 v2 l2) : Two w W b2 v2 l2 b1 v1 l1 :=
  ⟨h.two, h.one, fun e => h.ne e.symm, fun k h2 h1 => h.apart k h1 h2, h.low2, h.low1, h.row2, h.row1, h.below⟩
theorem Two.step (h : Two w W b1 v1 l1 b2 v2 l2) (hw : WAt W' b1 v1' l1') (hs : WStep b1 v1 v1' W W') : Two w W' b1 v1' l1' b2 v2 l2 := by
  refine ⟨hw, h.two.stays hs.rest ?_ ?_, h.ne, ?_, h.low1, h.low2, ?_, h.row2, ?_⟩
  · rintro (e | e)
    · exact h.ne e.symm
    · exact h.two.obj.ne h.one.row (by decide) e
  · rintro k hk (e | e)
    · subst e; exact h.one.obj.ne h.two.row (by decide) hk
    · exact h.apart k e hk
  · intro k hk h2
    rcases hs.row k hk with e | e
    · exact h.apart k e h2
    · have := (h.two.row.lt k h2).2; omega
  · intro k hk
    rcases hs.row k hk with e | e
    · exact h.row1 k e
    · exact Nat.le_trans h.below.size e
  · refine h.below.trans (hs.rest.toBelow _ h.below.size ?_)
    rintro i hi (e | e)
    · have := h.low1; omega
    · have := h.row1 i e; omega
theorem Two.later (h : Two w W b1 v1 l1 b2 v2 l2) (hb : Below W.heap.size W W') : Two w W' b1 v1 l1 b2 v2 l2 :=
  ⟨h.one.below hb, h.two.below hb, h.ne, h.apart, h.low1, h.low2, h.row1, h.row2, h.below.trans (hb.mono h.below.size)⟩
theorem Two.drewN (h : Two w W b1 v1 l1 b2 v2 l2) (n : Nat) : Two w (W.drewN n) b1 v1 l1 b2 v2 l2 := h.later (below_drewN (Below.refl _ _) n)
theorem Two.drew (h : Two w W b1 v1 l1 b2 v2 l2) : Two w W.drew b1 v1 l1 b2 v2 l2 := h.later (Below.refl _ _).drew

theorem putCode_ok {len v n : Nat} (hn1 : 1 ≤ n) (hn : n ≤ 32) (hv : v < 2 ^ n) (hroom : len + n ≤ 8388608) : putCode len v n = 0 := by
  have hv' : (v : Int) < 2 ^ n := by have := Int.ofNat_lt.2 hv; simpa using this
  unfold putCode
  rw [if_pos (by simp [withinB, fitsB, hv']; omega), if_neg (by omega)]

theorem Two.put (h : Two w W b1 v1 l1 b2 v2 l2) (v n : Nat) (hn1 : 1 ≤ n) (hn : n ≤ 32) (hv : v < 2 ^ n) (hroom : l1.length + n ≤ 8388608) :
    Calls Try.prog 18 #[.pointer (some ⟨b1, 0, none⟩), .int .i64 v, .int .i64 n] W fun e W' => e = .returned (.int .i64 0) ∧ ∃ v', Two w W' b1 v' (l1 ++ digs v n) b2 v2 l2 :=
  (put_ok b1 v1 l1 v n W h.one (by omega) (putCode_ok hn1 hn hv hroom) hn hv hroom).mono fun _ _ ⟨he, v', h1, h2⟩ => ⟨he, v', h.step h1 h2⟩

theorem Two.putI (h : Two w W b1 v1 l1 b2 v2 l2) (v n : Nat) (V N : Int) (hV : V = (v : Nat)) (hN : N = (n : Nat)) (hn1 : 1 ≤ n) (hn : n ≤ 32) (hv : v < 2 ^ n) (hroom : l1.length + n ≤ 8388608) :
    Calls Try.prog 18 #[.pointer (some ⟨b1, 0, none⟩), .int .i64 V, .int .i64 N] W fun e W' => e = .returned (.int .i64 0) ∧ ∃ v', Two w W' b1 v' (l1 ++ digs v n) b2 v2 l2 := by
  subst hV hN
  exact h.put v n hn1 hn hv hroom

theorem Two.out (h : Two w W b1 v1 l1 b2 v2 l2) (hl : l1.length ≤ 8388608) (h0 : l1 ≠ []) :
    Calls Try.prog 15 #[.pointer (some ⟨b1, 0, none⟩)] W fun e W' => ∃ g c, e = .returned (.slice (some ⟨g, 0, none⟩) (packs l1).length c) ∧ W'.ownsRow w.heap.size 5 1 (.slice (some ⟨g, 0, none⟩) (packs l1).length c) (packs l1).length (u8s (packs l1)) ∧ Two w W' b1 v1 l1 b2 v2 l2 := by
  refine (out_any b1 v1 l1 W h.one hl).mono ?_
  rintro e W' ⟨s, rfl, h1, h2, h3⟩
  have hp : 0 < (packs l1).length := by
    rw [packs_length]
    have := List.length_pos_iff.2 h0
    omega
  rcases h3 with rfl | ⟨g, c, rfl⟩
  · rcases h1.2 with ⟨_, h0⟩ | ⟨_, _, _, h0, _⟩
    · omega
    · cases h0
  · exact ⟨g, c, rfl, Joins.ownsRow_le h1 h.below.size, h.later h2⟩

theorem Two.outS (h : Two w W b1 v1 l1 b2 v2 l2) (hl : l1.length ≤ 8388608) (h0 : l1 ≠ []) (N : Nat) (hN : (packs l1).length = N) (S : ByteArray) (hS : strOf (packs l1) = S) :
    Calls Try.prog 15 #[.pointer (some ⟨b1, 0, none⟩)] W fun e W' => ∃ g c, e = .returned (.slice (some ⟨g, 0, none⟩) N c) ∧ Hid (Two w W' b1 v1 l1 b2 v2 l2) ∧ Hid (SrcAt W' (.slice (some ⟨g, 0, none⟩) N c) (packs l1)) ∧ Hid (Below W.heap.size W W') ∧
      (convert 28 9 (.slice (some ⟨g, 0, none⟩) N c)).run Try.prog W' = .ok (.string S) W' := by
  refine (out_any b1 v1 l1 W h.one hl).mono ?_
  rintro e W' ⟨s, rfl, h1, h2, h3⟩
  have hp : 0 < (packs l1).length := by
    rw [packs_length]
    have := List.length_pos_iff.2 h0
    omega
  subst hN hS
  rcases h3 with rfl | ⟨g, c, rfl⟩
  · rcases h1.2 with ⟨_, h0⟩ | ⟨_, _, _, h0, _⟩
    · omega
    · cases h0
  · exact ⟨g, c, rfl, h.later h2, SrcAt.of_row h1, h2, conv_src (SrcAt.of_row h1) (packs_lt _)⟩
theorem src_conv {s : Value} {B : List Nat} {S : ByteArray} (h : SrcAt W s B) (hb : Below W.heap.size W W') (hB : ∀ c ∈ B, c < 256) (hS : strOf B = S) : (convert 28 9 s).run Try.prog W' = .ok (.string S) W' := by
  subst hS
  exact conv_src (h.below hb h.lt) hB

theorem Two.len (h : Two w W b1 v1 l1 b2 v2 l2) : Calls Try.prog 16 #[.pointer (some ⟨b1, 0, none⟩)] W fun e W' => e = .returned (.int .i64 l1.length) ∧ W = W' := len_any b1 v1 l1 W h.one
end

theorem two_new (w : World) : Calls Try.prog 11 #[] w fun e w1 => e = .returned (.pointer (some ⟨w.heap.size, 0, none⟩)) ∧ WAt w1 w.heap.size (.slice none 0 0) [] ∧ Below w.heap.size w w1 := newWriter_any w
theorem two_start {w w1 w2 : World} (h1 : WAt w1 w.heap.size (.slice none 0 0) []) (b1 : Below w.heap.size w w1) (h2 : WAt w2 w1.heap.size (.slice none 0 0) []) (b2 : Below w1.heap.size w1 w2) :
    Two w w2 w.heap.size (.slice none 0 0) [] w1.heap.size (.slice none 0 0) [] :=
  ⟨h1.below b2, h2, by have := h1.obj.lt; omega, fun k hk => by simp [Value.ownBlock] at hk, Nat.le_refl _, b1.size, fun k hk => by simp [Value.ownBlock] at hk, fun k hk => by simp [Value.ownBlock] at hk, b1.trans (b2.mono b1.size)⟩
end Go.Proofs.Ytboiiohpkoodpaa
