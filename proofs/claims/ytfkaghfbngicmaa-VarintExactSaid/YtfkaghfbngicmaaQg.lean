/- Whether further bytes make an allowed form in a range. Conditions: the bytes lie in memory, and the range is one of integers. -/
import Derived.Test.YtfkaghfbngicmaaQf
namespace Go.Proofs.Ytfkaghfbngicmaa
open Go.RowKit Go.Shelf

/-- The least number from v on, in steps of p, that is not below lo. -/
def upV (v lo p : Int) : Int := if v < lo then v + (lo - v + p - 1) / p * p else v
/-- From where on, behind L bytes that count S. -/
def leadV (loose : Bool) (L : Nat) (S P : Int) : Int := if loose = false ∧ 0 < L then S + P else S

theorem lead_a (loose : Bool) (n : Nat) (s p : Int) (h : loose = true ∨ ¬ 0 < n) : leadV loose n s p = s := by
  unfold leadV
  rw [if_neg]
  rintro ⟨rfl, h0⟩
  rcases h with h | h
  · cases h
  · exact h h0
theorem lead_b (loose : Bool) (n : Nat) (s p : Int) (h : loose = false) (h0 : 0 < n) : leadV loose n s p = s + p := by
  unfold leadV
  rw [if_pos ⟨h, h0⟩]
theorem up_a {v lo p : Int} (h : v < lo) : upV v lo p = v + (lo - v + p - 1) / p * p := by unfold upV; rw [if_pos h]
theorem up_b {v lo p : Int} (h : ¬ v < lo) : upV v lo p = v := by unfold upV; rw [if_neg h]

theorem up_facts (x p : Int) (hp : 1 ≤ p) : x / p * p ≤ x ∧ x - p < x / p * p ∧ (0 ≤ x → 0 ≤ x / p ∧ x / p ≤ x) := by
  refine ⟨Int.ediv_mul_le _ (by omega), ?_, fun h => ⟨Int.ediv_nonneg h (by omega), Int.ediv_le_self _ h⟩⟩
  have := Int.lt_ediv_add_one_mul_self x (show 0 < p by omega)
  rw [Int.add_mul] at this
  omega

set_option maxRecDepth 100000 in
set_option maxHeartbeats 3200000 in
theorem leads_any (A : Option Addr) (n c : Nat) (b loose : Bool) (B : List Nat) (lo hi : Int) (w : World) (hs : SrcAt w (.slice A n c) B) (hn : n = B.length) (h4 : n ≤ 4) (h256 : ∀ x ∈ B, x < 256)
    (hlo : 0 ≤ lo) (hlo2 : lo < 34359738368) (hhi : 0 ≤ hi) (hhi2 : hi < 34359738368) :
    Calls Try.prog 36 #[.agg #[.slice A n c, .bool b], .bool loose, .agg #[.int .i64 lo, .int .i64 hi]] w fun e w' => e = .returned (.bool (decide (upV (leadV loose n (sumV B : Nat) (128 ^ n : Nat)) lo (128 ^ n : Nat) ≤ hi))) ∧ Below w.heap.size w w' := by
  have hlt := sumV_lt B
  rw [← hn] at hlt
  have hP5 : 128 ^ n ≤ 128 ^ 4 := Nat.pow_le_pow_right (by omega) h4
  have hP1 := pow_pos' n
  have HSU := fun A' c b (w1 : World) hs => Lib.hid (sum_any A' n c b B w1 hs hn (by omega) h256)
  have HW := fun w => Lib.hid (weight_any n (by omega) w)
  obtain ⟨S, hS⟩ : ∃ S, sumV B = S := ⟨_, rfl⟩
  obtain ⟨P, hP⟩ : ∃ P, 128 ^ n = P := ⟨_, rfl⟩
  rw [hS] at HSU hlt
  rw [hP] at HW hP5 hlt hP1
  rw [hS, hP]
  obtain ⟨s, hs0⟩ : ∃ s : Int, ((S : Nat) : Int) = s := ⟨_, rfl⟩
  obtain ⟨p, hp0⟩ : ∃ p : Int, ((P : Nat) : Int) = p := ⟨_, rfl⟩
  rw [hs0] at HSU
  rw [hp0] at HW
  rw [hs0, hp0]
  have hs1 : 0 ≤ s ∧ s < p ∧ 1 ≤ p ∧ p ≤ 268435456 := by omega
  obtain ⟨hs1, hs2, hp1, hp2⟩ := hs1
  have hal1 : Below w.heap.size w (w.alloc (.cells #[.slice A n c, .bool b] 57)) := (Below.refl _ _).alloc (Nat.le_refl _) _
  have hal : Below w.heap.size w ((w.alloc (.cells #[.slice A n c, .bool b] 57)).alloc (.cells #[.int .i64 lo, .int .i64 hi] 44)) := hal1.alloc (by simp) _
  have hss := hs.below hal hs.lt
  have c0 : ((w.alloc (.cells #[.slice A n c, .bool b] 57)).alloc (.cells #[.int .i64 lo, .int .i64 hi] 44)).cell? ⟨w.heap.size, 0, none⟩ = some (.slice A n c) := by
    rw [((Below.refl _ (w.alloc (.cells #[.slice A n c, .bool b] 57))).alloc (Nat.le_refl _) _).cell (p := ⟨w.heap.size, 0, none⟩) (by simp), World.cell?_alloc_new]; rfl
  have c1 : ((w.alloc (.cells #[.slice A n c, .bool b] 57)).alloc (.cells #[.int .i64 lo, .int .i64 hi] 44)).cell? ⟨w.heap.size, 1, none⟩ = some (.bool b) := by
    rw [((Below.refl _ (w.alloc (.cells #[.slice A n c, .bool b] 57))).alloc (Nat.le_refl _) _).cell (p := ⟨w.heap.size, 1, none⟩) (by simp), World.cell?_alloc_new]; rfl
  have d0 : ((w.alloc (.cells #[.slice A n c, .bool b] 57)).alloc (.cells #[.int .i64 lo, .int .i64 hi] 44)).cell? ⟨w.heap.size + 1, 0, none⟩ = some (.int .i64 lo) := by
    simp
  have d1 : ((w.alloc (.cells #[.slice A n c, .bool b] 57)).alloc (.cells #[.int .i64 lo, .int .i64 hi] 44)).cell? ⟨w.heap.size + 1, 1, none⟩ = some (.int .i64 hi) := by
    simp
  obtain ⟨w1, hw1⟩ : ∃ w1, ((w.alloc (.cells #[.slice A n c, .bool b] 57)).alloc (.cells #[.int .i64 lo, .int .i64 hi] 44)) = w1 := ⟨_, rfl⟩
  rw [hw1] at hal hss c0 c1 d0 d1
  have HAL := Lib.hid hal
  have HSS := Lib.hid hss
  have C0 := Lib.hid c0
  have C1 := Lib.hid c1
  have D0 := Lib.hid d0
  have D1 := Lib.hid d1
  have HW1 := Lib.hid hw1
  obtain ⟨R, hR⟩ : ∃ R, decide (upV (leadV loose n s p) lo p ≤ hi) = R := ⟨_, rfl⟩
  rw [hR]
  have HR := Lib.hid hR
  clear hw1 hal hal1 hss c0 c1 d0 d1 hs hn h256 hS hP hs0 hp0 hlt hP5 hP1 hR
  go_enter Try.func36, Try.ntmps36
  go_wp2_with fail
  rw [HW1.out]
  have k0 := cell_regrown C0.out
  have k1 := cell_regrown C1.out
  refine wp_region_quiet_below (by kernel_rfl) (by kernel_rfl) ?_
  repeat (go_big_quiet_step ((first | (go_at_call 30; exact Calls.regrown_of (HSU _ _ _ _ (HSS.out.below (below_regrown _ _ _) HSS.out.lt)).out) | (go_at_call 33; refine (HW _).out.mono ?_; rintro e w' ⟨rfl, rfl⟩; exact ⟨rfl, _, rfl⟩))))
  refine wpQuiet_nil ?_
  rintro _ ⟨q, rfl⟩
  have hb5 := below_regrown w1 q.d q.os
  obtain ⟨w5, hw5⟩ : ∃ w5, Go.Sort.grow (redrawn w1 q.d) q.os = w5 := ⟨_, rfl⟩
  rw [hw5] at hb5 ⊢
  have HB5 := Lib.hid (HAL.out.trans (hb5.mono HAL.out.size))
  have c0 := (hb5.cell (p := ⟨w.heap.size, 0, none⟩) (block_lt_of_cell C0.out)).trans C0.out
  have d0 := (hb5.cell (p := ⟨w.heap.size + 1, 0, none⟩) (block_lt_of_cell D0.out)).trans D0.out
  have d1 := (hb5.cell (p := ⟨w.heap.size + 1, 1, none⟩) (block_lt_of_cell D1.out)).trans D1.out
  clear hb5 hw5 k0 k1
  obtain ⟨f1, f2, f3⟩ := up_facts (lo - s + p - 1) p hp1
  obtain ⟨g1, g2, g3⟩ := up_facts (lo - (s + p) + p - 1) p hp1
  go_wp2
  all_goals
    go_ret
    refine ⟨ret_bool' ?_, HB5.out⟩
    rw [← HR.out]
    first
      | (rw [lead_a loose n s p (by first | exact .inl ‹_› | exact .inr (by omega))]; first | rw [up_a (by omega)] | rw [up_b (by omega)])
      | (rw [lead_b loose n s p (by simpa using ‹¬ loose = true›) (by omega)]; first | rw [up_a (by omega)] | rw [up_b (by omega)])
end Go.Proofs.Ytfkaghfbngicmaa
