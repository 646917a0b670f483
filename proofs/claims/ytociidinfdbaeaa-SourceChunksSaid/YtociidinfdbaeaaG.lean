/- Index finds the first byte that is the given one. Conditions: the bytes lie in memory. -/
import Derived.Test.YtociidinfdbaeaaF
namespace Go.Proofs.Ytociidinfdbaeaa
open Go.RowKit Go.Shelf

/-- Where the first byte is that is the given one. -/
def idx (x : Nat) (B : List Nat) : Nat := B.findIdx (fun c => c == x)
def idxRes (x : Nat) (B : List Nat) : Int := if idx x B < B.length then idx x B else -1

theorem idx_found {x : Nat} {B : List Nat} {k : Nat} (h : k < B.length) (h1 : B[k] = x) (h2 : ∀ j (hj : j < B.length), j < k → B[j] ≠ x) : idxRes x B = k := by
  have : idx x B = k := (List.findIdx_eq h).2 ⟨by simpa using h1, fun j hj => by simpa using h2 j (by omega) hj⟩
  rw [idxRes, this, if_pos h]
theorem idx_none {x : Nat} {B : List Nat} (h2 : ∀ j (hj : j < B.length), B[j] ≠ x) : idxRes x B = -1 := by
  have : idx x B = B.length := List.findIdx_eq_length.2 fun y hy => by
    obtain ⟨j, hj, rfl⟩ := List.mem_iff_getElem.1 hy
    simpa using h2 j hj
  rw [idxRes, this, if_neg (Nat.lt_irrefl _)]

set_option maxRecDepth 100000 in
set_option maxHeartbeats 800000 in
theorem index_none (A : Option Addr) (c x : Nat) (w : World) :
    Calls Try.prog 42 #[.slice A 0 c, .int .u8 x] w fun e w' => e = .returned (.int .i64 (-1)) ∧ w = w' := by
  go_enter Try.func42, Try.ntmps42
  go_wp2_with fail
  go_loopw [5, 8] (fun i j wr => j = .int .i64 0 ∧ wr = w) (fun _ j _ => 0)
  case atStart => exact ⟨rfl, rfl⟩
  case round =>
    obtain ⟨rfl, rfl⟩ := hrel
    go_wp2
    go_ret
    exact ⟨rfl, rfl⟩

set_option maxRecDepth 100000 in
set_option maxHeartbeats 800000 in
theorem index_some (b off c x : Nat) (B : List Nat) (w : World) (hcells : ∀ j (hj : j < B.length), w.cell? ⟨b, off + j, none⟩ = some (.int .u8 (B[j] : Nat))) (hl : B.length ≤ 1048576) :
    Calls Try.prog 42 #[.slice (some ⟨b, off, none⟩) B.length c, .int .u8 x] w fun e w' => e = .returned (.int .i64 (idxRes x B)) ∧ w = w' := by
  have HC := Lib.hid hcells
  clear hcells
  go_enter Try.func42, Try.ntmps42
  go_wp2_with fail
  go_loopw [5, 8] (fun i j wr => ∃ k : Nat, k ≤ B.length ∧ j = .int .i64 k ∧ (∀ i (hi : i < B.length), i < k → B[i] ≠ x) ∧ wr = w) (fun _ j _ => B.length - (intOf j).toNat)
  case atStart => exact ⟨0, Nat.zero_le _, rfl, fun _ _ h => absurd h (Nat.not_lt_zero _), rfl⟩
  case round =>
    obtain ⟨k, hk, rfl, hbef, rfl⟩ := hrel
    by_cases hlt : k < B.length
    · have q0 := HC.out k hlt
      obtain ⟨y, hy⟩ : ∃ y, B[k] = y := ⟨_, rfl⟩
      rw [hy] at q0
      have HB := Lib.hid hbef
      have HY := Lib.hid hy
      clear hbef hy
      by_cases hxy : x = y
      · subst hxy
        go_wp2
        go_ret
        exact ⟨ret_int (idx_found hlt HY.out HB.out).symm, rfl⟩
      · have hne : ¬ ((x : Int) = (y : Int)) := by omega
        go_wp2
        go_roundw
        case rel =>
          refine ⟨k + 1, by omega, by go_num, fun i hi hik => ?_, trivial⟩
          rcases Nat.lt_succ_iff_lt_or_eq.1 hik with h | h
          · exact HB.out i hi h
          · subst h; rw [HY.out]; exact fun e => hxy e.symm
        case measure => simp [intOf]; omega
    · obtain rfl : k = B.length := by omega
      have HB := Lib.hid hbef
      clear hbef
      go_wp2
      go_ret
      exact ⟨ret_int (idx_none fun j hj => HB.out j hj hj).symm, rfl⟩

theorem index_any (s : Value) (x : Nat) (B : List Nat) (w : World) (h : Buf w s B) (hl : B.length ≤ 1048576) :
    Calls Try.prog 42 #[s, .int .u8 x] w fun e w' => e = .returned (.int .i64 (idxRes x B)) ∧ w = w' := by
  obtain ⟨ao, b, off, cap, h⟩ := h
  obtain rfl := h.eq
  rcases Nat.eq_zero_or_pos B.length with h0 | h0
  · obtain rfl := List.eq_nil_of_length_eq_zero h0
    exact index_none ao cap x w
  · obtain rfl := h.came.addr (Nat.lt_of_lt_of_le h0 h.came.le)
    exact index_some b off cap x B w (fun j hj => h.came.olds j _ (u8s_get B j hj)) hl
end Go.Proofs.Ytociidinfdbaeaa
