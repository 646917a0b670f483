/- The letters of a kind, and whether a text has a letter, as the document says. No conditions. -/
import Derived.Test.YtbpkppmbbpoohaaGreatSd
namespace Go.Proofs.YtbpkppmbbpoohaaGreat
open Go.RowKit Go.Shelf

def hasL (u : List UInt8) (c : Int) : Bool := u.any (fun b => ((b.toNat : Nat) : Int) == c)
theorem any_take_none {l : List UInt8} {p : UInt8 → Bool} (h : ∀ b ∈ l, p b = false) : l.any p = false := by
  rw [List.any_eq_false]
  intro x hx
  rw [h x hx]
  simp

set_option maxRecDepth 100000 in
set_option maxHeartbeats 1600000 in
theorem refHas_any (l : List UInt8) (hb : l.length ≤ 100) (c : Int) (w : World) : Calls Tryz.prog 120 #[.string (strL l), .int .u8 c] w fun e w' => e = .returned (.bool (hasL l c)) ∧ w' = w := by
  have hs : (strL l).size = l.length := strL_size l
  obtain ⟨R, hR⟩ : ∃ R, hasL l c = R := ⟨_, rfl⟩
  rw [hR]
  have HR := Lib.hid hR
  clear hR
  · go_enter Tryz.func120, Tryz.ntmps120
    go_wp2
    go_loop [5] (fun x5 => ∃ i : Nat, i ≤ l.length ∧ x5 = .int .i64 ((i : Nat) : Int) ∧ ∀ b ∈ l.take i, (((b.toNat : Nat) : Int) == c) = false) (fun x5 => l.length - (intOf x5).toNat)
    case atStart => exact ⟨0, Nat.zero_le _, rfl, by simp⟩
    case round =>
      obtain ⟨i, hi, rfl, hall⟩ := hrel
      have HA := Lib.hid hall
      clear hall
      by_cases hlt : i < l.length
      · have h2 : i < (strL l).size := by omega
        have hgb : (strL l)[i].toNat = (l[i]'hlt).toNat := by rw [strL_get]
        obtain ⟨q, hq⟩ : ∃ q : Nat, (strL l)[i].toNat = q := ⟨_, rfl⟩
        have hlq : (l[i]'hlt).toNat = q := hgb.symm.trans hq
        have hget := List.getElem?_eq_getElem hlt
        by_cases he : ((q : Nat) : Int) = c
        · have hRt : R = true := by
            rw [← HR.out]
            exact List.any_eq_true.2 ⟨l[i]'hlt, List.getElem_mem hlt, beq_iff_eq.2 (by rw [hlq]; exact he)⟩
          have HRT := Lib.hid hRt
          subst he
          clear hRt hgb hget hlq
          go_wp2
          go_ret
          exact ⟨ret_bool HRT.out.symm, rfl⟩
        · have hn : ∀ b ∈ l.take (i + 1), (((b.toNat : Nat) : Int) == c) = false := by
            intro b hb
            rw [(drop_of hget).2] at hb
            rcases List.mem_append.1 hb with hb | hb
            · exact HA.out b hb
            · simp only [List.mem_singleton] at hb
              subst hb
              exact beq_eq_false_iff_ne.2 (fun e => he (by rw [hlq] at e; exact e))
          have HN := Lib.hid hn
          have hc1 : (((q : Nat) : Int) == c) = false := beq_eq_false_iff_ne.2 he
          clear hn hgb hget hlq
          go_wp2
          go_round
          case rel => exact ⟨i + 1, by omega, by go_num, HN.out⟩
          case measure => simp [intOf]; omega
      · obtain rfl : i = l.length := by omega
        have hRf : R = false := by
          rw [← HR.out]
          have := HA.out
          rw [List.take_length] at this
          exact any_take_none this
        have HRF := Lib.hid hRf
        clear hRf
        go_wp2
        go_ret
        exact ⟨ret_bool HRF.out.symm, rfl⟩

def usedL (k : Nat) : List UInt8 := [[], [98, 108, 120, 104], [98, 108, 120], [111, 120, 104], [115], [120, 104], [111, 104], [102, 115], [102], [116, 99], [98], [114, 107], [102, 115, 121]].getD k []
set_option maxRecDepth 100000 in
set_option maxHeartbeats 1600000 in
theorem refUsed_any (k : Nat) (hk : k ≤ 12) (w : World) : Calls Tryz.prog 119 #[.int .i64 ((k : Nat) : Int)] w fun e w' => e = .returned (.string (strL (usedL k))) ∧ Below w.heap.size w w' := by
  have hc : k = 0 ∨ k = 1 ∨ k = 2 ∨ k = 3 ∨ k = 4 ∨ k = 5 ∨ k = 6 ∨ k = 7 ∨ k = 8 ∨ k = 9 ∨ k = 10 ∨ k = 11 ∨ k = 12 := by omega
  rcases hc with rfl | rfl | rfl | rfl | rfl | rfl | rfl | rfl | rfl | rfl | rfl | rfl | rfl
  all_goals
    go_enter Tryz.func119, Tryz.ntmps119
    go_wp2_with fail
    go_ret
    exact ⟨rfl, below_alloc _ _⟩
end Go.Proofs.YtbpkppmbbpoohaaGreat
