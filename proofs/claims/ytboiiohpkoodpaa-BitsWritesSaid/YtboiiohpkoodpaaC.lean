/- The iterator of digits yields the bits of a number, the most significant one first. Conditions: at most 64 bits, the number below 2^32, and the body of the loop leaves the two captured variables as they are. -/
import Derived.Test.YtboiiohpkoodpaaB
import Derived.Test.YtboiiohpkoodpaaM
import Derived.Lib.RabinKarpLaws
import Derived.RangeFuncNested
import Derived.RangeFuncBound
import Derived.RangeFuncCalls
import Derived.RangeFuncLeaves
import Derived.Shelf.Abstract
import Derived.Shelf.RegionOpen
import Derived.OwnWalkIn
import Derived.TacticsInMore
import Derived.LoopNIn
import Derived.LoopIn
namespace Go.Proofs.Ytboiiohpkoodpaa
open Go.RowKit Go.Shelf
attribute [local go_sem] Oper.semAt_some

def KeptAt (A B : Nat) (W W' : World) : Prop := W'.heap[A]? = W.heap[A]? ∧ W'.heap[B]? = W.heap[B]?

theorem KeptAt.cellB {A B : Nat} {W W' : World} (h : KeptAt A B W W') (o : Nat) : W'.cell? ⟨B, o, none⟩ = W.cell? ⟨B, o, none⟩ := World.cell?_of_block (w := W) h.2

theorem dig_eq (v m k : Nat) (hv : v < 4294967296) : (bits BinOp.and IntKind.i64 ((v : Int) / 2 ^ (m - 1 - k)) 1 == 1) = v.testBit (m - 1 - k) := by
  have h : ((v : Int) / 2 ^ (m - 1 - k)) = ((v / 2 ^ (m - 1 - k) : Nat) : Int) := by simp
  rw [h, and_one _ (Nat.lt_of_le_of_lt (Nat.div_le_self _ _) (by omega)), Nat.testBit_eq_decide_div_mod_eq]
  rw [Bool.eq_iff_iff]
  simp
  omega

theorem digs_take (v m k : Nat) (h : k < m) : (digs v m).take (k + 1) = (digs v m).take k ++ [v.testBit (m - 1 - k)] := by
  rw [List.take_succ_eq_append_getElem (by rw [digs_length]; exact h), digs_get _ _ _ h]

set_option maxRecDepth 100000 in
set_option maxHeartbeats 800000 in
theorem digits1_in (n : Nat) (hn : 1 ≤ n) (l Bn Bv : Nat) (v : Nat) (m : Nat) (hm : m ≤ 64) (hv : v < 4294967296) (J Jx : List Bool → World → Prop)
    (hY : ∀ pre x W, J pre W → pre.length < m → YieldAt Fence.wide (n - 1) Try.prog l #[.bool x] W fun e W' =>
      (e = .returned (.bool true) ∧ J (pre ++ [x]) W' ∧ KeptAt Bn Bv W W') ∨ (e = .returned (.bool false) ∧ Jx (pre ++ [x]) W'))
    (W : World) (hBn : W.cell? ⟨Bn, 0, none⟩ = some (.int .i64 m)) (hBv : W.cell? ⟨Bv, 0, none⟩ = some (.int .i64 v)) (h0 : J [] W) :
    CallsIn Fence.wide n Try.prog 90 #[.func (.yield l) #[] #[], .pointer (some ⟨Bn, 0, none⟩), .pointer (some ⟨Bv, 0, none⟩)] W fun e W' => (∃ v, e = .returned v) ∧
      ((∃ ys : List Bool, ys = digs v m ∧ J ys W') ∨ (∃ pre : List Bool, pre <+: digs v m ∧ Jx pre W')) := by
  have HV := Lib.hid hv
  refine callsIn_of_wp Try.func90 rfl trivial ?_ rfl
  simp only [Try.ntmps90, List.size_toArray, List.length_cons, List.length_nil, Nat.reduceAdd, Nat.reduceSub, Array.replicate_succ, Array.replicate_zero, List.push_toArray, List.append_toArray, List.nil_append, List.cons_append]
  gi_wp2
  gi_loopw [4] (fun p wr => ∃ k : Nat, k ≤ m ∧ p = .int .i64 ((m : Int) - 1 - k) ∧ J ((digs v m).take k) wr ∧ wr.cell? ⟨Bv, 0, none⟩ = some (.int .i64 v))
    (fun p wr => (intOf p + 1).toNat)
  case atStart =>
    exact ⟨0, Nat.zero_le _, by simp, h0, hBv⟩
  case round =>
    obtain ⟨k, hk, rfl, hJ, hc⟩ := hrel
    by_cases hlt : k < m
    · obtain ⟨fn, tmps, assign, body, hy, hR⟩ := hY _ (bits BinOp.and IntKind.i64 ((v : Int) / 2 ^ (m - 1 - k)) 1 == 1) wr hJ (by rw [List.length_take, digs_length]; omega)
      have HJ := Lib.hid hJ
      have HR := Lib.hid hR
      have HYY := Lib.hid hY
      clear hJ hR hY
      gi_wp2
      refine HR.out.mono ?_
      rintro e W3 (⟨rfl, hJ3, hk3⟩ | ⟨rfl, hJx3⟩)
      · have hc3 := (hk3.cellB 0).trans hc
        have HJ3 := Lib.hid hJ3
        clear hJ3
        gi_wp2
        go_roundw
        case rel => exact ⟨k + 1, by omega, by go_num, by rw [digs_take v m k hlt, ← dig_eq v m k HV.out]; exact HJ3.out, hc3⟩
        case measure => simp [intOf]; omega
      · have HJ3 := Lib.hid hJx3
        clear hJx3
        gi_wp2
        refine bodyPost_ret (results_none rfl _ _ _) rfl ?_
        refine ⟨⟨_, rfl⟩, .inr ⟨(digs v m).take (k + 1), List.take_prefix _ _, ?_⟩⟩
        rw [digs_take v m k hlt, ← dig_eq v m k HV.out]; exact HJ3.out
    · have HJ := Lib.hid hJ
      clear hJ
      obtain rfl : k = m := by omega
      gi_wp2
      go_end0
      exact ⟨⟨_, rfl⟩, .inl ⟨digs v k, rfl, by have := HJ.out; rwa [List.take_of_length_le (by rw [digs_length]; omega)] at this⟩⟩

/-- The contract of the iterator value. -/
theorem digits_stops (n : Nat) (h1 : 1 ≤ n) (Bn Bv : Nat) (v m : Nat) (hm : m ≤ 64) (hv : v < 4294967296) (w : World)
    (hn : w.cell? ⟨Bn, 0, none⟩ = some (.int .i64 m)) (hv' : w.cell? ⟨Bv, 0, none⟩ = some (.int .i64 v)) (l1 : Bn < w.heap.size) (l2 : Bv < w.heap.size) :
    SeqStopsK Fence.wide n Try.prog 90 #[.pointer (some ⟨Bn, 0, none⟩), .pointer (some ⟨Bv, 0, none⟩)] (fun x : Bool => #[.bool x]) (KeptAt Bn Bv) (fun xs => xs = digs v m) (fun pre => pre <+: digs v m) m w :=
  fun l J Jx W hW _ _ hY h0 =>
    digits1_in n h1 l Bn Bv v m hm hv J Jx hY W ((hW.cell (p := ⟨Bn, 0, none⟩) l1).trans hn) ((hW.cell (p := ⟨Bv, 0, none⟩) l2).trans hv') h0
end Go.Proofs.Ytboiiohpkoodpaa
