/- The iterator of a slice of texts, for a body that knows which text it is given. Conditions: the texts lie in memory, and the body of the loop leaves them as they are. -/
import Derived.Test.YteibnmnpebfefaaRf
namespace Go.Proofs.Yteibnmnpebfefaa
open Go.RowKit Go.Shelf
attribute [local go_sem] Oper.semAt_some

theorem Try.entVals : ∀ args w, (callFunc 67 args).run Try.prog w = .ok (.enter 67 args) w := enters_of Try.func67 (by kernel_rfl) rfl

set_option maxRecDepth 100000 in
set_option maxHeartbeats 1600000 in
theorem strs_at (n : Nat) (hn : 1 ≤ n) (l qb c : Nat) (S : Nat → Prop) (A : Option Addr) (D : List (List UInt8)) (J Jx : List (List UInt8) → World → Prop) (hJ : ∀ pre W W', J pre W → Below W.heap.size W W' → J pre W') (hDl : D.length ≤ 9223372036854775807)
    (hJS : ∀ pre W, J pre W → SlAt strCells 1 S W A c D)
    (hY : ∀ pre x W, J pre W → pre ++ [x] <+: D → YieldAt Fence.wide (n - 1) Try.prog l #[.string (strL x)] W fun e W' =>
      (e = .returned (.bool true) ∧ J (pre ++ [x]) W') ∨ (e = .returned (.bool false) ∧ Jx (pre ++ [x]) W'))
    (W : World) (hq : W.cell? ⟨qb, 0, none⟩ = some (.slice A D.length c)) (h0 : J [] W) :
    CallsIn Fence.wide n Try.prog 67 #[.func (.yield l) #[] #[], .pointer (some ⟨qb, 0, none⟩)] W fun e W' => (∃ v, e = .returned v) ∧
      (J D W' ∨ (∃ pre : List (List UInt8), pre <+: D ∧ Jx pre W')) := by
  have HS := Lib.hid (hJS _ _ h0)
  have HJS := Lib.hid hJS
  have H0 := Lib.hid h0
  have HY := Lib.hid hY
  have HJ := Lib.hid hJ
  have hcap := HS.out.2.1
  clear h0 hJS hY hJ
  refine callsIn_of_wp Try.func67 rfl trivial ?_ rfl
  simp only [Try.ntmps67, List.size_toArray, List.length_cons, List.length_nil, Nat.reduceAdd, Nat.reduceSub, Array.replicate_succ, Array.replicate_zero, List.push_toArray, List.append_toArray, List.nil_append, List.cons_append]
  gi_wp2_with fail
  gi_loopw [7] (fun x7 wr => ∃ k : Nat, k ≤ D.length ∧ x7 = .int .i64 ((k : Nat) : Int) ∧ J (D.take k) wr) (fun x7 _ => D.length - (intOf x7).toNat)
  case atStart => exact ⟨0, Nat.zero_le _, rfl, H0.out⟩
  case round =>
    obtain ⟨k, hk, rfl, hJk⟩ := hrel
    have hSk := HJS.out _ _ hJk
    by_cases hlt : k < D.length
    · obtain ⟨d, hd⟩ : ∃ d, D[k]? = some d := ⟨_, List.getElem?_eq_getElem hlt⟩
      have htk : D.take (k + 1) = D.take k ++ [d] := (drop_of hd).2
      obtain ⟨g, o, rfl, hx⟩ := hSk.at_ hd
      have y0 : wr.cell? ⟨g, o + k, none⟩ = some (.string (strL d)) := by have := hx 0 (.string (strL d)) rfl; simpa using this
      obtain ⟨fn, tmps, assign, body, hy, hR⟩ := HY.out _ d wr hJk (by rw [← htk]; exact List.take_prefix _ _)
      have HR := Lib.hid hR
      have HTK := Lib.hid htk
      have hlti : ((k : Nat) : Int) < ((D.length : Nat) : Int) := by omega
      clear htk hx hd hJk hSk hR
      gi_wp2_with fail
      refine HR.out.mono ?_
      rintro e W3 (⟨rfl, hJ3⟩ | ⟨rfl, hJx3⟩)
      · have HJ3 := Lib.hid hJ3
        clear hJ3
        gi_wp2
        go_roundw
        case rel => exact ⟨k + 1, by omega, by go_num, by rw [HTK.out]; exact HJ3.out⟩
        case measure => simp [intOf]; omega
      · have HJ3 := Lib.hid hJx3
        clear hJx3
        gi_wp2
        refine bodyPost_ret (results_none rfl _ _ _) rfl ?_
        refine ⟨⟨_, rfl⟩, .inr ⟨D.take (k + 1), List.take_prefix _ _, ?_⟩⟩
        rw [HTK.out]; exact HJ3.out
    · have HJk := Lib.hid hJk
      clear hJk hSk
      obtain rfl : k = D.length := by omega
      gi_wp2
      go_end0
      exact ⟨⟨_, rfl⟩, .inl (by have := HJk.out; rwa [List.take_length] at this)⟩
end Go.Proofs.Yteibnmnpebfefaa
