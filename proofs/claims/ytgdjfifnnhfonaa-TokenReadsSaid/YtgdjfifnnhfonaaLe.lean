/- The iterator of a slice of tokens yields them in order. Conditions: the tokens lie in memory, and the body of the loop leaves their block as it is. -/
import Derived.Test.YtgdjfifnnhfonaaKd
namespace Go.Proofs.Ytgdjfifnnhfonaa
open Go.RowKit Go.Shelf
attribute [local go_sem] Oper.semAt_some

/-- The tokens' block is left as it was. -/
def KeptTok (A : Option Addr) (W W' : World) : Prop := ∀ g o, A = some ⟨g, o, none⟩ → W'.heap[g]? = W.heap[g]?
theorem keptTok_t {A : Option Addr} {a b c : World} (h : KeptTok A a b) (k : KeptTok A b c) : KeptTok A a c := fun g o e => (k g o e).trans (h g o e)
theorem SlAt.kept {α : Type} {cs : α → List Value} {s c : Nat} {S : Nat → Prop} {W W' : World} {A : Option Addr} {D : List α} (h : SlAt cs s S W A c D) (hk : KeptTok A W W') : SlAt cs s S W' A c D := by
  refine ⟨h.1, h.2.1, fun i d hi => ?_⟩
  obtain ⟨g, o, hA, hS, hc⟩ := h.2.2 i d hi
  exact ⟨g, o, hA, hS, fun j u hu => (World.cell?_of_block (w := W) (hk g o hA)).trans (hc j u hu)⟩

set_option maxRecDepth 100000 in
set_option maxHeartbeats 1600000 in
theorem toks54_in (n : Nat) (hn : 1 ≤ n) (l qb B c : Nat) (S : Nat → Prop) (A : Option Addr) (D : List TokD) (J Jx : List TokD → World → Prop) (hJ : AbidesFrom B J) (hDl : D.length ≤ 9223372036854775807)
    (hY : ∀ pre x W, J pre W → pre.length < D.length → YieldAt Fence.wide (n - 1) Try.prog l #[x.agg] W fun e W' =>
      (e = .returned (.bool true) ∧ J (pre ++ [x]) W' ∧ KeptTok A W W') ∨ (e = .returned (.bool false) ∧ Jx (pre ++ [x]) W'))
    (W : World) (hq : W.cell? ⟨qb, 0, none⟩ = some (.slice A D.length c)) (hS : SlAt TokD.cells 5 S W A c D) (h0 : J [] W) :
    CallsIn Fence.wide n Try.prog 54 #[.func (.yield l) #[] #[], .pointer (some ⟨qb, 0, none⟩)] W fun e W' => (∃ v, e = .returned v) ∧
      ((∃ ys : List TokD, ys = D ∧ J ys W') ∨ (∃ pre : List TokD, pre <+: D ∧ Jx pre W')) := by
  have H0 := Lib.hid h0
  have HS := Lib.hid hS
  have HY := Lib.hid hY
  have HJ := Lib.hid hJ
  have hcap := hS.2.1
  clear h0 hS hY hJ
  refine callsIn_of_wp Try.func54 rfl trivial ?_ rfl
  simp only [Try.ntmps54, List.size_toArray, List.length_cons, List.length_nil, Nat.reduceAdd, Nat.reduceSub, Array.replicate_succ, Array.replicate_zero, List.push_toArray, List.append_toArray, List.nil_append, List.cons_append]
  gi_wp2_with fail
  gi_loopw [7] (fun x7 wr => ∃ k : Nat, k ≤ D.length ∧ x7 = .int .i64 ((k : Nat) : Int) ∧ J (D.take k) wr ∧ SlAt TokD.cells 5 S wr A c D) (fun x7 _ => D.length - (intOf x7).toNat)
  case atStart => exact ⟨0, Nat.zero_le _, rfl, H0.out, HS.out⟩
  case round =>
    obtain ⟨k, hk, rfl, hJk, hSk⟩ := hrel
    by_cases hlt : k < D.length
    · obtain ⟨d, hd⟩ : ∃ d, D[k]? = some d := ⟨_, List.getElem?_eq_getElem hlt⟩
      have htk : D.take (k + 1) = D.take k ++ [d] := by
        obtain ⟨hk', rfl⟩ := List.getElem?_eq_some_iff.1 hd
        exact List.take_succ_eq_append_getElem hk'
      obtain ⟨g, o, rfl, _, hx⟩ := hSk.2.2 k d hd
      have y0 : wr.cell? ⟨g, o + k * 5, none⟩ = some (.int .i64 d.k) := hx 0 _ rfl
      have y1 : wr.cell? ⟨g, o + k * 5 + 1, none⟩ = some (.string (strL d.t)) := hx 1 _ rfl
      have y2 : wr.cell? ⟨g, o + k * 5 + 2, none⟩ = some (.int .i64 d.v) := hx 2 _ rfl
      have y3 : wr.cell? ⟨g, o + k * 5 + 3, none⟩ = some (.int .i64 d.ln) := hx 3 _ rfl
      have y4 : wr.cell? ⟨g, o + k * 5 + 4, none⟩ = some (.int .i64 d.cn) := hx 4 _ rfl
      have hal := below_alloc wr (.cells #[.int .i64 d.k, .string (strL d.t), .int .i64 d.v, .int .i64 d.ln, .int .i64 d.cn] 36)
      have hbx := agg_box wr d
      have hJ1 := HJ.out _ _ _ none hJk (World.grownBy_alloc wr (.cells #[.int .i64 d.k, .string (strL d.t), .int .i64 d.v, .int .i64 d.ln, .int .i64 d.cn] 36) none) (fun r e => by cases e)
      have hS1 := hSk.below hal
      obtain ⟨vb, evb⟩ : ∃ vb, wr.heap.size = vb := ⟨_, rfl⟩
      obtain ⟨w1, hw1⟩ : ∃ w1, wr.alloc (.cells #[.int .i64 d.k, .string (strL d.t), .int .i64 d.v, .int .i64 d.ln, .int .i64 d.cn] 36) = w1 := ⟨_, rfl⟩
      rw [hw1] at hbx hJ1 hS1
      rw [evb] at hbx
      obtain ⟨fn, tmps, assign, body, hy, hR⟩ := HY.out _ d w1 hJ1 (by rw [List.length_take]; omega)
      unfold TokD.agg at hy
      have HR := Lib.hid hR
      have S1 := Lib.hid hS1
      have W1 := Lib.hid hw1
      have EVB := Lib.hid evb
      have HTK := Lib.hid htk
      have x0 := hbx.c0
      have x1 := hbx.c1
      have x2 := hbx.c2
      have x3 := hbx.c3
      have x4 := hbx.c4
      have hlti : ((k : Nat) : Int) < ((D.length : Nat) : Int) := by omega
      clear hal hbx hJ1 hS1 hw1 evb htk hx hd hJk hSk hR
      gi_wp2_with fail
      rw [W1.out, EVB.out]
      gi_wp2_with fail
      rw [hy, Oper.uponIn_round]
      refine ⟨fun _ => hn, HR.out.mono ?_⟩
      rintro e W3 (⟨rfl, hJ3, hk3⟩ | ⟨rfl, hJx3⟩)
      · have HS3 := Lib.hid (S1.out.kept hk3)
        have HJ3 := Lib.hid hJ3
        clear hJ3 hk3
        gi_wp2
        go_roundw
        case rel => exact ⟨k + 1, by omega, by go_num, by rw [HTK.out]; exact HJ3.out, HS3.out⟩
        case measure => simp [intOf]; omega
      · have HJ3 := Lib.hid hJx3
        clear hJx3
        gi_wp2
        refine bodyPost_ret (results_none rfl _ _ _) rfl ?_
        refine ⟨⟨_, rfl⟩, .inr ⟨D.take (k + 1), List.take_prefix _ _, ?_⟩⟩
        rw [HTK.out]; exact HJ3.out
    · have HJk := Lib.hid hJk
      clear hJk hSk
      obtain rfl : k = D.length := by omega
      gi_wp2
      go_end0
      exact ⟨⟨_, rfl⟩, .inl ⟨D, rfl, by have := HJk.out; rwa [List.take_length] at this⟩⟩

theorem toks_stops (n : Nat) (hn : 1 ≤ n) (qb c : Nat) (S : Nat → Prop) (A : Option Addr) (D : List TokD) (hDl : D.length ≤ 9223372036854775807) (w : World)
    (hl : qb < w.heap.size) (hq : w.cell? ⟨qb, 0, none⟩ = some (.slice A D.length c)) (hS : SlAt TokD.cells 5 S w A c D) :
    SeqStopsK Fence.wide n Try.prog 54 #[.pointer (some ⟨qb, 0, none⟩)] (fun d : TokD => #[d.agg]) (KeptTok A) (fun xs => xs = D) (fun pre => pre <+: D) D.length w := by
  intro l J Jx W hW a1 a2 hY h0
  exact toks54_in n hn l qb W.heap.size c S A D J Jx a1 hDl hY W ((hW.cell hl).trans hq) (hS.below hW) h0
end Go.Proofs.Ytgdjfifnnhfonaa
