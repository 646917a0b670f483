/- Take, Place and Rest without a reader; the iterator of nothing. Conditions: there is no reader. -/
import Derived.Test.YtgdjfifnnhfonaaW
import Derived.RangeFuncNested
import Derived.RangeFuncBound
import Derived.RangeFuncCalls
import Derived.RangeFuncLeaves
import Derived.TacticsInMore
import Derived.LoopNIn
import Derived.LoopIn
namespace Go.Proofs.Ytgdjfifnnhfonaa
open Go.RowKit Go.Shelf
attribute [local go_sem] Oper.semAt_some

set_option maxRecDepth 100000 in
set_option maxHeartbeats 1600000 in
theorem notake (r : Value) (s : ByteArray) (w : World) (h : NoR r w) :
    Calls Try.prog 21 #[r, .string s] w fun e w' => e = .returned (.int .i64 1) ∧ Below w.heap.size w w' := by
  have hal := (Below.refl w.heap.size w).alloc (Nat.le_refl _) (.cells #[.string s] 9)
  have HN := Lib.hid (nopass r (.func (.func 45) #[] #[.pointer (some ⟨w.heap.size, 0, none⟩)]) _ (h.later hal))
  have HAL := Lib.hid hal
  have hmf : ∀ (fn : Fn) (first cap : Array Value) (w : World), (Instr.makeFunc fn first cap).run Try.prog w = .ok (.func fn first cap) w := fun _ _ _ _ => rfl
  clear h hal
  go_enter Try.func21, Try.ntmps21
  go_wp2_with (go_at_call 42; refine HN.out.mono ?_; rintro e w2 ⟨rfl, hb2⟩)
  go_ret
  have hb := HAL.out.trans (hb2.mono HAL.out.size)
  exact ⟨rfl, hb.trans (((Below.refl w2.heap.size w2).alloc (Nat.le_refl _) _).mono hb.size)⟩

set_option maxRecDepth 100000 in
set_option maxHeartbeats 1600000 in
theorem noplace (r : Value) (w : World) (h : NoR r w) :
    Calls Try.prog 24 #[r] w fun e w' => e = .returned (.agg #[.int .i64 0, .int .i64 0]) ∧ Below w.heap.size w w' := by
  have hal := (Below.refl w.heap.size w).alloc (Nat.le_refl _) (.cells #[.int .i64 0, .int .i64 0] 25)
  have HN := Lib.hid (h _ hal)
  have HAL := Lib.hid hal
  clear h hal
  go_enter Try.func24, Try.ntmps24
  go_wp2_with (go_at_call 44; refine HN.out.mono ?_; rintro e w2 ⟨rfl, rfl⟩)
  refine bodyPost_ret (by simp [results, Try.results24, go_sem]; try rfl) rfl ?_
  exact ⟨rfl, HAL.out⟩

set_option maxRecDepth 100000 in
set_option maxHeartbeats 1600000 in
theorem values_any (A : Option Addr) (n c : Nat) (w : World) :
    Calls Try.prog 48 #[.slice A n c] w fun e w' => e = .returned (.func (.func 54) #[] #[.pointer (some ⟨w.heap.size, 0, none⟩)]) ∧ w.alloc (.cells #[.slice A n c] 23) = w' := by
  have hmf : ∀ (fn : Fn) (first cap : Array Value) (w : World), (Instr.makeFunc fn first cap).run Try.prog w = .ok (.func fn first cap) w := fun _ _ _ _ => rfl
  go_enter Try.func48, Try.ntmps48
  go_wp2_with fail
  go_ret
  exact ⟨rfl, rfl⟩

set_option maxRecDepth 100000 in
set_option maxHeartbeats 1600000 in
theorem norest (r : Value) (w : World) (h : NoR r w) :
    Calls Try.prog 25 #[r] w fun e w' => e = .returned (.func (.func 54) #[] #[.pointer (some ⟨w.heap.size, 0, none⟩)]) ∧ w.alloc (.cells #[.slice none 0 0] 23) = w' := by
  have HN := Lib.hid (h w (Below.refl _ _))
  have HV := Lib.hid (values_any none 0 0 w)
  clear h
  go_enter Try.func25, Try.ntmps25
  go_wp2_with (first | (go_at_call 44; refine HN.out.mono ?_; rintro e w2 ⟨rfl, rfl⟩) | (go_at_call 48; refine HV.out.mono ?_; rintro e w2 ⟨rfl, rfl⟩))
  go_ret
  exact ⟨rfl, rfl⟩

theorem Try.ent54 : ∀ args w, (callFunc 54 args).run Try.prog w = .ok (.enter 54 args) w := enters_of Try.func54 (by kernel_rfl) rfl

set_option maxRecDepth 100000 in
set_option maxHeartbeats 1600000 in
theorem none_stops (n c : Nat) (w : World) (hc : Boxed w c 23 (.slice none 0 0)) : SeqStopsK Fence.wide n Try.prog 54 #[.pointer (some ⟨c, 0, none⟩)] (fun _ : Bool => #[.agg #[.int .i64 0, .string ⟨#[]⟩, .int .i64 0, .int .i64 0, .int .i64 0]]) (fun _ _ => True) (fun xs => xs = []) (fun _ => False) 0 w := by
  intro l J Jx W hW hJ hJx hY h0
  have hb := boxed_below hc hW hc.lt
  have c0 := hb.cell
  have HJ := Lib.hid h0
  clear h0 hY hJ hJx hW hb hc
  refine callsIn_of_wp Try.func54 rfl trivial ?_ rfl
  simp only [Try.ntmps54, List.size_toArray, List.length_cons, List.length_nil, Nat.reduceAdd, Nat.reduceSub, Array.replicate_succ, Array.replicate_zero, List.push_toArray, List.append_toArray, List.nil_append, List.cons_append]
  gi_wp2_with fail
  refine wpIn_loop_rounds 1 ?_
  rw [roundsIn_succ]
  gi_wp2_with fail
  go_end0
  exact ⟨⟨_, rfl⟩, .inl ⟨[], rfl, HJ.out⟩⟩

theorem run_equalIn_func_nil {P : Program} (w : World) (d : Nat) (t : TypeId) (f : Fn) (fi ca : Array Value) (h : ∃ ps rs v, P.underlying t = some (.func ps rs v)) :
    (Op.equalIn (d + 1) t (.func f fi ca) .nilFunc).run P w = .ok false w := by
  obtain ⟨ps, rs, v, h⟩ := h
  simp [Op.equalIn, run_underlying h]
theorem run_eql_func_nil {P : Program} (w : World) (t : TypeId) (f : Fn) (fi ca : Array Value) (h : ∃ ps rs v, P.underlying t = some (.func ps rs v)) :
    (binOp .eql t (.func f fi ca) .nilFunc).run P w = .ok (.bool false) w := by
  simp only [binOp]
  simp [Op.equal, Op.maxDepth, run_equalIn_func_nil w 9999 t f fi ca h]
theorem Try.underlying62 : ∃ ps rs v, Try.prog.underlying 62 = some (.func ps rs v) := ⟨#[90], #[], false, by kernel_rfl⟩
theorem eql62 (w : World) (f : Fn) (fi ca : Array Value) : (binOp .eql 62 (.func f fi ca) .nilFunc).run Try.prog w = .ok (.bool false) w :=
  run_eql_func_nil w 62 f fi ca Try.underlying62
end Go.Proofs.Ytgdjfifnnhfonaa
