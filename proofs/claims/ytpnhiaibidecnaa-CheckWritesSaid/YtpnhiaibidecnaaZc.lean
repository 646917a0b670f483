/- How the checksums of a kind are computed: ruleOf. Condition: a kind that exists. -/
import Derived.Test.YtpnhiaibidecnaaZb
import Derived.Laws.EntriesVeiled
import Derived.Deep.WholeRow
namespace Go.Proofs.Ytpnhiaibidecnaa
open Go.RowKit Go.Shelf

theorem below_two (w : World) (o p : Obj) : Below w.heap.size w ((w.alloc o).alloc p) := ((Below.refl _ _).alloc (Nat.le_refl _) o).alloc (by simp) p

open Lean Elab Tactic Meta in
/-- Succeeds where the next operation is a store of a type. -/
elab "at_store" n:num : tactic => withMainContext do
  let t := (← instantiateMVars (← getMainTarget)).consumeMData
  unless t.isAppOfArity ``Go.wpList 6 do throwError "at_store: no wpList"
  let l := t.getArg! 3
  unless l.isAppOfArity ``List.cons 3 do throwError "at_store: no operation"
  let o := l.getArg! 1
  unless o.isAppOfArity ``Go.Oper.mk 6 do throwError "at_store: not written out"
  let op := o.getArg! 1
  unless op.isAppOf ``Go.Op.store do throwError "at_store: another operation"
  unless (← isDefEq (op.getArg! 0) (mkNatLit n.getNat)) do throwError "at_store: another type"

/-- A whole row into the block that was made last. -/
theorem wpList_store_new {P : Program} {ops : Array Oper} {rest : List Oper} {op : Oper} {a : Act} {W : World} {Q : Exit → Act → World → Prop} (hgd : op.guard = none) (ty : TypeId) (x y : Operand) (ho : op.op = .store ty x y)
    (w : World) (c cells : Array Value) (s : Nat) (hs : s = w.heap.size) (hW : W = w.alloc (.cells c ty)) (hx : a.eval x = .pointer (some ⟨s, 0, none⟩)) (hy : a.eval y = .agg cells)
    (hi : (P.info? ty).map (·.size) = some cells.size) (hc : c.size = cells.size) (h1 : cells.all (·.oneCell') = true)
    (h : wpList P ops Q rest (a.put op.dst undef) (w.alloc (.cells cells ty))) : wpList P ops Q (op :: rest) a W := by
  subst hs hW
  refine wpList_plain hgd fun K hK => ?_
  unfold Oper.wp execOp
  simp only [ho, hx, hy, Sem.run_bind, run_storeAt_new (P := P) w ty c cells hi hc h1, Result.andThen_ok]
  exact hK _ _ h

/-- The functions of a kind. -/
def addF (k : Nat) : FuncId := if k = 1 then 38 else if k = 2 then 40 else 42
def sumF (k : Nat) : FuncId := if k = 1 then 39 else if k = 2 then 41 else 43
def ruleV (k : Nat) : Value := .agg #[.int .i64 ((bitsS k : Nat) : Int), .int .i64 (((beg k).1 : Nat) : Int), .int .i64 (((beg k).2 : Nat) : Int), .int .i64 0, .func (.func (addF k)) #[] #[], .func (.func (sumF k)) #[] #[]]

set_option maxRecDepth 100000 in
set_option maxHeartbeats 3200000 in
theorem ruleOf_1 (w : World) : Calls Try.prog 27 #[.int .i64 1] w fun e w' => e = .returned (ruleV 1) ∧ Below w.heap.size w w' := by
  go_enter Try.func27, Try.ntmps27
  go_wp2_with (at_store 71; refine wpList_store_new rfl 71 _ _ rfl _ _ _ _ (by simp) rfl rfl rfl (by kernel_rfl) rfl rfl ?_)
  exact bodyPost_ret (v := ruleV 1) (by simp [results, Try.results27, go_sem]; rfl) rfl ⟨rfl, below_two _ _ _⟩

set_option maxRecDepth 100000 in
set_option maxHeartbeats 3200000 in
theorem ruleOf_2 (w : World) : Calls Try.prog 27 #[.int .i64 2] w fun e w' => e = .returned (ruleV 2) ∧ Below w.heap.size w w' := by
  go_enter Try.func27, Try.ntmps27
  go_wp2_with (at_store 71; refine wpList_store_new rfl 71 _ _ rfl _ _ _ _ (by simp) rfl rfl rfl (by kernel_rfl) rfl rfl ?_)
  exact bodyPost_ret (v := ruleV 2) (by simp [results, Try.results27, go_sem]; rfl) rfl ⟨rfl, below_two _ _ _⟩

set_option maxRecDepth 100000 in
set_option maxHeartbeats 3200000 in
theorem ruleOf_3 (w : World) : Calls Try.prog 27 #[.int .i64 3] w fun e w' => e = .returned (ruleV 3) ∧ Below w.heap.size w w' := by
  go_enter Try.func27, Try.ntmps27
  go_wp2_with (at_store 71; refine wpList_store_new rfl 71 _ _ rfl _ _ _ _ (by simp) rfl rfl rfl (by kernel_rfl) rfl rfl ?_)
  exact bodyPost_ret (v := ruleV 3) (by simp [results, Try.results27, go_sem]; rfl) rfl ⟨rfl, below_two _ _ _⟩

theorem ruleOf_any (k : Nat) (hk : 1 ≤ k ∧ k ≤ 3) (w : World) : Calls Try.prog 27 #[.int .i64 ((k : Nat) : Int)] w fun e w' => e = .returned (ruleV k) ∧ Below w.heap.size w w' := by
  obtain rfl | rfl | rfl : k = 1 ∨ k = 2 ∨ k = 3 := by omega
  · exact ruleOf_1 w
  · exact ruleOf_2 w
  · exact ruleOf_3 w
end Go.Proofs.Ytpnhiaibidecnaa
