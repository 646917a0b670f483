/- Forms hands back the iterator; no forms of what is no integer. No conditions. -/
import Derived.Test.YtfkaghfbngicmaaQj
namespace Go.Proofs.Ytfkaghfbngicmaa
open Go.RowKit Go.Shelf
attribute [local go_sem] Oper.semAt_some

theorem Try.entForms : ∀ args w, (callFunc 31 args).run Try.prog w = .ok (.enter 31 args) w := enters_of Try.func31 (by kernel_rfl) rfl

theorem boxInt_new (w : World) (v : Int) : Below w.heap.size w (w.alloc (.cells #[.int .i64 v] 3)) ∧ (w.alloc (.cells #[.int .i64 v] 3)).cell? ⟨w.heap.size, 0, none⟩ = some (.int .i64 v) :=
  ⟨(Below.refl _ _).alloc (Nat.le_refl _) _, by rw [World.cell?_alloc_new]; rfl⟩

set_option maxRecDepth 100000 in
set_option maxHeartbeats 800000 in
theorem Forms_any (v : Int) (w : World) : Calls Try.prog 16 #[.int .i64 v] w fun e w' => e = .returned (.func (.func 31) #[] #[.pointer (some ⟨w.heap.size, 0, none⟩)]) ∧ w.alloc (.cells #[.int .i64 v] 3) = w' := by
  go_enter Try.func16, Try.ntmps16
  go_wp2
  go_ret
  exact ⟨rfl, rfl⟩

set_option maxRecDepth 100000 in
set_option maxHeartbeats 800000 in
theorem forms_none (n : Nat) (hn : 1 ≤ n) (l vb : Nat) (v : Int) (hv : okV v = false) (W0 : World) (hc : W0.cell? ⟨vb, 0, none⟩ = some (.int .i64 v)) :
    CallsIn Fence.wide n Try.prog 31 #[.func (.yield l) #[] #[], .pointer (some ⟨vb, 0, none⟩)] W0 fun e W' => (∃ v, e = .returned v) ∧ W' = W0 := by
  have HI := fun w => Lib.hid (isInt_at v false hv w)
  clear hv
  refine callsIn_of_wp Try.func31 rfl trivial ?_ rfl
  simp only [Try.ntmps31, List.size_toArray, List.length_cons, List.length_nil, Nat.reduceAdd, Nat.reduceSub, Array.replicate_succ, Array.replicate_zero, List.push_toArray, List.append_toArray, List.nil_append, List.cons_append]
  gi_wp2_with fail
  refine ⟨trivial, ?_⟩
  refine (callsIn_wide.2 (HI _).out).mono ?_
  rintro e w' ⟨rfl, rfl⟩
  gi_wp2
  refine bodyPost_ret (results_none rfl _ _ _) rfl ?_
  exact ⟨⟨_, rfl⟩, rfl⟩

/-- The length of the normal form. -/
def len1 (v : Nat) : Nat := if v < 128 ^ 1 then 1 else if v < 128 ^ 2 then 2 else if v < 128 ^ 3 then 3 else if v < 128 ^ 4 then 4 else 5
theorem len1_is {v k : Nat} (h1 : 1 ≤ k) (h5 : k ≤ 5) (h : v < 128 ^ k) (hn : ∀ j, 1 ≤ j → j < k → ¬ v < 128 ^ j) : len1 v = k := by
  unfold len1
  obtain rfl | rfl | rfl | rfl | rfl : k = 1 ∨ k = 2 ∨ k = 3 ∨ k = 4 ∨ k = 5 := by omega
  · rw [if_pos h]
  · rw [if_neg (hn 1 (by omega) (by omega)), if_pos h]
  · rw [if_neg (hn 1 (by omega) (by omega)), if_neg (hn 2 (by omega) (by omega)), if_pos h]
  · rw [if_neg (hn 1 (by omega) (by omega)), if_neg (hn 2 (by omega) (by omega)), if_neg (hn 3 (by omega) (by omega)), if_pos h]
  · rw [if_neg (hn 1 (by omega) (by omega)), if_neg (hn 2 (by omega) (by omega)), if_neg (hn 3 (by omega) (by omega)), if_neg (hn 4 (by omega) (by omega))]
theorem len1_le (v : Nat) : 1 ≤ len1 v ∧ len1 v ≤ 5 := by
  unfold len1
  repeat (first | split | omega)

/-- What Len answers. -/
def lenC (v : Int) : Int × Int := if okV v then (((len1 v.toNat : Nat) : Int), 0) else (0, 3)
end Go.Proofs.Ytfkaghfbngicmaa
