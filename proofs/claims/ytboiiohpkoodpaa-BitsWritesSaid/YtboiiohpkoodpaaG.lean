/- firstError at a list of one to four conditions that the caller has just made. Conditions: each condition answers as said, as long as no earlier one applies. -/
import Derived.Test.YtboiiohpkoodpaaC
import Derived.Test.YtboiiohpkoodpaaE
import Derived.Test.YtboiiohpkoodpaaF
namespace Go.Proofs.Ytboiiohpkoodpaa
open Go.RowKit Go.Shelf

/-- A condition answers in every world in which all that lay in W lies as it lay; it turns nothing. -/
def CndGood (W : World) (c : Cnd) : Prop :=
  (∀ args w, (callFunc c.fn args).run Try.prog w = .ok (.enter c.fn args) w) ∧
    ∀ W', Below W.heap.size W W' → Calls Try.prog c.fn (c.bs ++ c.lb) W' fun e W'' => e = .returned (.bool c.ans) ∧ Below W'.heap.size W' W''

theorem CndGood.of {W : World} {c : Cnd} {args : Array Value} (e : c.bs ++ c.lb = args) (h1 : ∀ args w, (callFunc c.fn args).run Try.prog w = .ok (.enter c.fn args) w)
    (h2 : ∀ W', Below W.heap.size W W' → Calls Try.prog c.fn args W' fun e W'' => e = .returned (.bool c.ans) ∧ Below W'.heap.size W' W'') : CndGood W c := ⟨h1, by rw [e]; exact h2⟩
theorem CndGood.of_same {W : World} {c : Cnd} {args : Array Value} (e : c.bs ++ c.lb = args) (h1 : ∀ args w, (callFunc c.fn args).run Try.prog w = .ok (.enter c.fn args) w)
    (h2 : ∀ W', Below W.heap.size W W' → Calls Try.prog c.fn args W' fun e W'' => e = .returned (.bool c.ans) ∧ W' = W'') : CndGood W c :=
  .of e h1 fun W' hW' => (h2 W' hW').mono fun _ _ ⟨he, hw⟩ => ⟨he, hw ▸ Below.refl _ _⟩

theorem CndGood.ok {W : World} {c : Cnd} (h : CndGood W c) (o : Obj) : CndOk (W.alloc o) c :=
  ⟨h.1, fun W' hW' => (h.2 W' (((Below.refl _ W).alloc (Nat.le_refl _) o).trans (hW'.mono (by simp)))).mono fun _ _ ⟨he, hb⟩ => ⟨he, hW'.trans (hb.mono hW'.size)⟩⟩

theorem newBelow {W w' : World} {o : Obj} (h : Below (W.alloc o).heap.size (W.alloc o) w') : Below W.heap.size W w' :=
  ((Below.refl _ W).alloc (Nat.le_refl _) o).trans (h.mono (by simp))

theorem cell_new_at (W : World) (cs : Array Value) (t : TypeId) (s j : Nat) (hs : W.heap.size = s) : (W.alloc (.cells cs t)).cell? ⟨s, j, none⟩ = cs[j]? := by
  subst hs
  have h := World.alloc_heap_new W (.cells cs t)
  exact cell_of_row (W.alloc (.cells cs t)) W.heap.size j cs t (0, 0) h

theorem firstError1 (c1 : Cnd) (W : World) (s : Nat) (hs : W.heap.size = s) (h1 : CndGood W c1) :
    Calls Try.prog 43 #[.slice (some ⟨s, 0, none⟩) 1 1] (W.alloc (.cells #[.int .i64 c1.code, .func (.func c1.fn) c1.bs c1.lb] 77)) fun e w' => e = .returned (.int .i64 (firstCode [c1])) ∧ Below W.heap.size W w' := by
  refine (firstError_any [c1] s _ (by simp; omega) ?_ ?_ (by simp)).mono fun e w' ⟨he, hb⟩ => ⟨he, newBelow hb⟩
  · intro k hk
    rw [cell_new_at _ _ _ _ _ hs, cell_new_at _ _ _ _ _ hs]
    obtain rfl : k = 0 := by simpa using hk
    exact ⟨rfl, rfl⟩
  · intro k hk _
    obtain rfl : k = 0 := by simpa using hk
    exact h1.ok _

theorem firstError3 (c1 c2 c3 : Cnd) (W : World) (s : Nat) (hs : W.heap.size = s) (h1 : CndGood W c1) (h2 : c1.ans = false → CndGood W c2) (h3 : c1.ans = false → c2.ans = false → CndGood W c3) :
    Calls Try.prog 43 #[.slice (some ⟨s, 0, none⟩) 3 3] (W.alloc (.cells #[.int .i64 c1.code, .func (.func c1.fn) c1.bs c1.lb, .int .i64 c2.code, .func (.func c2.fn) c2.bs c2.lb, .int .i64 c3.code, .func (.func c3.fn) c3.bs c3.lb] 77)) fun e w' => e = .returned (.int .i64 (firstCode [c1, c2, c3])) ∧ Below W.heap.size W w' := by
  refine (firstError_any [c1, c2, c3] s _ (by simp; omega) ?_ ?_ (by simp)).mono fun e w' ⟨he, hb⟩ => ⟨he, newBelow hb⟩
  · intro k hk
    rw [cell_new_at _ _ _ _ _ hs, cell_new_at _ _ _ _ _ hs]
    have : k = 0 ∨ k = 1 ∨ k = 2 := by simp at hk; omega
    rcases this with rfl | rfl | rfl <;> exact ⟨rfl, rfl⟩
  · intro k hk hf
    have : k = 0 ∨ k = 1 ∨ k = 2 := by simp at hk; omega
    rcases this with rfl | rfl | rfl
    · exact h1.ok _
    · exact (h2 (hf 0 (by decide))).ok _
    · exact (h3 (hf 0 (by decide)) (hf 1 (by decide))).ok _

theorem firstError4 (c1 c2 c3 c4 : Cnd) (W : World) (s : Nat) (hs : W.heap.size = s) (h1 : CndGood W c1) (h2 : c1.ans = false → CndGood W c2) (h3 : c1.ans = false → c2.ans = false → CndGood W c3) (h4 : c1.ans = false → c2.ans = false → c3.ans = false → CndGood W c4) :
    Calls Try.prog 43 #[.slice (some ⟨s, 0, none⟩) 4 4] (W.alloc (.cells #[.int .i64 c1.code, .func (.func c1.fn) c1.bs c1.lb, .int .i64 c2.code, .func (.func c2.fn) c2.bs c2.lb, .int .i64 c3.code, .func (.func c3.fn) c3.bs c3.lb, .int .i64 c4.code, .func (.func c4.fn) c4.bs c4.lb] 77)) fun e w' => e = .returned (.int .i64 (firstCode [c1, c2, c3, c4])) ∧ Below W.heap.size W w' := by
  refine (firstError_any [c1, c2, c3, c4] s _ (by simp; omega) ?_ ?_ (by simp)).mono fun e w' ⟨he, hb⟩ => ⟨he, newBelow hb⟩
  · intro k hk
    rw [cell_new_at _ _ _ _ _ hs, cell_new_at _ _ _ _ _ hs]
    have : k = 0 ∨ k = 1 ∨ k = 2 ∨ k = 3 := by simp at hk; omega
    rcases this with rfl | rfl | rfl | rfl <;> exact ⟨rfl, rfl⟩
  · intro k hk hf
    have : k = 0 ∨ k = 1 ∨ k = 2 ∨ k = 3 := by simp at hk; omega
    rcases this with rfl | rfl | rfl | rfl
    · exact h1.ok _
    · exact (h2 (hf 0 (by decide))).ok _
    · exact (h3 (hf 0 (by decide)) (hf 1 (by decide))).ok _
    · exact (h4 (hf 0 (by decide)) (hf 1 (by decide)) (hf 2 (by decide))).ok _


theorem Try.ent34 : ∀ args w, (callFunc 34 args).run Try.prog w = .ok (.enter 34 args) w := enters_of Try.func34 (by kernel_rfl) rfl
theorem Try.ent44 : ∀ args w, (callFunc 44 args).run Try.prog w = .ok (.enter 44 args) w := enters_of Try.func44 (by kernel_rfl) rfl
theorem Try.ent47 : ∀ args w, (callFunc 47 args).run Try.prog w = .ok (.enter 47 args) w := enters_of Try.func47 (by kernel_rfl) rfl
theorem Try.ent51 : ∀ args w, (callFunc 51 args).run Try.prog w = .ok (.enter 51 args) w := enters_of Try.func51 (by kernel_rfl) rfl
theorem Try.ent53 : ∀ args w, (callFunc 53 args).run Try.prog w = .ok (.enter 53 args) w := enters_of Try.func53 (by kernel_rfl) rfl
theorem Try.ent59 : ∀ args w, (callFunc 59 args).run Try.prog w = .ok (.enter 59 args) w := enters_of Try.func59 (by kernel_rfl) rfl
theorem Try.ent60 : ∀ args w, (callFunc 60 args).run Try.prog w = .ok (.enter 60 args) w := enters_of Try.func60 (by kernel_rfl) rfl
theorem Try.ent61 : ∀ args w, (callFunc 61 args).run Try.prog w = .ok (.enter 61 args) w := enters_of Try.func61 (by kernel_rfl) rfl
theorem Try.ent62 : ∀ args w, (callFunc 62 args).run Try.prog w = .ok (.enter 62 args) w := enters_of Try.func62 (by kernel_rfl) rfl
theorem Try.ent63 : ∀ args w, (callFunc 63 args).run Try.prog w = .ok (.enter 63 args) w := enters_of Try.func63 (by kernel_rfl) rfl
theorem Try.ent64 : ∀ args w, (callFunc 64 args).run Try.prog w = .ok (.enter 64 args) w := enters_of Try.func64 (by kernel_rfl) rfl
theorem Try.ent66 : ∀ args w, (callFunc 66 args).run Try.prog w = .ok (.enter 66 args) w := enters_of Try.func66 (by kernel_rfl) rfl
theorem Try.ent67 : ∀ args w, (callFunc 67 args).run Try.prog w = .ok (.enter 67 args) w := enters_of Try.func67 (by kernel_rfl) rfl
theorem Try.ent69 : ∀ args w, (callFunc 69 args).run Try.prog w = .ok (.enter 69 args) w := enters_of Try.func69 (by kernel_rfl) rfl
theorem Try.ent71 : ∀ args w, (callFunc 71 args).run Try.prog w = .ok (.enter 71 args) w := enters_of Try.func71 (by kernel_rfl) rfl
theorem Try.ent72 : ∀ args w, (callFunc 72 args).run Try.prog w = .ok (.enter 72 args) w := enters_of Try.func72 (by kernel_rfl) rfl
theorem Try.ent73 : ∀ args w, (callFunc 73 args).run Try.prog w = .ok (.enter 73 args) w := enters_of Try.func73 (by kernel_rfl) rfl
theorem Try.ent74 : ∀ args w, (callFunc 74 args).run Try.prog w = .ok (.enter 74 args) w := enters_of Try.func74 (by kernel_rfl) rfl
theorem Try.ent75 : ∀ args w, (callFunc 75 args).run Try.prog w = .ok (.enter 75 args) w := enters_of Try.func75 (by kernel_rfl) rfl
theorem Try.ent77 : ∀ args w, (callFunc 77 args).run Try.prog w = .ok (.enter 77 args) w := enters_of Try.func77 (by kernel_rfl) rfl
theorem Try.ent79 : ∀ args w, (callFunc 79 args).run Try.prog w = .ok (.enter 79 args) w := enters_of Try.func79 (by kernel_rfl) rfl
theorem Try.ent80 : ∀ args w, (callFunc 80 args).run Try.prog w = .ok (.enter 80 args) w := enters_of Try.func80 (by kernel_rfl) rfl
theorem Try.ent81 : ∀ args w, (callFunc 81 args).run Try.prog w = .ok (.enter 81 args) w := enters_of Try.func81 (by kernel_rfl) rfl
theorem Try.ent83 : ∀ args w, (callFunc 83 args).run Try.prog w = .ok (.enter 83 args) w := enters_of Try.func83 (by kernel_rfl) rfl
theorem Try.ent84 : ∀ args w, (callFunc 84 args).run Try.prog w = .ok (.enter 84 args) w := enters_of Try.func84 (by kernel_rfl) rfl
theorem Try.ent85 : ∀ args w, (callFunc 85 args).run Try.prog w = .ok (.enter 85 args) w := enters_of Try.func85 (by kernel_rfl) rfl
theorem Try.ent86 : ∀ args w, (callFunc 86 args).run Try.prog w = .ok (.enter 86 args) w := enters_of Try.func86 (by kernel_rfl) rfl
theorem Try.ent90 : ∀ args w, (callFunc 90 args).run Try.prog w = .ok (.enter 90 args) w := enters_of Try.func90 (by kernel_rfl) rfl

/-- The condition 'no writer': a writer is one. -/
theorem good34 {W : World} {b : Nat} (h : b < W.heap.size) (hc : W.cell? ⟨b, 0, none⟩ = some (.bool true)) : CndGood W ⟨1, 34, #[.pointer (some ⟨b, 0, none⟩)], #[], false⟩ :=
  .of_same (by simp) Try.ent34 fun W' hW' => none_no b W' ((hW'.cell (p := ⟨b, 0, none⟩) h).trans hc)
theorem good34z {W : World} {b : Nat} (h : b < W.heap.size) (hc : W.cell? ⟨b, 0, none⟩ = some (.bool false)) : CndGood W ⟨1, 34, #[.pointer (some ⟨b, 0, none⟩)], #[], true⟩ :=
  .of_same (by simp) Try.ent34 fun W' hW' => none_zero b W' ((hW'.cell (p := ⟨b, 0, none⟩) h).trans hc)
theorem good34n {W : World} : CndGood W ⟨1, 34, #[.pointer none], #[], true⟩ :=
  .of_same (by simp) Try.ent34 fun W' _ => none_nil W'
theorem good44 {W : World} {B1 B2 : Nat} {v n : Int} (l1 : B1 < W.heap.size) (l2 : B2 < W.heap.size) (hn : W.cell? ⟨B1, 0, none⟩ = some (.int .i64 n)) (hv : W.cell? ⟨B2, 0, none⟩ = some (.int .i64 v)) :
    CndGood W ⟨2, 44, #[], #[.pointer (some ⟨B1, 0, none⟩), .pointer (some ⟨B2, 0, none⟩)], !(withinB n 1 32 && fitsB v n)⟩ :=
  .of_same (by simp) Try.ent44 fun W' hW' => put1_any B1 B2 v n W' ((hW'.cell (p := ⟨B1, 0, none⟩) l1).trans hn) ((hW'.cell (p := ⟨B2, 0, none⟩) l2).trans hv)
theorem good47 {W : World} {B1 B2 b : Nat} {n k : Int} (l1 : B1 < W.heap.size) (l2 : B2 < W.heap.size) (lb : b < W.heap.size) (hn : W.cell? ⟨B1, 0, none⟩ = some (.int .i64 n)) (hw : W.cell? ⟨B2, 0, none⟩ = some (.pointer (some ⟨b, 0, none⟩))) (h0 : 0 ≤ k) (h1 : k ≤ 8388608) (hc : W.cell? ⟨b, 2, none⟩ = some (.int .i64 k)) :
    CndGood W ⟨7, 47, #[], #[.pointer (some ⟨B1, 0, none⟩), .pointer (some ⟨B2, 0, none⟩)], decide (8388608 - k < n)⟩ :=
  .of (by simp) Try.ent47 fun W' hW' => put2_any B1 B2 b n k W' ((hW'.cell (p := ⟨B1, 0, none⟩) l1).trans hn) ((hW'.cell (p := ⟨B2, 0, none⟩) l2).trans hw) h0 h1 ((hW'.cell (p := ⟨b, 2, none⟩) lb).trans hc)
end Go.Proofs.Ytboiiohpkoodpaa
