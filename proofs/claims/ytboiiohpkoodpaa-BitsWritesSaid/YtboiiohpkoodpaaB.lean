/- firstError returns the code of the first condition that applies, or 0, and changes nothing that was there. Conditions: the list of conditions lies in memory, and each of its functions answers as said as long as no earlier one applies. -/
import Derived.Test.YtboiiohpkoodpaaA
import Derived.Lib.Hide
namespace Go.Proofs.Ytboiiohpkoodpaa
open Go.RowKit

set_option maxHeartbeats 400000 in
theorem apply_any (c : Int) (g : Nat) (bs lb : Array Value) (ans : Bool) (R : World → Prop) (w : World) (eg : ∀ args w, (callFunc g args).run Try.prog w = .ok (.enter g args) w)
   (h : Calls Try.prog g (bs ++ lb) (w.alloc (.cells #[.int .i64 c, .func (.func g) bs lb] 77)) fun e w' => e = .returned (.bool ans) ∧ R w') :
    Calls Try.prog 89 #[.agg #[.int .i64 c, .func (.func g) bs lb]] w fun e w' => e = .returned (.bool ans) ∧ R w' := by
  go_enter Try.func89, Try.ntmps89
  go_wp2_with fail
  refine h.mono ?_
  rintro e w1 ⟨rfl, hb⟩
  go_wp2
  go_ret
  exact ⟨rfl, hb⟩

/-- A condition: its code, the function that it asks, what that has captured, and its answer. -/
structure Cnd where
  code : Int
  fn : Nat
  bs : Array Value
  lb : Array Value
  ans : Bool

/-- Where a list of conditions lies: two cells each. -/
def CndsAt (w : World) (g : Nat) (l : List Cnd) : Prop :=
  ∀ k (h : k < l.length), w.cell? ⟨g, k * 2, none⟩ = some (.int .i64 l[k].code) ∧ w.cell? ⟨g, k * 2 + 1, none⟩ = some (.func (.func l[k].fn) l[k].bs l[k].lb)

/-- One condition answers in every world in which all that was there lies as it lay. -/
def CndOk (w : World) (c : Cnd) : Prop :=
  (∀ args w, (callFunc c.fn args).run Try.prog w = .ok (.enter c.fn args) w) ∧
    ∀ W, Below w.heap.size w W → Calls Try.prog c.fn (c.bs ++ c.lb) W fun e W' => e = .returned (.bool c.ans) ∧ Below w.heap.size w W'

/-- Each condition answers, as long as no earlier one applies. -/
def CndsOk (w : World) (l : List Cnd) : Prop :=
  ∀ k (h : k < l.length), (∀ j (hj : j < k), l[j].ans = false) → CndOk w l[k]

/-- What IndexFunc finds: the first condition that applies, or none. -/
def Found (l : List Cnd) (w : World) (e : Ending) (w' : World) : Prop :=
  Below w.heap.size w w' ∧ ((∃ k, ∃ h : k < l.length, (∀ j (hj : j < k), l[j].ans = false) ∧ l[k].ans = true ∧ e = .returned (.int .i64 k)) ∨ ((∀ j (hj : j < l.length), l[j].ans = false) ∧ e = .returned (.int .i64 (-1))))

set_option maxHeartbeats 800000 in
theorem index_any (l : List Cnd) (g : Nat) (w : World) (hg : g < w.heap.size) (hat : CndsAt w g l) (hok : CndsOk w l) (hl : l.length ≤ 9) :
    Calls Try.prog 88 #[.slice (some ⟨g, 0, none⟩) l.length l.length, .func (.func 89) #[] #[]] w (Found l w) := by
  have HO := Lib.hid hok
  have HA := Lib.hid hat
  clear hok hat
  go_enter Try.func88, Try.ntmps88
  go_wp2_with fail
  go_loopw [5, 8] (fun i j wr => ∃ k : Nat, k ≤ l.length ∧ j = .int .i64 k ∧ (∀ i (hi : i < l.length), i < k → l[i].ans = false) ∧ Below w.heap.size w wr) (fun _ j _ => l.length - (intOf j).toNat)
  case atStart => exact ⟨0, Nat.zero_le _, rfl, fun _ _ h => absurd h (Nat.not_lt_zero _), Below.refl _ _⟩
  case round =>
    obtain ⟨k, hk, rfl, hbef, hb⟩ := hrel
    by_cases hlt : k < l.length
    · have hcall := HO.out k hlt (fun j hj => hbef j (by omega) hj)
      have q0 := (hb.cell (p := ⟨g, k * 2, none⟩) hg).trans (HA.out k hlt).1
      have q1 := (hb.cell (p := ⟨g, k * 2 + 1, none⟩) hg).trans (HA.out k hlt).2
      obtain ⟨eg, hcall⟩ := hcall
      obtain ⟨c, hc⟩ : ∃ c, l[k] = c := ⟨_, rfl⟩
      have HB := Lib.hid hbef
      clear hbef
      rw [hc] at q0 q1 hcall eg
      have HC := Lib.hid hc
      clear hc
      have hap := apply_any c.code c.fn c.bs c.lb c.ans (Below w.heap.size w) wr eg (hcall _ (hb.alloc hb.size _))
      have HP := Lib.hid hap
      clear hap hcall eg
      obtain ⟨b, hbb⟩ : ∃ b, c.ans = b := ⟨_, rfl⟩
      cases b with
      | true =>
        rw [hbb] at HP
        have HBB := Lib.hid hbb
        clear hbb
        go_wp2_with fail
        refine HP.out.mono ?_
        rintro e w1 ⟨rfl, hb1⟩
        go_wp2
        go_ret
        refine ⟨hb1, Or.inl ⟨k, hlt, fun j hj => HB.out j (by omega) hj, ?_, rfl⟩⟩
        rw [HC.out]; exact HBB.out
      | false =>
        rw [hbb] at HP
        have HBB := Lib.hid hbb
        clear hbb
        go_wp2_with fail
        refine HP.out.mono ?_
        rintro e w1 ⟨rfl, hb1⟩
        go_wp2
        go_roundw
        case rel =>
          refine ⟨k + 1, by omega, by go_num, fun i hi hik => ?_, hb1⟩
          rcases Nat.lt_succ_iff_lt_or_eq.1 hik with h | h
          · exact HB.out i hi h
          · subst h; rw [HC.out]; exact HBB.out
        case measure => simp [intOf]; omega
    · obtain rfl : k = l.length := by omega
      have HB := Lib.hid hbef
      clear hbef
      go_wp2
      go_ret
      exact ⟨hb, Or.inr ⟨fun j hj => HB.out j hj hj, rfl⟩⟩

/-- The code of the first condition that applies, or 0. -/
def firstCode : List Cnd → Int
  | [] => 0
  | c :: r => if c.ans then c.code else firstCode r

theorem firstCode_at (l : List Cnd) (k : Nat) (h : k < l.length) (hb : ∀ j (hj : j < k), l[j].ans = false) (ha : l[k].ans = true) : firstCode l = l[k].code := by
  induction l generalizing k with
  | nil => simp at h
  | cons c r ih =>
    cases k with
    | zero => simp [firstCode]; intro hn; simp at ha; simp [ha] at hn
    | succ k =>
      have h0 := hb 0 (by omega)
      simp at h0
      simp only [firstCode, h0]
      simpa using ih k (by simpa using h) (fun j hj => by have := hb (j + 1) (by omega); simpa using this) (by simpa using ha)

theorem firstCode_none (l : List Cnd) (hb : ∀ j (hj : j < l.length), l[j].ans = false) : firstCode l = 0 := by
  induction l with
  | nil => rfl
  | cons c r ih =>
    have h0 := hb 0 (by simp)
    simp at h0
    simp only [firstCode, h0]
    simpa using ih (fun j hj => by have := hb (j + 1) (by simpa using hj); simpa using this)

set_option maxHeartbeats 800000 in
theorem firstError_any (l : List Cnd) (g : Nat) (w : World) (hg : g < w.heap.size) (hat : CndsAt w g l) (hok : CndsOk w l) (hl : l.length ≤ 9) :
    Calls Try.prog 43 #[.slice (some ⟨g, 0, none⟩) l.length l.length] w fun e w' => e = .returned (.int .i64 (firstCode l)) ∧ Below w.heap.size w w' := by
  have HI := Lib.hid (index_any l g w hg hat hok hl)
  have HA := Lib.hid hat
  clear hok hat
  go_enter Try.func43, Try.ntmps43
  go_wp2_with fail
  refine HI.out.mono ?_
  rintro e w1 ⟨hb, ⟨k, hk, hbef, hans, rfl⟩ | ⟨hall, rfl⟩⟩
  · have q0 := (hb.cell (p := ⟨g, k * 2, none⟩) hg).trans (HA.out k hk).1
    have HB := Lib.hid hbef
    have HN := Lib.hid hans
    clear hbef hans
    go_wp2
    go_ret
    exact ⟨ret_int (firstCode_at l k hk HB.out HN.out).symm, hb⟩
  · have HB := Lib.hid hall
    clear hall
    go_wp2
    go_ret
    exact ⟨ret_int (firstCode_none l HB.out).symm, hb⟩
end Go.Proofs.Ytboiiohpkoodpaa
