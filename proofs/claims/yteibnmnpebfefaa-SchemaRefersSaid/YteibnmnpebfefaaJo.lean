/- The law's definitions out of their blocks: Valid, Check and natures. Conditions: the blocks lie in memory. -/
import Derived.Test.YteibnmnpebfefaaJn
namespace Go.Proofs.Yteibnmnpebfefaa
open Go.RowKit Go.Shelf

/-- The blocks of a definition of two fields. -/
structure VarAt (W : World) (tb fb mb : Nat) (hi bi ba : Int) (fnm : List UInt8) : Prop where
  tm : W.heap[tb]? = some (.cells #[.string ⟨#[110]⟩, .int .i64 1] 76 (0, 0))
  fd : W.heap[fb]? = some (.cells ((dN hi).cells ++ (dB tb fnm bi ba).cells).toArray 28 (0, 0))
  ms : W.heap[mb]? = some (.cells #[.string ⟨#[109]⟩, .slice (some ⟨fb, 0, none⟩) 2 2] 50 (0, 0))
theorem TwoAt.var {W : World} {tb fb mb : Nat} (h : TwoAt W tb fb mb) : VarAt W tb fb mb 255 0 0 [98] := ⟨h.tm, h.fd, h.ms⟩
theorem VarAt.below {W W' : World} {tb fb mb : Nat} {hi bi ba : Int} {fnm : List UInt8} (h : VarAt W tb fb mb hi bi ba fnm) (hb : Below W.heap.size W W') : VarAt W' tb fb mb hi bi ba fnm :=
  ⟨(hb.block tb (Array.getElem?_eq_some_iff.1 h.tm).1).trans h.tm, (hb.block fb (Array.getElem?_eq_some_iff.1 h.fd).1).trans h.fd, (hb.block mb (Array.getElem?_eq_some_iff.1 h.ms).1).trans h.ms⟩

theorem slAt_two {W : World} {tb fb : Nat} {hi bi ba : Int} {fnm : List UInt8} (S : Nat → Prop) (hS : ¬ S fb) (h : W.heap[fb]? = some (.cells ((dN hi).cells ++ (dB tb fnm bi ba).cells).toArray 28 (0, 0))) :
    SlAt FieldD.cells 15 S W (some ⟨fb, 0, none⟩) 2 [dN hi, dB tb fnm bi ba] := by
  refine ⟨Nat.le_refl _, by omega, fun i d hd => ⟨fb, 0, rfl, hS, fun j u hu => ?_⟩⟩
  rw [cell_of_row W fb (0 + i * 15 + j) _ _ (0, 0) h]
  match i, hd with
  | 0, hd =>
    simp only [List.getElem?_cons_zero, Option.some.injEq] at hd
    subst hd
    have hj := (List.getElem?_eq_some_iff.1 hu).1
    rw [List.getElem?_toArray, show 0 + 0 * 15 + j = j by omega, List.getElem?_append_left hj]
    exact hu
  | 1, hd =>
    simp only [List.getElem?_cons_succ, List.getElem?_cons_zero, Option.some.injEq] at hd
    subst hd
    rw [List.getElem?_toArray, show 0 + 1 * 15 + j = (dN hi).cells.length + j by show _ = 15 + j; omega, List.getElem?_append_right (by omega), Nat.add_sub_cancel_left]
    exact hu
  | i + 2, hd => simp at hd
theorem slAt_msg {W : World} {fb mb : Nat} {D : List FieldD} (hD : D.length = 2) (S : Nat → Prop) (hS : ¬ S mb) (h : W.heap[mb]? = some (.cells #[.string ⟨#[109]⟩, .slice (some ⟨fb, 0, none⟩) 2 2] 50 (0, 0))) :
    SlAt MsgD.cells 2 S W (some ⟨mb, 0, none⟩) 1 [⟨[109], some ⟨fb, 0, none⟩, 2, D⟩] := by
  refine ⟨Nat.le_refl _, by omega, fun i d hd => ⟨mb, 0, rfl, hS, fun j u hu => ?_⟩⟩
  rw [cell_of_row W mb (0 + i * 2 + j) _ _ (0, 0) h]
  match i, hd with
  | 0, hd =>
    simp only [List.getElem?_cons_zero, Option.some.injEq] at hd
    subst hd
    simp only [MsgD.cells, hD] at hu
    rw [show 0 + 0 * 2 + j = j by omega]
    simpa [strL] using hu
  | i + 1, hd => simp at hd

set_option maxHeartbeats 800000 in
theorem examine_var {hi bi ba : Int} {fnm : List UInt8} (st : List UInt8) {tb fb mb : Nat} {SP : Bool} {r0 r1 : Option Int} {w : World} (h : VarAt w tb fb mb hi bi ba fnm)
    (hv : validS ba [⟨[110], 1⟩] = true) (ha : r0 = none → allowP (0, hi) = true) (hsp : ∀ w, (binOp .neq 128 (outC4 (dB tb fnm bi ba)) (outZ4 (dB tb fnm bi ba))).run Try.prog w = .ok (.bool SP) w)
    (h0 : fieldR [] (dN hi) false (unsR (dN hi)) = r0) (h1 : fieldR [dN hi] (dB tb fnm bi ba) SP (sizeR (ransP [dN hi]) (dB tb fnm bi ba)) = r1) :
    Calls Try.prog 59 #[.agg #[.string (strL [100]), .slice (some ⟨mb, 0, none⟩) 1 1, .string (strL st)]] w (ExPost (twoR r0 r1 st [dN hi, dB tb fnm bi ba] (some ⟨fb, 0, none⟩) 2) (defE [⟨[109], some ⟨fb, 0, none⟩, 2, [dN hi, dB tb fnm bi ba]⟩]) w) := by
  have l1 := (Array.getElem?_eq_some_iff.1 h.tm).1
  have l2 := (Array.getElem?_eq_some_iff.1 h.fd).1
  have l3 := (Array.getElem?_eq_some_iff.1 h.ms).1
  exact examine_two hi bi ba fnm st tb fb mb SP r0 r1 w (slAt_msg rfl _ (by show ¬ w.heap.size ≤ mb; omega) h.ms) (slAt_two _ (by show ¬ w.heap.size ≤ fb; omega) h.fd) (slAt_term _ (by show ¬ w.heap.size ≤ tb; omega) h.tm) hv ha hsp h0 h1

theorem two_none (tb : Nat) (A : Option Addr) : twoR none none [109] [dN 255, dB tb [98] 0 0] A 2 = none := by rfl
/-- The law's definition is valid. -/
theorem valid_two {tb fb mb : Nat} {w : World} (h : VarAt w tb fb mb 255 0 0 [98]) : Calls Try.prog 35 #[.agg #[.string (strL [100]), .slice (some ⟨mb, 0, none⟩) 1 1, .string (strL [109])]] w fun e w' => e = .returned (.bool true) ∧ Below w.heap.size w w' :=
  valid_of [100] [109] (some ⟨mb, 0, none⟩) 1 1 none _ w (fun wx hb => by
    have := examine_var [109] (h.below hb) valid_ba0 (fun _ => allow_255) (spB_ok tb [98] 0) fieldN_ok (fieldB_ok tb)
    rwa [two_none] at this)
end Go.Proofs.Yteibnmnpebfefaa
