/- The law's message and definitions of two fields: what Check and Valid answer. Conditions: their blocks lie in memory. -/
import Derived.Test.YteibnmnpebfefaaJm
namespace Go.Proofs.Yteibnmnpebfefaa
open Go.RowKit Go.Shelf

/-- What the two fields answer. -/
def frT (r0 r1 : Option Int) (i : Nat) (_ : FieldD) : Option Int := if i = 0 then r0 else r1

set_option maxHeartbeats 800000 in
theorem msg_two (hi bi ba : Int) (fnm nm : List UInt8) (tb : Nat) (SP : Bool) (r0 r1 : Option Int) (x kr kk n0 c0 c : Nat) (m : Int) (A0 A : Option Addr) (S : Nat → Prop) (w : World)
    (hx : ExAt w x m (-1) kr A0 n0 c0 kk) (hm : MapAt w kr (natE [])) (hk : MapI w kk (condE (.pointer (some ⟨x, 0, none⟩)))) (hxk : x ≠ kr) (hkx : kk ≠ x)
    (h : SlAt FieldD.cells 15 S w A c [dN hi, dB tb fnm bi ba]) (hSx : S x) (hSk : S kr) (ht : SlAt TermD.cells 2 S w (some ⟨tb, 0, none⟩) 1 [⟨[110], 1⟩])
    (hv : validS ba [⟨[110], 1⟩] = true) (ha : r0 = none → allowP (0, hi) = true) (hsp : ∀ w, (binOp .neq 128 (outC4 (dB tb fnm bi ba)) (outZ4 (dB tb fnm bi ba))).run Try.prog w = .ok (.bool SP) w)
    (h0 : fieldR [] (dN hi) false (unsR (dN hi)) = r0) (h1 : fieldR [dN hi] (dB tb fnm bi ba) SP (sizeR (ransP [dN hi]) (dB tb fnm bi ba)) = r1) :
    Calls Try.prog 95 #[.pointer (some ⟨x, 0, none⟩), .agg #[.string (strL nm), .slice A 2 c]] w fun e w' => e = doM (msgR [] (frT r0 r1) nm [dN hi, dB tb fnm bi ba]) m ∧ Rest (fun k => k = x ∨ k = kr) w w' ∧ (msgR [] (frT r0 r1) nm [dN hi, dB tb fnm bi ba] = none → MapAt w' kr (natE (setN [] nm (natS [] [dN hi, dB tb fnm bi ba]))) ∧ ∃ A' n' c', ExAt w' x m (-1) kr A' n' c' kk) := by
  refine message_any x kr kk n0 c0 m 0 A0 nm A c [dN hi, dB tb fnm bi ba] S [] (frT r0 r1) w hx hm hxk h hSx hSk (fun s => by simp [getN]) (fun _ _ => by show (0 : Nat) ≤ 4000000000; omega) (fun i d wx hd hp hr hex => ?_) (fun _ d hd wx _ => ?_)
  · have hkx' := hk.rest hr hkx
    have hS := h.rest hr (fun k _ e => by rw [e]; exact hSx)
    match i, hd, hp, hex with
    | 0, hd, hp, hex =>
      simp only [List.getElem?_cons_zero, Option.some.injEq] at hd
      subst hd
      have := fieldN hi x kr kk c m ((0 : Nat) : Int) A S wx hex (hS.take 0 c (Nat.zero_le _) hS.2.1) hkx'
      rw [h0] at this
      exact this
    | 1, hd, hp, hex =>
      simp only [List.getElem?_cons_succ, List.getElem?_cons_zero, Option.some.injEq] at hd
      subst hd
      have hr0 : r0 = none := by
        simp only [List.take_succ_cons, List.take_zero, fieldsR, frT, if_true] at hp
        cases r0 with
        | none => rfl
        | some c => cases hp
      have := fieldB hi bi ba fnm tb SP x kr kk c m ((1 : Nat) : Int) A S wx hex (hS.take 1 c (by have := hS.1; simp only [List.length_cons, List.length_nil] at this; omega) hS.2.1) hkx' (ht.rest hr (fun k _ e => by rw [e]; exact hSx)) hv (ha hr0) hsp
      rw [h1] at this
      exact this
    | i + 2, hd, _, _ => simp at hd
  · have h9 : d.kind ≠ 9 := by
      simp only [List.mem_cons, List.not_mem_nil, or_false] at hd
      rcases hd with rfl | rfl <;> simp [dN, dB]
    exact targets_any d wx h9

/-- The first flaw of a definition of one message of two fields. -/
def twoR (r0 r1 : Option Int) (st : List UInt8) (D : List FieldD) (A : Option Addr) (c : Nat) : Option (Int × Int × Int) := defR (fun _ _ mm => msgR [] (frT r0 r1) mm.name mm.fields) [100] [⟨[109], A, c, D⟩] st

set_option maxHeartbeats 800000 in
theorem examine_two (hi bi ba : Int) (fnm st : List UInt8) (tb fb mb : Nat) (SP : Bool) (r0 r1 : Option Int) (w : World)
    (hms : SlAt MsgD.cells 2 (fun k => w.heap.size ≤ k) w (some ⟨mb, 0, none⟩) 1 [⟨[109], some ⟨fb, 0, none⟩, 2, [dN hi, dB tb fnm bi ba]⟩])
    (h : SlAt FieldD.cells 15 (fun k => w.heap.size ≤ k) w (some ⟨fb, 0, none⟩) 2 [dN hi, dB tb fnm bi ba]) (ht : SlAt TermD.cells 2 (fun k => w.heap.size ≤ k) w (some ⟨tb, 0, none⟩) 1 [⟨[110], 1⟩])
    (hv : validS ba [⟨[110], 1⟩] = true) (ha : r0 = none → allowP (0, hi) = true) (hsp : ∀ w, (binOp .neq 128 (outC4 (dB tb fnm bi ba)) (outZ4 (dB tb fnm bi ba))).run Try.prog w = .ok (.bool SP) w)
    (h0 : fieldR [] (dN hi) false (unsR (dN hi)) = r0) (h1 : fieldR [dN hi] (dB tb fnm bi ba) SP (sizeR (ransP [dN hi]) (dB tb fnm bi ba)) = r1) :
    Calls Try.prog 59 #[.agg #[.string (strL [100]), .slice (some ⟨mb, 0, none⟩) 1 1, .string (strL st)]] w (ExPost (twoR r0 r1 st [dN hi, dB tb fnm bi ba] (some ⟨fb, 0, none⟩) 2) (defE [⟨[109], some ⟨fb, 0, none⟩, 2, [dN hi, dB tb fnm bi ba]⟩]) w) := by
  refine examine_any [100] st (some ⟨mb, 0, none⟩) 1 [⟨[109], some ⟨fb, 0, none⟩, 2, [dN hi, dB tb fnm bi ba]⟩] _ (fun _ _ mm => msgR [] (frT r0 r1) mm.name mm.fields) w hms (fun x kr kk hx hkr hxk i mm wx hd _ _ hb hex hm hki hkx hkk => ?_)
  match i, hd, hex, hm with
  | 0, hd, hex, hm =>
    simp only [List.getElem?_cons_zero, Option.some.injEq] at hd
    subst hd
    obtain ⟨A', n', c', hex⟩ := hex
    exact msg_two hi bi ba fnm [109] tb SP r0 r1 x kr kk n' c' 2 _ A' (some ⟨fb, 0, none⟩) (fun k => w.heap.size ≤ k) wx hex hm hki hxk hkx (h.below hb) hx hkr (ht.below hb) hv ha hsp h0 h1
  | i + 1, hd, _, _ => simp at hd
end Go.Proofs.Yteibnmnpebfefaa
