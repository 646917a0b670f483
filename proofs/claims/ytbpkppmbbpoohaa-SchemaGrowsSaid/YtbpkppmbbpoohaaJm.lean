/- The two fields of the law's definition in an examination. Conditions: the examination and what lies before lie in memory. The law's message and definitions of two fields: what Check and Valid answer. Conditions: their blocks lie in memory. The law's definitions out of their blocks: Valid, Check and natures. Conditions: the blocks lie in memory. -/
import Derived.Test.YtbpkppmbbpoohaaJf
import Derived.Test.YtbpkppmbbpoohaaJb
namespace Go.Proofs.Ytbpkppmbbpoohaa
open Go.RowKit Go.Shelf

def dN (hi : Int) : FieldD := { name := [110], kind := 1, bits := 8, little := false, loose := false, low := 0, high := hi, base := 0, ta := none, tc := 0, terms := [], of_ := [], tag := [], from_ := [], ca := none, cc := 0, cases := [], check := 0, key := 0 }
def dB (tb : Nat) (nm : List UInt8) (bi ba : Int) : FieldD := { name := nm, kind := 4, bits := bi, little := false, loose := false, low := 0, high := 0, base := ba, ta := some ⟨tb, 0, none⟩, tc := 1, terms := [⟨[110], 1⟩], of_ := [], tag := [], from_ := [], ca := none, cc := 0, cases := [], check := 0, key := 0 }
theorem Try.entUns : ∀ args w, (callFunc 81 args).run Try.prog w = .ok (.enter 81 args) w := enters_of Try.func81 (by kernel_rfl) rfl
theorem Try.entSize : ∀ args w, (callFunc 84 args).run Try.prog w = .ok (.enter 84 args) w := enters_of Try.func84 (by kernel_rfl) rfl

theorem fieldN (hi : Int) (x kr kk c : Nat) (m f : Int) (A : Option Addr) (S : Nat → Prop) (w : World) (hx : ExAt w x m f kr A 0 c kk) (hB : SlAt FieldD.cells 15 S w A c []) (hk : MapI w kk (condE (.pointer (some ⟨x, 0, none⟩)))) :
    Calls Try.prog 114 #[.pointer (some ⟨x, 0, none⟩), (dN hi).agg] w fun e w' => e = doE (fieldR [] (dN hi) false (unsR (dN hi))) m f ∧ Below w.heap.size w w' :=
  field_any x kr kk c m f A [] (dN hi) S w hx hB hk 81 Try.entUns rfl false (fun wx => spare_1 (dN hi) false wx rfl (fun w => by simp [outC1, outZ1, dN, go_sem, strL_toList])) (unsR (dN hi)) (fun wx hb => unsigned_any x kr kk 0 c m f A (dN hi) wx (hx.below hb hx.lt))

theorem slAt_term {W : World} {tb : Nat} (S : Nat → Prop) (hS : ¬ S tb) (h : W.heap[tb]? = some (.cells #[.string ⟨#[110]⟩, .int .i64 1] 76 (0, 0))) : SlAt TermD.cells 2 S W (some ⟨tb, 0, none⟩) 1 [⟨[110], 1⟩] := by
  refine ⟨Nat.le_refl _, by omega, fun i d hi => ?_⟩
  have h0 : i = 0 := by
    have := (List.getElem?_eq_some_iff.1 hi).1
    simp at this; omega
  subst h0
  simp only [List.getElem?_cons_zero, Option.some.injEq] at hi
  subst hi
  refine ⟨tb, 0, rfl, hS, fun j u hu => ?_⟩
  match j, hu with
  | 0, hu =>
    simp only [TermD.cells, List.getElem?_cons_zero, Option.some.injEq] at hu
    subst hu
    simp [World.cell?, h]
    rfl
  | 1, hu =>
    simp only [TermD.cells, List.getElem?_cons_succ, List.getElem?_cons_zero, Option.some.injEq] at hu
    subst hu
    simp [World.cell?, h]
  | j + 2, hu => simp [TermD.cells] at hu

theorem fieldB (hi bi ba : Int) (nm : List UInt8) (tb : Nat) (SP : Bool) (x kr kk c : Nat) (m f : Int) (A : Option Addr) (S : Nat → Prop) (w : World) (hx : ExAt w x m f kr A 1 c kk) (hB : SlAt FieldD.cells 15 S w A c [dN hi]) (hk : MapI w kk (condE (.pointer (some ⟨x, 0, none⟩))))
    (ht : SlAt TermD.cells 2 S w (some ⟨tb, 0, none⟩) 1 [⟨[110], 1⟩]) (hv : validS ba [⟨[110], 1⟩] = true) (ha : allowP (0, hi) = true) (hsp : ∀ w, (binOp .neq 128 (outC4 (dB tb nm bi ba)) (outZ4 (dB tb nm bi ba))).run Try.prog w = .ok (.bool SP) w) :
    Calls Try.prog 114 #[.pointer (some ⟨x, 0, none⟩), (dB tb nm bi ba).agg] w fun e w' => e = doE (fieldR [dN hi] (dB tb nm bi ba) SP (sizeR (ransP [dN hi]) (dB tb nm bi ba))) m f ∧ Below w.heap.size w w' :=
  field_any x kr kk c m f A [dN hi] (dB tb nm bi ba) S w hx hB hk 84 Try.entSize rfl SP (fun wx => spare_4 (dB tb nm bi ba) SP wx rfl hsp) (sizeR (ransP [dN hi]) (dB tb nm bi ba)) (fun wx hb => exSize_ok x kr kk c m f A [dN hi] (dB tb nm bi ba) S wx (hx.below hb hx.lt) (hB.below hb) (ht.below hb) hv (fun t h => by
    have h2 : t = ⟨[110], 1⟩ := by simpa [dB] using h
    subst h2
    exact ⟨(0, hi), rfl, ha⟩))

theorem spB_ok (tb : Nat) (nm : List UInt8) (ba : Int) (w : World) : (binOp .neq 128 (outC4 (dB tb nm 0 ba)) (outZ4 (dB tb nm 0 ba))).run Try.prog w = .ok (.bool false) w := by simp [outC4, outZ4, dB, go_sem, strL_toList]
theorem spB_bad (tb : Nat) (nm : List UInt8) (ba : Int) (w : World) : (binOp .neq 128 (outC4 (dB tb nm 8 ba)) (outZ4 (dB tb nm 8 ba))).run Try.prog w = .ok (.bool true) w := by simp [outC4, outZ4, dB, go_sem, strL_toList]
theorem fieldB_ok (tb : Nat) : fieldR [dN 255] (dB tb [98] 0 0) false (sizeR (ransP [dN 255]) (dB tb [98] 0 0)) = none := by rfl
theorem fieldB_base (tb : Nat) : fieldR [dN 255] (dB tb [98] 0 (-1)) false (sizeR (ransP [dN 255]) (dB tb [98] 0 (-1))) = some 9 := by rfl
theorem fieldB_twice (tb : Nat) : fieldR [dN 255] (dB tb [110] 0 0) false (sizeR (ransP [dN 255]) (dB tb [110] 0 0)) = some 2 := by rfl
theorem fieldB_bits (tb : Nat) : fieldR [dN 255] (dB tb [98] 8 0) true (sizeR (ransP [dN 255]) (dB tb [98] 8 0)) = some 5 := by rfl
theorem valid_ba0 : validS 0 [⟨[110], 1⟩] = true := by decide
theorem valid_ba1 : validS (-1) [⟨[110], 1⟩] = true := by decide
theorem allow_255 : allowP (0, 255) = true := by decide
theorem uns_ok : unsR (dN 255) = none := by decide
theorem uns_bad : unsR (dN 256) = some 7 := by decide
theorem fieldN_ok : fieldR [] (dN 255) false (unsR (dN 255)) = none := by decide
theorem fieldN_bad : fieldR [] (dN 256) false (unsR (dN 256)) = some 7 := by decide
end Go.Proofs.Ytbpkppmbbpoohaa

namespace Go.Proofs.Ytbpkppmbbpoohaa
open Go.RowKit Go.Shelf

/-- What the two fields answer. -/
def frT (r0 r1 : Option Int) (i : Nat) (_ : FieldD) : Option Int := if i = 0 then r0 else r1

set_option maxHeartbeats 800000 in
theorem msg_two (hi bi ba : Int) (fnm nm : List UInt8) (tb : Nat) (SP : Bool) (r0 r1 : Option Int) (x kr kk n0 c0 c : Nat) (m : Int) (A0 A : Option Addr) (S : Nat → Prop) (w : World)
    (hx : ExAt w x m (-1) kr A0 n0 c0 kk) (hm : MapAt w kr (natE [])) (hk : MapI w kk (condE (.pointer (some ⟨x, 0, none⟩)))) (hxk : x ≠ kr) (hkx : kk ≠ x)
    (h : SlAt FieldD.cells 15 S w A c [dN hi, dB tb fnm bi ba]) (hSx : S x) (hSk : S kr) (ht : SlAt TermD.cells 2 S w (some ⟨tb, 0, none⟩) 1 [⟨[110], 1⟩])
    (hv : validS ba [⟨[110], 1⟩] = true) (ha : r0 = none → allowP (0, hi) = true) (hsp : ∀ w, (binOp .neq 128 (outC4 (dB tb fnm bi ba)) (outZ4 (dB tb fnm bi ba))).run Try.prog w = .ok (.bool SP) w)
    (h0 : fieldR [] (dN hi) false (unsR (dN hi)) = r0) (h1 : fieldR [dN hi] (dB tb fnm bi ba) SP (sizeR (ransP [dN hi]) (dB tb fnm bi ba)) = r1) :
    Calls Try.prog 95 #[.pointer (some ⟨x, 0, none⟩), .agg #[.string (strL nm), .slice A 2 c]] w fun e w' => e = doM (msgR [] (frT r0 r1) nm [dN hi, dB tb fnm bi ba]) m ∧ Rest (fun k => k = x ∨ k = kr) w w' ∧ (msgR [] (frT r0 r1) nm [dN hi, dB tb fnm bi ba] = none → MapAt w' kr (natE (setN [] nm (natS [] [dN hi, dB tb fnm bi ba]))) ∧ ∃ A' n' c', ExAt w' x m (-1) kr A' n' c' kk) := by
  refine message_any x kr kk n0 c0 m 0 A0 nm A c [dN hi, dB tb fnm bi ba] S [] (frT r0 r1) w hx hm hxk h hSx hSk (fun s => by simp [getN]) (fun _ _ => by show (0 : Nat) ≤ 4000000000; omega) (fun i d wx hd hp hr hex => ?_) (fun _ d hd wx _ => ?_)
  · have hkx' := hk.rest hr hkx
    have hS := h.rest hr (fun k _ e => by rw [e]; exact hSx)
    match i, hd, hp, hex with
    | 0, hd, hp, hex =>
      simp only [List.getElem?_cons_zero, Option.some.injEq] at hd
      subst hd
      have := fieldN hi x kr kk c m ((0 : Nat) : Int) A S wx hex (hS.take 0 c (Nat.zero_le _) hS.2.1) hkx'
      rw [h0] at this
      exact this
    | 1, hd, hp, hex =>
      simp only [List.getElem?_cons_succ, List.getElem?_cons_zero, Option.some.injEq] at hd
      subst hd
      have hr0 : r0 = none := by
        simp only [List.take_succ_cons, List.take_zero, fieldsR, frT, if_true] at hp
        cases r0 with
        | none => rfl
        | some c => cases hp
      have := fieldB hi bi ba fnm tb SP x kr kk c m ((1 : Nat) : Int) A S wx hex (hS.take 1 c (by have := hS.1; simp only [List.length_cons, List.length_nil] at this; omega) hS.2.1) hkx' (ht.rest hr (fun k _ e => by rw [e]; exact hSx)) hv (ha hr0) hsp
      rw [h1] at this
      exact this
    | i + 2, hd, _, _ => simp at hd
  · have h9 : d.kind ≠ 9 := by
      simp only [List.mem_cons, List.not_mem_nil, or_false] at hd
      rcases hd with rfl | rfl <;> simp [dN, dB]
    exact targets_any d wx h9

/-- The first flaw of a definition of one message of two fields. -/
def twoR (r0 r1 : Option Int) (st : List UInt8) (D : List FieldD) (A : Option Addr) (c : Nat) : Option (Int × Int × Int) := defR (fun _ _ mm => msgR [] (frT r0 r1) mm.name mm.fields) [100] [⟨[109], A, c, D⟩] st

set_option maxHeartbeats 800000 in
theorem examine_two (hi bi ba : Int) (fnm st : List UInt8) (tb fb mb : Nat) (SP : Bool) (r0 r1 : Option Int) (w : World)
    (hms : SlAt MsgD.cells 2 (fun k => w.heap.size ≤ k) w (some ⟨mb, 0, none⟩) 1 [⟨[109], some ⟨fb, 0, none⟩, 2, [dN hi, dB tb fnm bi ba]⟩])
    (h : SlAt FieldD.cells 15 (fun k => w.heap.size ≤ k) w (some ⟨fb, 0, none⟩) 2 [dN hi, dB tb fnm bi ba]) (ht : SlAt TermD.cells 2 (fun k => w.heap.size ≤ k) w (some ⟨tb, 0, none⟩) 1 [⟨[110], 1⟩])
    (hv : validS ba [⟨[110], 1⟩] = true) (ha : r0 = none → allowP (0, hi) = true) (hsp : ∀ w, (binOp .neq 128 (outC4 (dB tb fnm bi ba)) (outZ4 (dB tb fnm bi ba))).run Try.prog w = .ok (.bool SP) w)
    (h0 : fieldR [] (dN hi) false (unsR (dN hi)) = r0) (h1 : fieldR [dN hi] (dB tb fnm bi ba) SP (sizeR (ransP [dN hi]) (dB tb fnm bi ba)) = r1) :
    Calls Try.prog 59 #[.agg #[.string (strL [100]), .slice (some ⟨mb, 0, none⟩) 1 1, .string (strL st)]] w (ExPost (twoR r0 r1 st [dN hi, dB tb fnm bi ba] (some ⟨fb, 0, none⟩) 2) (defE [⟨[109], some ⟨fb, 0, none⟩, 2, [dN hi, dB tb fnm bi ba]⟩]) w) := by
  refine examine_any [100] st (some ⟨mb, 0, none⟩) 1 [⟨[109], some ⟨fb, 0, none⟩, 2, [dN hi, dB tb fnm bi ba]⟩] _ (fun _ _ mm => msgR [] (frT r0 r1) mm.name mm.fields) w hms (fun x kr kk hx hkr hxk i mm wx hd _ _ hb hex hm hki hkx hkk => ?_)
  match i, hd, hex, hm with
  | 0, hd, hex, hm =>
    simp only [List.getElem?_cons_zero, Option.some.injEq] at hd
    subst hd
    obtain ⟨A', n', c', hex⟩ := hex
    exact msg_two hi bi ba fnm [109] tb SP r0 r1 x kr kk n' c' 2 _ A' (some ⟨fb, 0, none⟩) (fun k => w.heap.size ≤ k) wx hex hm hki hxk hkx (h.below hb) hx hkr (ht.below hb) hv ha hsp h0 h1
  | i + 1, hd, _, _ => simp at hd
end Go.Proofs.Ytbpkppmbbpoohaa

namespace Go.Proofs.Ytbpkppmbbpoohaa
open Go.RowKit Go.Shelf

/-- The blocks of a definition of two fields. -/
structure VarAt (W : World) (tb fb mb : Nat) (hi bi ba : Int) (fnm : List UInt8) : Prop where
  tm : W.heap[tb]? = some (.cells #[.string ⟨#[110]⟩, .int .i64 1] 76 (0, 0))
  fd : W.heap[fb]? = some (.cells ((dN hi).cells ++ (dB tb fnm bi ba).cells).toArray 28 (0, 0))
  ms : W.heap[mb]? = some (.cells #[.string ⟨#[109]⟩, .slice (some ⟨fb, 0, none⟩) 2 2] 50 (0, 0))
theorem TwoAt.var {W : World} {tb fb mb : Nat} (h : TwoAt W tb fb mb) : VarAt W tb fb mb 255 0 0 [98] := ⟨h.tm, h.fd, h.ms⟩
theorem VarAt.below {W W' : World} {tb fb mb : Nat} {hi bi ba : Int} {fnm : List UInt8} (h : VarAt W tb fb mb hi bi ba fnm) (hb : Below W.heap.size W W') : VarAt W' tb fb mb hi bi ba fnm :=
  ⟨(hb.block tb (Array.getElem?_eq_some_iff.1 h.tm).1).trans h.tm, (hb.block fb (Array.getElem?_eq_some_iff.1 h.fd).1).trans h.fd, (hb.block mb (Array.getElem?_eq_some_iff.1 h.ms).1).trans h.ms⟩

theorem slAt_two {W : World} {tb fb : Nat} {hi bi ba : Int} {fnm : List UInt8} (S : Nat → Prop) (hS : ¬ S fb) (h : W.heap[fb]? = some (.cells ((dN hi).cells ++ (dB tb fnm bi ba).cells).toArray 28 (0, 0))) :
    SlAt FieldD.cells 15 S W (some ⟨fb, 0, none⟩) 2 [dN hi, dB tb fnm bi ba] := by
  refine ⟨Nat.le_refl _, by omega, fun i d hd => ⟨fb, 0, rfl, hS, fun j u hu => ?_⟩⟩
  rw [cell_of_row W fb (0 + i * 15 + j) _ _ (0, 0) h]
  match i, hd with
  | 0, hd =>
    simp only [List.getElem?_cons_zero, Option.some.injEq] at hd
    subst hd
    have hj := (List.getElem?_eq_some_iff.1 hu).1
    rw [List.getElem?_toArray, show 0 + 0 * 15 + j = j by omega, List.getElem?_append_left hj]
    exact hu
  | 1, hd =>
    simp only [List.getElem?_cons_succ, List.getElem?_cons_zero, Option.some.injEq] at hd
    subst hd
    rw [List.getElem?_toArray, show 0 + 1 * 15 + j = (dN hi).cells.length + j by show _ = 15 + j; omega, List.getElem?_append_right (by omega), Nat.add_sub_cancel_left]
    exact hu
  | i + 2, hd => simp at hd
theorem slAt_msg {W : World} {fb mb : Nat} {D : List FieldD} (hD : D.length = 2) (S : Nat → Prop) (hS : ¬ S mb) (h : W.heap[mb]? = some (.cells #[.string ⟨#[109]⟩, .slice (some ⟨fb, 0, none⟩) 2 2] 50 (0, 0))) :
    SlAt MsgD.cells 2 S W (some ⟨mb, 0, none⟩) 1 [⟨[109], some ⟨fb, 0, none⟩, 2, D⟩] := by
  refine ⟨Nat.le_refl _, by omega, fun i d hd => ⟨mb, 0, rfl, hS, fun j u hu => ?_⟩⟩
  rw [cell_of_row W mb (0 + i * 2 + j) _ _ (0, 0) h]
  match i, hd with
  | 0, hd =>
    simp only [List.getElem?_cons_zero, Option.some.injEq] at hd
    subst hd
    simp only [MsgD.cells, hD] at hu
    rw [show 0 + 0 * 2 + j = j by omega]
    simpa [strL] using hu
  | i + 1, hd => simp at hd

set_option maxHeartbeats 800000 in
theorem examine_var {hi bi ba : Int} {fnm : List UInt8} (st : List UInt8) {tb fb mb : Nat} {SP : Bool} {r0 r1 : Option Int} {w : World} (h : VarAt w tb fb mb hi bi ba fnm)
    (hv : validS ba [⟨[110], 1⟩] = true) (ha : r0 = none → allowP (0, hi) = true) (hsp : ∀ w, (binOp .neq 128 (outC4 (dB tb fnm bi ba)) (outZ4 (dB tb fnm bi ba))).run Try.prog w = .ok (.bool SP) w)
    (h0 : fieldR [] (dN hi) false (unsR (dN hi)) = r0) (h1 : fieldR [dN hi] (dB tb fnm bi ba) SP (sizeR (ransP [dN hi]) (dB tb fnm bi ba)) = r1) :
    Calls Try.prog 59 #[.agg #[.string (strL [100]), .slice (some ⟨mb, 0, none⟩) 1 1, .string (strL st)]] w (ExPost (twoR r0 r1 st [dN hi, dB tb fnm bi ba] (some ⟨fb, 0, none⟩) 2) (defE [⟨[109], some ⟨fb, 0, none⟩, 2, [dN hi, dB tb fnm bi ba]⟩]) w) := by
  have l1 := (Array.getElem?_eq_some_iff.1 h.tm).1
  have l2 := (Array.getElem?_eq_some_iff.1 h.fd).1
  have l3 := (Array.getElem?_eq_some_iff.1 h.ms).1
  exact examine_two hi bi ba fnm st tb fb mb SP r0 r1 w (slAt_msg rfl _ (by show ¬ w.heap.size ≤ mb; omega) h.ms) (slAt_two _ (by show ¬ w.heap.size ≤ fb; omega) h.fd) (slAt_term _ (by show ¬ w.heap.size ≤ tb; omega) h.tm) hv ha hsp h0 h1

theorem two_none (tb : Nat) (A : Option Addr) : twoR none none [109] [dN 255, dB tb [98] 0 0] A 2 = none := by rfl
/-- The law's definition is valid. -/
theorem valid_two {tb fb mb : Nat} {w : World} (h : VarAt w tb fb mb 255 0 0 [98]) : Calls Try.prog 35 #[.agg #[.string (strL [100]), .slice (some ⟨mb, 0, none⟩) 1 1, .string (strL [109])]] w fun e w' => e = .returned (.bool true) ∧ Below w.heap.size w w' :=
  valid_of [100] [109] (some ⟨mb, 0, none⟩) 1 1 none _ w (fun wx hb => by
    have := examine_var [109] (h.below hb) valid_ba0 (fun _ => allow_255) (spB_ok tb [98] 0) fieldN_ok (fieldB_ok tb)
    rwa [two_none] at this)
end Go.Proofs.Ytbpkppmbbpoohaa
