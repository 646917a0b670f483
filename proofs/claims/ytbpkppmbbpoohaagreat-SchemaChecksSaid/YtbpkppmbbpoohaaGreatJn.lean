/- The law's message and definitions of two fields: what Check and Valid answer. Conditions: their blocks lie in memory. The law's definitions out of their blocks: Valid, Check and natures. Conditions: the blocks lie in memory. The first flaws of the law's definitions, plain; a message of three fields. Conditions: the blocks lie in memory. The law's definitions in known: their blocks, and what the calls on them answer. No conditions. -/
import Derived.Test.YtbpkppmbbpoohaaGreatJk
import Derived.Test.YtbpkppmbbpoohaaGreatVe
import Derived.Deep.RegionHeld3
import Derived.Deep.CutRange
namespace Go.Proofs.YtbpkppmbbpoohaaGreat
open Go.RowKit Go.Shelf

/-- What the two fields answer. -/
def frT (r0 r1 : Option Int) (i : Nat) (_ : FieldD) : Option Int := if i = 0 then r0 else r1

set_option maxHeartbeats 800000 in
theorem msg_two (hi bi ba : Int) (fnm nm : List UInt8) (tb : Nat) (SP : Bool) (r0 r1 : Option Int) (x kr kk n0 c0 c : Nat) (m : Int) (A0 A : Option Addr) (S : Nat → Prop) (w : World)
    (hx : ExAt w x m (-1) kr A0 n0 c0 kk) (hm : MapAt w kr (natE [])) (hk : MapI w kk (condE (.pointer (some ⟨x, 0, none⟩)))) (hxk : x ≠ kr) (hkx : kk ≠ x)
    (h : SlAt FieldD.cells 15 S w A c [dN hi, dB tb fnm bi ba]) (hSx : S x) (hSk : S kr) (ht : SlAt TermD.cells 2 S w (some ⟨tb, 0, none⟩) 1 [⟨[110], 1⟩])
    (hv : validS ba [⟨[110], 1⟩] = true) (ha : r0 = none → allowP (0, hi) = true) (hsp : ∀ w, (binOp .neq 167 (outC4 (dB tb fnm bi ba)) (outZ4 (dB tb fnm bi ba))).run Tryz.prog w = .ok (.bool SP) w)
    (h0 : fieldR [] (dN hi) false (unsR (dN hi)) = r0) (h1 : fieldR [dN hi] (dB tb fnm bi ba) SP (sizeR (ransP [dN hi]) (dB tb fnm bi ba)) = r1) :
    Calls Tryz.prog 117 #[.pointer (some ⟨x, 0, none⟩), .agg #[.string (strL nm), .slice A 2 c]] w fun e w' => e = doM (msgR [] (frT r0 r1) nm [dN hi, dB tb fnm bi ba]) m ∧ Rest (fun k => k = x ∨ k = kr) w w' ∧ (msgR [] (frT r0 r1) nm [dN hi, dB tb fnm bi ba] = none → MapAt w' kr (natE (setN [] nm (natS [] [dN hi, dB tb fnm bi ba]))) ∧ ∃ A' n' c', ExAt w' x m (-1) kr A' n' c' kk) := by
  refine message_any x kr kk n0 c0 m 0 A0 nm A c [dN hi, dB tb fnm bi ba] S [] (frT r0 r1) w hx hm hxk h hSx hSk (fun s => by simp [getN]) (fun _ _ => by show (0 : Nat) ≤ 4000000000; omega) (fun i d wx hd hp hr hex => ?_) (fun _ d hd wx _ => ?_)
  · have hkx' := hk.rest hr hkx
    have hS := h.rest hr (fun k _ e => by rw [e]; exact hSx)
    match i, hd, hp, hex with
    | 0, hd, hp, hex =>
      simp only [List.getElem?_cons_zero, Option.some.injEq] at hd
      subst hd
      have := fieldN hi x kr kk c m ((0 : Nat) : Int) A S wx hex (hS.take 0 c (Nat.zero_le _) hS.2.1) hkx'
      rw [h0] at this
      exact this
    | 1, hd, hp, hex =>
      simp only [List.getElem?_cons_succ, List.getElem?_cons_zero, Option.some.injEq] at hd
      subst hd
      have hr0 : r0 = none := by
        simp only [List.take_succ_cons, List.take_zero, fieldsR, frT, if_true] at hp
        cases r0 with
        | none => rfl
        | some c => cases hp
      have := fieldB hi bi ba fnm tb SP x kr kk c m ((1 : Nat) : Int) A S wx hex (hS.take 1 c (by have := hS.1; simp only [List.length_cons, List.length_nil] at this; omega) hS.2.1) hkx' (ht.rest hr (fun k _ e => by rw [e]; exact hSx)) hv (ha hr0) hsp
      rw [h1] at this
      exact this
    | i + 2, hd, _, _ => simp at hd
  · have h9 : d.kind ≠ 9 := by
      simp only [List.mem_cons, List.not_mem_nil, or_false] at hd
      rcases hd with rfl | rfl <;> simp [dN, dB]
    exact targets_any d wx h9

/-- The first flaw of a definition of one message of two fields. -/
def twoR (r0 r1 : Option Int) (st : List UInt8) (D : List FieldD) (A : Option Addr) (c : Nat) : Option (Int × Int × Int) := defR (fun _ _ mm => msgR [] (frT r0 r1) mm.name mm.fields) [100] [⟨[109], A, c, D⟩] st

set_option maxHeartbeats 800000 in
theorem examine_two (hi bi ba : Int) (fnm st : List UInt8) (tb fb mb : Nat) (SP : Bool) (r0 r1 : Option Int) (w : World)
    (hms : SlAt MsgD.cells 2 (fun k => w.heap.size ≤ k) w (some ⟨mb, 0, none⟩) 1 [⟨[109], some ⟨fb, 0, none⟩, 2, [dN hi, dB tb fnm bi ba]⟩])
    (h : SlAt FieldD.cells 15 (fun k => w.heap.size ≤ k) w (some ⟨fb, 0, none⟩) 2 [dN hi, dB tb fnm bi ba]) (ht : SlAt TermD.cells 2 (fun k => w.heap.size ≤ k) w (some ⟨tb, 0, none⟩) 1 [⟨[110], 1⟩])
    (hv : validS ba [⟨[110], 1⟩] = true) (ha : r0 = none → allowP (0, hi) = true) (hsp : ∀ w, (binOp .neq 167 (outC4 (dB tb fnm bi ba)) (outZ4 (dB tb fnm bi ba))).run Tryz.prog w = .ok (.bool SP) w)
    (h0 : fieldR [] (dN hi) false (unsR (dN hi)) = r0) (h1 : fieldR [dN hi] (dB tb fnm bi ba) SP (sizeR (ransP [dN hi]) (dB tb fnm bi ba)) = r1) :
    Calls Tryz.prog 48 #[.agg #[.string (strL [100]), .slice (some ⟨mb, 0, none⟩) 1 1, .string (strL st)]] w (ExPost (twoR r0 r1 st [dN hi, dB tb fnm bi ba] (some ⟨fb, 0, none⟩) 2) (defE [⟨[109], some ⟨fb, 0, none⟩, 2, [dN hi, dB tb fnm bi ba]⟩]) w) := by
  refine examine_any [100] st (some ⟨mb, 0, none⟩) 1 [⟨[109], some ⟨fb, 0, none⟩, 2, [dN hi, dB tb fnm bi ba]⟩] _ (fun _ _ mm => msgR [] (frT r0 r1) mm.name mm.fields) w hms (fun x kr kk hx hkr hxk i mm wx hd _ _ hb hex hm hki hkx hkk => ?_)
  match i, hd, hex, hm with
  | 0, hd, hex, hm =>
    simp only [List.getElem?_cons_zero, Option.some.injEq] at hd
    subst hd
    obtain ⟨A', n', c', hex⟩ := hex
    exact msg_two hi bi ba fnm [109] tb SP r0 r1 x kr kk n' c' 2 _ A' (some ⟨fb, 0, none⟩) (fun k => w.heap.size ≤ k) wx hex hm hki hxk hkx (h.below hb) hx hkr (ht.below hb) hv ha hsp h0 h1
  | i + 1, hd, _, _ => simp at hd
end Go.Proofs.YtbpkppmbbpoohaaGreat

namespace Go.Proofs.YtbpkppmbbpoohaaGreat
open Go.RowKit Go.Shelf

/-- The blocks of a definition of two fields. -/
structure VarAt (W : World) (tb fb mb : Nat) (hi bi ba : Int) (fnm : List UInt8) : Prop where
  tm : W.heap[tb]? = some (.cells #[.string ⟨#[110]⟩, .int .i64 1] 67 (0, 0))
  fd : W.heap[fb]? = some (.cells ((dN hi).cells ++ (dB tb fnm bi ba).cells).toArray 55 (0, 0))
  ms : W.heap[mb]? = some (.cells #[.string ⟨#[109]⟩, .slice (some ⟨fb, 0, none⟩) 2 2] 36 (0, 0))
theorem TwoAt.var {W : World} {tb fb mb : Nat} (h : TwoAt W tb fb mb) : VarAt W tb fb mb 255 0 0 [98] := ⟨h.tm, h.fd, h.ms⟩
theorem VarAt.below {W W' : World} {tb fb mb : Nat} {hi bi ba : Int} {fnm : List UInt8} (h : VarAt W tb fb mb hi bi ba fnm) (hb : Below W.heap.size W W') : VarAt W' tb fb mb hi bi ba fnm :=
  ⟨(hb.block tb (Array.getElem?_eq_some_iff.1 h.tm).1).trans h.tm, (hb.block fb (Array.getElem?_eq_some_iff.1 h.fd).1).trans h.fd, (hb.block mb (Array.getElem?_eq_some_iff.1 h.ms).1).trans h.ms⟩

theorem slAt_two {W : World} {tb fb : Nat} {hi bi ba : Int} {fnm : List UInt8} (S : Nat → Prop) (hS : ¬ S fb) (h : W.heap[fb]? = some (.cells ((dN hi).cells ++ (dB tb fnm bi ba).cells).toArray 55 (0, 0))) :
    SlAt FieldD.cells 15 S W (some ⟨fb, 0, none⟩) 2 [dN hi, dB tb fnm bi ba] := by
  refine ⟨Nat.le_refl _, by omega, fun i d hd => ⟨fb, 0, rfl, hS, fun j u hu => ?_⟩⟩
  rw [cell_of_row W fb (0 + i * 15 + j) _ _ (0, 0) h]
  match i, hd with
  | 0, hd =>
    simp only [List.getElem?_cons_zero, Option.some.injEq] at hd
    subst hd
    have hj := (List.getElem?_eq_some_iff.1 hu).1
    rw [List.getElem?_toArray, show 0 + 0 * 15 + j = j by omega, List.getElem?_append_left hj]
    exact hu
  | 1, hd =>
    simp only [List.getElem?_cons_succ, List.getElem?_cons_zero, Option.some.injEq] at hd
    subst hd
    rw [List.getElem?_toArray, show 0 + 1 * 15 + j = (dN hi).cells.length + j by show _ = 15 + j; omega, List.getElem?_append_right (by omega), Nat.add_sub_cancel_left]
    exact hu
  | i + 2, hd => simp at hd
theorem slAt_msg {W : World} {fb mb : Nat} {D : List FieldD} (hD : D.length = 2) (S : Nat → Prop) (hS : ¬ S mb) (h : W.heap[mb]? = some (.cells #[.string ⟨#[109]⟩, .slice (some ⟨fb, 0, none⟩) 2 2] 36 (0, 0))) :
    SlAt MsgD.cells 2 S W (some ⟨mb, 0, none⟩) 1 [⟨[109], some ⟨fb, 0, none⟩, 2, D⟩] := by
  refine ⟨Nat.le_refl _, by omega, fun i d hd => ⟨mb, 0, rfl, hS, fun j u hu => ?_⟩⟩
  rw [cell_of_row W mb (0 + i * 2 + j) _ _ (0, 0) h]
  match i, hd with
  | 0, hd =>
    simp only [List.getElem?_cons_zero, Option.some.injEq] at hd
    subst hd
    simp only [MsgD.cells, hD] at hu
    rw [show 0 + 0 * 2 + j = j by omega]
    simpa [strL] using hu
  | i + 1, hd => simp at hd

set_option maxHeartbeats 800000 in
theorem examine_var {hi bi ba : Int} {fnm : List UInt8} (st : List UInt8) {tb fb mb : Nat} {SP : Bool} {r0 r1 : Option Int} {w : World} (h : VarAt w tb fb mb hi bi ba fnm)
    (hv : validS ba [⟨[110], 1⟩] = true) (ha : r0 = none → allowP (0, hi) = true) (hsp : ∀ w, (binOp .neq 167 (outC4 (dB tb fnm bi ba)) (outZ4 (dB tb fnm bi ba))).run Tryz.prog w = .ok (.bool SP) w)
    (h0 : fieldR [] (dN hi) false (unsR (dN hi)) = r0) (h1 : fieldR [dN hi] (dB tb fnm bi ba) SP (sizeR (ransP [dN hi]) (dB tb fnm bi ba)) = r1) :
    Calls Tryz.prog 48 #[.agg #[.string (strL [100]), .slice (some ⟨mb, 0, none⟩) 1 1, .string (strL st)]] w (ExPost (twoR r0 r1 st [dN hi, dB tb fnm bi ba] (some ⟨fb, 0, none⟩) 2) (defE [⟨[109], some ⟨fb, 0, none⟩, 2, [dN hi, dB tb fnm bi ba]⟩]) w) := by
  have l1 := (Array.getElem?_eq_some_iff.1 h.tm).1
  have l2 := (Array.getElem?_eq_some_iff.1 h.fd).1
  have l3 := (Array.getElem?_eq_some_iff.1 h.ms).1
  exact examine_two hi bi ba fnm st tb fb mb SP r0 r1 w (slAt_msg rfl _ (by show ¬ w.heap.size ≤ mb; omega) h.ms) (slAt_two _ (by show ¬ w.heap.size ≤ fb; omega) h.fd) (slAt_term _ (by show ¬ w.heap.size ≤ tb; omega) h.tm) hv ha hsp h0 h1

theorem two_none (tb : Nat) (A : Option Addr) : twoR none none [109] [dN 255, dB tb [98] 0 0] A 2 = none := by rfl
/-- The law's definition is valid. -/
theorem valid_two {tb fb mb : Nat} {w : World} (h : VarAt w tb fb mb 255 0 0 [98]) : Calls Tryz.prog 15 #[.agg #[.string (strL [100]), .slice (some ⟨mb, 0, none⟩) 1 1, .string (strL [109])]] w fun e w' => e = .returned (.bool true) ∧ Below w.heap.size w w' :=
  valid_of [100] [109] (some ⟨mb, 0, none⟩) 1 1 none _ w (fun wx hb => by
    have := examine_var [109] (h.below hb) valid_ba0 (fun _ => allow_255) (spB_ok tb [98] 0) fieldN_ok (fieldB_ok tb)
    rwa [two_none] at this)
end Go.Proofs.YtbpkppmbbpoohaaGreat

namespace Go.Proofs.YtbpkppmbbpoohaaGreat
open Go.RowKit Go.Shelf

theorem nm_d : nameB [100] = true := by decide
theorem nm_m : nameB [109] = true := by decide
theorem nm_l : nameB [108] = true := by decide
theorem msgR_at0 (x y : FieldD) (c : Int) (r1 : Option Int) : msgR [] (frT (some c) r1) [109] [x, y] = some (0, c) := by
  simp [msgR, nm_m, hasN, getN, inB, fieldsR, frT, orM, ifM]
theorem msgR_at1 (x y : FieldD) (c : Int) : msgR [] (frT none (some c)) [109] [x, y] = some (1, c) := by
  simp [msgR, nm_m, hasN, getN, inB, fieldsR, frT, orM, ifM]
theorem twoR_at0 (x y : FieldD) (c : Int) (r1 : Option Int) (st : List UInt8) (A : Option Addr) (n : Nat) : twoR (some c) r1 st [x, y] A n = some (0, 0, c) := by
  simp [twoR, defR, nm_d, inB, msgsR, msgR_at0, orD, ifD]
theorem twoR_at1 (x y : FieldD) (c : Int) (st : List UInt8) (A : Option Addr) (n : Nat) : twoR none (some c) st [x, y] A n = some (0, 1, c) := by
  simp [twoR, defR, nm_d, inB, msgsR, msgR_at1, orD, ifD]
theorem natS_two (tb : Nat) (nm : List UInt8) (hi bi ba : Int) : natS [] [dN hi, dB tb nm bi ba] = (1, true) := by rfl
theorem msgR_ok (tb : Nat) (nm : List UInt8) (hi bi ba : Int) : msgR [] (frT none none) [109] [dN hi, dB tb nm bi ba] = none := by
  simp [msgR, nm_m, hasN, getN, inB, fieldsR, frT, orM, ifM, natS_two]
theorem twoR_start (tb : Nat) (nm : List UInt8) (hi bi ba : Int) (A : Option Addr) (n : Nat) : twoR none none [120] [dN hi, dB tb nm bi ba] A n = some (-1, -1, 11) := by
  simp [twoR, defR, nm_d, inB, msgsR, msgR_ok, orD, ifD, defE, stepN, setN, hasN, getN]

/-- The third field: a list of the message itself. -/
def dL : FieldD := { name := [108], kind := 7, bits := 0, little := false, loose := false, low := 0, high := 0, base := 0, ta := none, tc := 0, terms := [], of_ := [109], tag := [], from_ := [], ca := none, cc := 0, cases := [], check := 0, key := 0 }
theorem Tryz.entList : ∀ args w, (callFunc 109 args).run Tryz.prog w = .ok (.enter 109 args) w := enters_of Tryz.func109 (by kernel_rfl) rfl
theorem nested_dL : nestedR [] dL = some 8 := by rfl
theorem fieldL_res (B : List FieldD) (hB : B.any (fun e => e.name == [108]) = false) : fieldR B dL false (some 8) = some 8 := by
  simp [fieldR, dL, nm_l, hB, ifR, orR]
theorem fieldL (x kr kk c : Nat) (m f : Int) (A : Option Addr) (B : List FieldD) (S : Nat → Prop) (w : World) (hx : ExAt w x m f kr A B.length c kk) (hB : SlAt FieldD.cells 15 S w A c B) (hk : MapI w kk (condE (.pointer (some ⟨x, 0, none⟩)))) (hm : MapAt w kr (natE [])) :
    Calls Tryz.prog 146 #[.pointer (some ⟨x, 0, none⟩), dL.agg] w fun e w' => e = doE (fieldR B dL false (some 8)) m f ∧ Below w.heap.size w w' :=
  field_any x kr kk c m f A B dL S w hx hB hk 109 Tryz.entList rfl false (fun wx => spare_7 dL false wx rfl (fun w => by simp [outC7, outZ7, dL, go_sem, strL_toList])) (some 8) (fun wx hb => by
    have := list_of (d := dL) [] none (hx.below hb hx.lt) (hm.below hb hm.lt) (fun h => by rw [nested_dL] at h; cases h)
    rw [nested_dL] at this
    exact this)

def frL (i : Nat) (_ : FieldD) : Option Int := if i = 2 then some 8 else none
theorem msgR_at2 (x y z : FieldD) : msgR [] frL [109] [x, y, z] = some (2, 8) := by
  simp [msgR, nm_m, hasN, getN, inB, fieldsR, frL, orM, ifM]
def threeD (tb : Nat) : List FieldD := [dN 255, dB tb [98] 0 0, dL]
theorem defR_three (tb : Nat) (st : List UInt8) (A : Option Addr) (n : Nat) : defR (fun _ _ mm => msgR [] frL mm.name mm.fields) [100] [⟨[109], A, n, threeD tb⟩] st = some (0, 2, 8) := by
  simp [defR, nm_d, inB, msgsR, threeD, msgR_at2, orD, ifD]

set_option maxHeartbeats 800000 in
theorem msg_three (tb : Nat) (x kr kk n0 c0 c : Nat) (m : Int) (A0 A : Option Addr) (S : Nat → Prop) (w : World)
    (hx : ExAt w x m (-1) kr A0 n0 c0 kk) (hm : MapAt w kr (natE [])) (hk : MapI w kk (condE (.pointer (some ⟨x, 0, none⟩)))) (hxk : x ≠ kr) (hkx : kk ≠ x)
    (h : SlAt FieldD.cells 15 S w A c (threeD tb)) (hSx : S x) (hSk : S kr) (ht : SlAt TermD.cells 2 S w (some ⟨tb, 0, none⟩) 1 [⟨[110], 1⟩]) :
    Calls Tryz.prog 117 #[.pointer (some ⟨x, 0, none⟩), .agg #[.string (strL [109]), .slice A 3 c]] w fun e w' => e = doM (msgR [] frL [109] (threeD tb)) m ∧ Rest (fun k => k = x ∨ k = kr) w w' ∧ (msgR [] frL [109] (threeD tb) = none → MapAt w' kr (natE (setN [] [109] (natS [] (threeD tb)))) ∧ ∃ A' n' c', ExAt w' x m (-1) kr A' n' c' kk) := by
  have hc : 3 ≤ c := h.1
  refine message_any x kr kk n0 c0 m 0 A0 [109] A c (threeD tb) S [] frL w hx hm hxk h hSx hSk (fun s => by simp [getN]) (fun _ hn => by cases hn) (fun i d wx hd hp hr hex => ?_) (fun hn _ _ _ _ => by cases hn)
  have hkx' := hk.rest hr hkx
  have hS := h.rest hr (fun k _ e => by rw [e]; exact hSx)
  have hmx := hm.rest hr (fun e => hxk e.symm)
  match i, hd, hp, hex with
  | 0, hd, hp, hex =>
    simp only [threeD, List.getElem?_cons_zero, Option.some.injEq] at hd
    subst hd
    have := fieldN 255 x kr kk c m ((0 : Nat) : Int) A S wx hex (hS.take 0 c (Nat.zero_le _) hS.2.1) hkx'
    rw [fieldN_ok] at this
    exact this
  | 1, hd, hp, hex =>
    simp only [threeD, List.getElem?_cons_succ, List.getElem?_cons_zero, Option.some.injEq] at hd
    subst hd
    have := fieldB 255 0 0 [98] tb false x kr kk c m ((1 : Nat) : Int) A S wx hex (hS.take 1 c (by omega) hS.2.1) hkx' (ht.rest hr (fun k _ e => by rw [e]; exact hSx)) valid_ba0 allow_255 (spB_ok tb [98] 0)
    rw [fieldB_ok] at this
    exact this
  | 2, hd, hp, hex =>
    simp only [threeD, List.getElem?_cons_succ, List.getElem?_cons_zero, Option.some.injEq] at hd
    subst hd
    have := fieldL x kr kk c m ((2 : Nat) : Int) A [dN 255, dB tb [98] 0 0] S wx hex (hS.take 2 c (by omega) hS.2.1) hkx' hmx
    rw [fieldL_res _ (by rfl)] at this
    exact this
  | i + 3, hd, _, _ => simp [threeD] at hd

set_option maxHeartbeats 800000 in
theorem examine_three (st : List UInt8) (tb mb c : Nat) (A : Option Addr) (w : World)
    (hms : SlAt MsgD.cells 2 (fun k => w.heap.size ≤ k) w (some ⟨mb, 0, none⟩) 1 [⟨[109], A, c, threeD tb⟩])
    (h : SlAt FieldD.cells 15 (fun k => w.heap.size ≤ k) w A c (threeD tb)) (ht : SlAt TermD.cells 2 (fun k => w.heap.size ≤ k) w (some ⟨tb, 0, none⟩) 1 [⟨[110], 1⟩]) :
    Calls Tryz.prog 48 #[.agg #[.string (strL [100]), .slice (some ⟨mb, 0, none⟩) 1 1, .string (strL st)]] w (ExPost (some (0, 2, 8)) (defE [⟨[109], A, c, threeD tb⟩]) w) := by
  rw [← defR_three tb st A c]
  refine examine_any [100] st (some ⟨mb, 0, none⟩) 1 [⟨[109], A, c, threeD tb⟩] _ (fun _ _ mm => msgR [] frL mm.name mm.fields) w hms (fun x kr kk hx hkr hxk i mm wx hd _ _ hb hex hm hki hkx hkk => ?_)
  match i, hd, hex, hm with
  | 0, hd, hex, hm =>
    simp only [List.getElem?_cons_zero, Option.some.injEq] at hd
    subst hd
    obtain ⟨A', n', c', hex⟩ := hex
    exact msg_three tb x kr kk n' c' c _ A' A (fun k => w.heap.size ≤ k) wx hex hm hki hxk hkx (h.below hb) hx hkr (ht.below hb)
  | i + 1, hd, _, _ => simp at hd
end Go.Proofs.YtbpkppmbbpoohaaGreat

namespace Go.Proofs.YtbpkppmbbpoohaaGreat
open Go.RowKit Go.Shelf

/-- The blocks of a new definition. -/
structure Two (n : Nat) (W : World) (tb fb mb : Nat) : Prop where
  ge : n ≤ tb
  h1 : tb < fb
  h2 : fb < mb
  lt : mb < W.heap.size
  at_ : TwoAt W tb fb mb
theorem Two.below {n : Nat} {W W' : World} {tb fb mb : Nat} (h : Two n W tb fb mb) (hb : Below W.heap.size W W') : Two n W' tb fb mb := by
  have h1 := h.h1
  have h2 := h.h2
  have h3 := h.lt
  exact ⟨h.ge, h1, h2, Nat.lt_of_lt_of_le h3 hb.size, h.at_.below hb (by omega) (by omega) h3⟩
theorem two_some (w : World) : Calls Tryz.prog 37 #[] w fun e w' => ∃ tb fb mb, e = .returned (.agg #[.string ⟨#[100]⟩, .slice (some ⟨mb, 0, none⟩) 1 1, .string ⟨#[109]⟩]) ∧ Two w.heap.size w' tb fb mb ∧ Below w.heap.size w w' :=
  (two_any w).mono (fun e w' ⟨h1, h2, h3, h4⟩ => ⟨_, _, _, h1, ⟨by omega, by omega, by omega, by omega, h2⟩, h4⟩)


theorem flawed_at (nm st : List UInt8) (A : Option Addr) (n c : Nat) (fm ff fc : Int) (E : Nats) (w : World)
    (he : ∀ wx, Below w.heap.size w wx → Calls Tryz.prog 48 #[.agg #[.string (strL nm), .slice A n c, .string (strL st)]] wx (ExPost (some (fm, ff, fc)) E wx)) :
    Calls Tryz.prog 38 #[.agg #[.string (strL nm), .slice A n c, .string (strL st)], .int .i64 fm, .int .i64 ff, .int .i64 fc] w fun e w' => e = .returned (.bool true) ∧ Below w.heap.size w w' :=
  flawed_of nm st A n c fm ff fc w (fun wx hb => check_of nm st A n c (some (fm, ff, fc)) E wx (fun wy hy => he wy (hb.trans (hy.mono hb.size))))

/-- A definition's box with its blocks. -/
structure DAt (W : World) (b tb fb mb : Nat) (hi bi ba : Int) (fnm st : List UInt8) : Prop where
  bx : W.heap[b]? = some (.cells #[.string ⟨#[100]⟩, .slice (some ⟨mb, 0, none⟩) 1 1, .string (strL st)] 24 (0, 0))
  var : VarAt W tb fb mb hi bi ba fnm
theorem VarAt.rest {S : Nat → Prop} {W W' : World} {tb fb mb : Nat} {hi bi ba : Int} {fnm : List UInt8} (h : VarAt W tb fb mb hi bi ba fnm) (hr : Rest S W W') (h1 : ¬ S tb) (h2 : ¬ S fb) (h3 : ¬ S mb) : VarAt W' tb fb mb hi bi ba fnm :=
  ⟨(hr.block tb (Array.getElem?_eq_some_iff.1 h.tm).1 h1).trans h.tm, (hr.block fb (Array.getElem?_eq_some_iff.1 h.fd).1 h2).trans h.fd, (hr.block mb (Array.getElem?_eq_some_iff.1 h.ms).1 h3).trans h.ms⟩
section
variable {W W' : World} {b tb fb mb : Nat} {hi bi ba : Int} {fnm st : List UInt8}
theorem DAt.rest {S : Nat → Prop} (h : DAt W b tb fb mb hi bi ba fnm st) (hr : Rest S W W') (h0 : ¬ S b) (h1 : ¬ S tb) (h2 : ¬ S fb) (h3 : ¬ S mb) : DAt W' b tb fb mb hi bi ba fnm st :=
  ⟨(hr.block b (Array.getElem?_eq_some_iff.1 h.bx).1 h0).trans h.bx, h.var.rest hr h1 h2 h3⟩
theorem DAt.below (h : DAt W b tb fb mb hi bi ba fnm st) (hb : Below W.heap.size W W') : DAt W' b tb fb mb hi bi ba fnm st :=
  ⟨(hb.block b (Array.getElem?_eq_some_iff.1 h.bx).1).trans h.bx, h.var.below hb⟩
theorem DAt.c0 (h : DAt W b tb fb mb hi bi ba fnm st) : W.cell? ⟨b, 0, none⟩ = some (.string ⟨#[100]⟩) := by simp [World.cell?, h.bx]
theorem DAt.c1 (h : DAt W b tb fb mb hi bi ba fnm st) : W.cell? ⟨b, 1, none⟩ = some (.slice (some ⟨mb, 0, none⟩) 1 1) := by simp [World.cell?, h.bx]
theorem DAt.c2 (h : DAt W b tb fb mb hi bi ba fnm st) : W.cell? ⟨b, 2, none⟩ = some (.string (strL st)) := by simp [World.cell?, h.bx]
theorem DAt.fr (h : DAt W b tb fb mb hi bi ba fnm st) (o : Nat) : W.frozen? ⟨b, o, none⟩ = false := by simp [World.frozen?, h.bx]
theorem VarAt.m1 (h : VarAt W tb fb mb hi bi ba fnm) : W.cell? ⟨mb, 1, none⟩ = some (.slice (some ⟨fb, 0, none⟩) 2 2) := by simp [World.cell?, h.ms]
theorem VarAt.m0 (h : VarAt W tb fb mb hi bi ba fnm) : W.cell? ⟨mb, 0, none⟩ = some (.string ⟨#[109]⟩) := by simp [World.cell?, h.ms]
theorem VarAt.ffr (h : VarAt W tb fb mb hi bi ba fnm) (o : Nat) : W.frozen? ⟨fb, o, none⟩ = false := by simp [World.frozen?, h.fd]
theorem VarAt.mfr (h : VarAt W tb fb mb hi bi ba fnm) (o : Nat) : W.frozen? ⟨mb, o, none⟩ = false := by simp [World.frozen?, h.ms]
theorem VarAt.f6 (h : VarAt W tb fb mb hi bi ba fnm) : W.cell? ⟨fb, 6, none⟩ = some (.int .i64 hi) := by simp [World.cell?, h.fd, dN, dB, FieldD.cells]
theorem VarAt.f22 (h : VarAt W tb fb mb hi bi ba fnm) : W.cell? ⟨fb, 22, none⟩ = some (.int .i64 ba) := by simp [World.cell?, h.fd, dN, dB, FieldD.cells]
theorem VarAt.f15 (h : VarAt W tb fb mb hi bi ba fnm) : W.cell? ⟨fb, 15, none⟩ = some (.string (strL fnm)) := by simp [World.cell?, h.fd, dN, dB, FieldD.cells]
theorem VarAt.f17 (h : VarAt W tb fb mb hi bi ba fnm) : W.cell? ⟨fb, 17, none⟩ = some (.int .i64 bi) := by simp [World.cell?, h.fd, dN, dB, FieldD.cells]
theorem DAt.setSt (h : DAt W b tb fb mb hi bi ba fnm st) (s : List UInt8) (h1 : tb ≠ b) (h2 : fb ≠ b) (h3 : mb ≠ b) : DAt (W.setCell ⟨b, 2, none⟩ (.string (strL s))) b tb fb mb hi bi ba fnm s :=
  ⟨heap_setCell_same W b 2 _ 24 (.string (strL s)) h.bx, h.var.rest ((Rest.refl (fun k => k = b) W).setCell (S := fun k => k = b) (p := ⟨b, 2, none⟩) (fun _ => rfl) _) h1 h2 h3⟩
theorem DAt.setF (h : DAt W b tb fb mb hi bi ba fnm st) (j : Nat) (v : Value) (hi' bi' ba' : Int) (fnm' : List UInt8) (h0 : b ≠ fb) (h1 : tb ≠ fb) (h3 : mb ≠ fb)
    (e : (((dN hi).cells ++ (dB tb fnm bi ba).cells).toArray.setIfInBounds j v) = ((dN hi').cells ++ (dB tb fnm' bi' ba').cells).toArray) : DAt (W.setCell ⟨fb, j, none⟩ v) b tb fb mb hi' bi' ba' fnm' st := by
  have hr : Rest (fun k => k = fb) W (W.setCell ⟨fb, j, none⟩ v) := (Rest.refl (fun k => k = fb) W).setCell (S := fun k => k = fb) (p := ⟨fb, j, none⟩) (fun _ => rfl) _
  have hs := heap_setCell_same W fb j _ 55 v h.var.fd
  rw [e] at hs
  exact ⟨(hr.block b (Array.getElem?_eq_some_iff.1 h.bx).1 h0).trans h.bx, (hr.block tb (Array.getElem?_eq_some_iff.1 h.var.tm).1 h1).trans h.var.tm, hs, (hr.block mb (Array.getElem?_eq_some_iff.1 h.var.ms).1 h3).trans h.var.ms⟩
theorem rest_set (W : World) (k j : Nat) (v : Value) : Rest (fun i => i = k) W (W.setCell ⟨k, j, none⟩ v) := (Rest.refl (fun i => i = k) W).setCell (S := fun i => i = k) (p := ⟨k, j, none⟩) (fun _ => rfl) _
end
theorem alloc6 (w : World) (A B C D E F : Obj) :
    ∃ w', ((((((w.alloc A).alloc B).alloc C).alloc D).alloc E).alloc F) = w' ∧ w'.heap[w.heap.size]? = some A ∧ w'.heap[w.heap.size + 1]? = some B ∧ w'.heap[w.heap.size + 1 + 1]? = some C ∧
    w'.heap[w.heap.size + 1 + 1 + 1]? = some D ∧ w'.heap[w.heap.size + 1 + 1 + 1 + 1]? = some E ∧ w'.heap[w.heap.size + 1 + 1 + 1 + 1 + 1]? = some F ∧ Below w.heap.size w w' ∧ w'.heap.size = w.heap.size + 6 := by
  refine ⟨_, rfl, ?_⟩
  obtain ⟨hA, hB, hC, hD, hb, hs⟩ := alloc4 w A B C D
  generalize ((((w.alloc A).alloc B).alloc C).alloc D) = w4 at hA hB hC hD hb hs ⊢
  have hE := World.alloc_heap_new w4 E
  have s5 : (w4.alloc E).heap.size = w.heap.size + 1 + 1 + 1 + 1 + 1 := by simp; omega
  have hF := World.alloc_heap_new (w4.alloc E) F
  rw [s5] at hF
  have k : ∀ i, i < w4.heap.size → ((w4.alloc E).alloc F).heap[i]? = w4.heap[i]? := fun i hi => (Below.heap_alloc _ F _ (by omega)).trans (Below.heap_alloc _ E _ hi)
  refine ⟨(k _ (by omega)).trans hA, (k _ (by omega)).trans hB, (k _ (by omega)).trans hC, (k _ (by omega)).trans hD, ?_, hF, (hb.alloc (by omega) _).alloc (by omega) _, by simp; omega⟩
  rw [show w.heap.size + 1 + 1 + 1 + 1 = w4.heap.size by omega]
  exact (Below.heap_alloc _ F _ (by simp)).trans hE

theorem natIn_two0 (tb : Nat) (A : Option Addr) (c : Nat) : natInR none (defE [⟨[109], A, c, [dN 255, dB tb [98] 0 0]⟩]) [⟨[109], A, c, [dN 255, dB tb [98] 0 0]⟩] 0 = ((1, true), 0) := by
  simp [natInR, inB, defE, stepN, natS_two, setN, getN]
theorem natIn_two1 (tb : Nat) (A : Option Addr) (c : Nat) : natInR none (defE [⟨[109], A, c, [dN 255, dB tb [98] 0 0]⟩]) [⟨[109], A, c, [dN 255, dB tb [98] 0 0]⟩] 1 = ((0, false), 3) := by
  simp [natInR, inB]
theorem depth_two (mi zd ze : Int) (zs : Bool) {tb fb mb : Nat} {w : World} (h : VarAt w tb fb mb 255 0 0 [98])
    (hz : natInR none (defE [⟨[109], some ⟨fb, 0, none⟩, 2, [dN 255, dB tb [98] 0 0]⟩]) [⟨[109], some ⟨fb, 0, none⟩, 2, [dN 255, dB tb [98] 0 0]⟩] mi = ((zd, zs), ze)) :
    Calls Tryz.prog 39 #[.agg #[.string (strL [100]), .slice (some ⟨mb, 0, none⟩) 1 1, .string (strL [109])], .int .i64 mi] w fun e w' => e = .returned (.tuple #[.int .i64 zd, .int .i64 ze]) ∧ Below w.heap.size w w' :=
  depth_of [100] [109] (some ⟨mb, 0, none⟩) 1 1 mi zd ze zs w (fun wx hb => by
    have hv := h.below hb
    have := naturein_of [100] [109] (some ⟨mb, 0, none⟩) 1 [⟨[109], some ⟨fb, 0, none⟩, 2, [dN 255, dB tb [98] 0 0]⟩] (fun _ => False) mi none (defE [⟨[109], some ⟨fb, 0, none⟩, 2, [dN 255, dB tb [98] 0 0]⟩]) wx (slAt_msg rfl _ (fun e => e.elim) hv.ms) (fun _ => Nat.le_refl _) (fun wy hy => by
      have := examine_var [109] (hv.below hy) valid_ba0 (fun _ => allow_255) (spB_ok tb [98] 0) fieldN_ok (fieldB_ok tb)
      rwa [two_none] at this)
    rw [hz] at this
    exact this)
theorem ranges_two {tb fb mb : Nat} {w : World} (h : VarAt w tb fb mb 255 0 0 [98]) :
    Calls Tryz.prog 40 #[.agg #[.string (strL [109]), .slice (some ⟨fb, 0, none⟩) 2 2]] w fun e w' => ∃ r, e = .returned (.map (some r)) ∧ w.heap.size ≤ r ∧ MapAt w' r [([110], .agg #[.int .i64 0, .int .i64 255])] ∧ Below w.heap.size w w' :=
  ranges_any [109] (some ⟨fb, 0, none⟩) 2 [dN 255, dB tb [98] 0 0] (fun _ => False) w (slAt_two _ (fun e => e.elim) h.fd)

/-- The fields with the third one, behind their growth. -/
theorem slAt_three {W : World} {base g cap tb : Nat} (S : Nat → Prop) (hS : ¬ S g) (h : W.ownsRow base 55 15 (.slice (some ⟨g, 0, none⟩) 3 cap) 3 (((dN 255).cells ++ (dB tb [98] 0 0).cells) ++ dL.cells)) : SlAt FieldD.cells 15 S W (some ⟨g, 0, none⟩) cap (threeD tb) := by
  refine slAt_row (base := base) (n := 3) (t := 55) (by simpa [threeD] using h) rfl (fun i d hd j hj => ?_) (fun _ => rfl) (fun k hk => by simp at hk; subst hk; exact hS)
  match i, hd with
  | 0, hd =>
    simp only [threeD, List.getElem?_cons_zero, Option.some.injEq] at hd
    subst hd
    simp only [threeD, List.flatMap_cons]
    rw [show 0 * 15 + j = j by omega, List.getElem?_append_left hj]
  | 1, hd =>
    simp only [threeD, List.getElem?_cons_succ, List.getElem?_cons_zero, Option.some.injEq] at hd
    subst hd
    simp only [threeD, List.flatMap_cons]
    rw [List.getElem?_append_right (by show 15 ≤ _; omega), show 1 * 15 + j - (dN 255).cells.length = j by show 1 * 15 + j - 15 = j; omega, List.getElem?_append_left hj]
  | 2, hd =>
    simp only [threeD, List.getElem?_cons_succ, List.getElem?_cons_zero, Option.some.injEq] at hd
    subst hd
    simp only [threeD, List.flatMap_cons]
    rw [List.getElem?_append_right (by show 15 ≤ _; omega), show 2 * 15 + j - (dN 255).cells.length = 15 + j by show 2 * 15 + j - 15 = 15 + j; omega, List.getElem?_append_right (by show 15 ≤ _; omega), show 15 + j - (dB tb [98] 0 0).cells.length = j by show 15 + j - 15 = j; omega, List.getElem?_append_left hj]
  | i + 3, hd => simp [threeD] at hd
theorem Tryz.infoField : (Tryz.prog.info? 55).map (fun i => (i.zero, i.size, i.bytes)) = some (some (.agg #[.string ⟨#[]⟩, .int .i64 0, .int .i64 0, .bool false, .bool false, .int .i64 0, .int .i64 0, .int .i64 0, .slice none 0 0, .string ⟨#[]⟩, .string ⟨#[]⟩, .string ⟨#[]⟩, .slice none 0 0, .int .i64 0, .int .i64 0]), 15, 176) := by kernel_rfl
end Go.Proofs.YtbpkppmbbpoohaaGreat
