/- The first flaws of the law's definitions, plain; a message of three fields. Conditions: the blocks lie in memory. -/
import Derived.Test.YtbpkppmbbpoohaaJm
import Derived.Test.YtbpkppmbbpoohaaJp
namespace Go.Proofs.Ytbpkppmbbpoohaa
open Go.RowKit Go.Shelf

theorem nm_d : nameB [100] = true := by decide
theorem nm_m : nameB [109] = true := by decide
theorem nm_l : nameB [108] = true := by decide
theorem msgR_at0 (x y : FieldD) (c : Int) (r1 : Option Int) : msgR [] (frT (some c) r1) [109] [x, y] = some (0, c) := by
  simp [msgR, nm_m, hasN, getN, inB, fieldsR, frT, orM, ifM]
theorem msgR_at1 (x y : FieldD) (c : Int) : msgR [] (frT none (some c)) [109] [x, y] = some (1, c) := by
  simp [msgR, nm_m, hasN, getN, inB, fieldsR, frT, orM, ifM]
theorem twoR_at0 (x y : FieldD) (c : Int) (r1 : Option Int) (st : List UInt8) (A : Option Addr) (n : Nat) : twoR (some c) r1 st [x, y] A n = some (0, 0, c) := by
  simp [twoR, defR, nm_d, inB, msgsR, msgR_at0, orD, ifD]
theorem twoR_at1 (x y : FieldD) (c : Int) (st : List UInt8) (A : Option Addr) (n : Nat) : twoR none (some c) st [x, y] A n = some (0, 1, c) := by
  simp [twoR, defR, nm_d, inB, msgsR, msgR_at1, orD, ifD]
theorem natS_two (tb : Nat) (nm : List UInt8) (hi bi ba : Int) : natS [] [dN hi, dB tb nm bi ba] = (1, true) := by rfl
theorem msgR_ok (tb : Nat) (nm : List UInt8) (hi bi ba : Int) : msgR [] (frT none none) [109] [dN hi, dB tb nm bi ba] = none := by
  simp [msgR, nm_m, hasN, getN, inB, fieldsR, frT, orM, ifM, natS_two]
theorem twoR_start (tb : Nat) (nm : List UInt8) (hi bi ba : Int) (A : Option Addr) (n : Nat) : twoR none none [120] [dN hi, dB tb nm bi ba] A n = some (-1, -1, 11) := by
  simp [twoR, defR, nm_d, inB, msgsR, msgR_ok, orD, ifD, defE, stepN, setN, hasN, getN]

/-- The third field: a list of the message itself. -/
def dL : FieldD := { name := [108], kind := 7, bits := 0, little := false, loose := false, low := 0, high := 0, base := 0, ta := none, tc := 0, terms := [], of_ := [109], tag := [], from_ := [], ca := none, cc := 0, cases := [], check := 0, key := 0 }
theorem Try.entList : ∀ args w, (callFunc 87 args).run Try.prog w = .ok (.enter 87 args) w := enters_of Try.func87 (by kernel_rfl) rfl
theorem nested_dL : nestedR [] dL = some 8 := by rfl
theorem fieldL_res (B : List FieldD) (hB : B.any (fun e => e.name == [108]) = false) : fieldR B dL false (some 8) = some 8 := by
  simp [fieldR, dL, nm_l, hB, ifR, orR]
theorem fieldL (x kr kk c : Nat) (m f : Int) (A : Option Addr) (B : List FieldD) (S : Nat → Prop) (w : World) (hx : ExAt w x m f kr A B.length c kk) (hB : SlAt FieldD.cells 15 S w A c B) (hk : MapI w kk (condE (.pointer (some ⟨x, 0, none⟩)))) (hm : MapAt w kr (natE [])) :
    Calls Try.prog 114 #[.pointer (some ⟨x, 0, none⟩), dL.agg] w fun e w' => e = doE (fieldR B dL false (some 8)) m f ∧ Below w.heap.size w w' :=
  field_any x kr kk c m f A B dL S w hx hB hk 87 Try.entList rfl false (fun wx => spare_7 dL false wx rfl (fun w => by simp [outC7, outZ7, dL, go_sem, strL_toList])) (some 8) (fun wx hb => by
    have := list_of (d := dL) [] none (hx.below hb hx.lt) (hm.below hb hm.lt) (fun h => by rw [nested_dL] at h; cases h)
    rw [nested_dL] at this
    exact this)

def frL (i : Nat) (_ : FieldD) : Option Int := if i = 2 then some 8 else none
theorem msgR_at2 (x y z : FieldD) : msgR [] frL [109] [x, y, z] = some (2, 8) := by
  simp [msgR, nm_m, hasN, getN, inB, fieldsR, frL, orM, ifM]
def threeD (tb : Nat) : List FieldD := [dN 255, dB tb [98] 0 0, dL]
theorem defR_three (tb : Nat) (st : List UInt8) (A : Option Addr) (n : Nat) : defR (fun _ _ mm => msgR [] frL mm.name mm.fields) [100] [⟨[109], A, n, threeD tb⟩] st = some (0, 2, 8) := by
  simp [defR, nm_d, inB, msgsR, threeD, msgR_at2, orD, ifD]

set_option maxHeartbeats 800000 in
theorem msg_three (tb : Nat) (x kr kk n0 c0 c : Nat) (m : Int) (A0 A : Option Addr) (S : Nat → Prop) (w : World)
    (hx : ExAt w x m (-1) kr A0 n0 c0 kk) (hm : MapAt w kr (natE [])) (hk : MapI w kk (condE (.pointer (some ⟨x, 0, none⟩)))) (hxk : x ≠ kr) (hkx : kk ≠ x)
    (h : SlAt FieldD.cells 15 S w A c (threeD tb)) (hSx : S x) (hSk : S kr) (ht : SlAt TermD.cells 2 S w (some ⟨tb, 0, none⟩) 1 [⟨[110], 1⟩]) :
    Calls Try.prog 95 #[.pointer (some ⟨x, 0, none⟩), .agg #[.string (strL [109]), .slice A 3 c]] w fun e w' => e = doM (msgR [] frL [109] (threeD tb)) m ∧ Rest (fun k => k = x ∨ k = kr) w w' ∧ (msgR [] frL [109] (threeD tb) = none → MapAt w' kr (natE (setN [] [109] (natS [] (threeD tb)))) ∧ ∃ A' n' c', ExAt w' x m (-1) kr A' n' c' kk) := by
  have hc : 3 ≤ c := h.1
  refine message_any x kr kk n0 c0 m 0 A0 [109] A c (threeD tb) S [] frL w hx hm hxk h hSx hSk (fun s => by simp [getN]) (fun _ hn => by cases hn) (fun i d wx hd hp hr hex => ?_) (fun hn _ _ _ _ => by cases hn)
  have hkx' := hk.rest hr hkx
  have hS := h.rest hr (fun k _ e => by rw [e]; exact hSx)
  have hmx := hm.rest hr (fun e => hxk e.symm)
  match i, hd, hp, hex with
  | 0, hd, hp, hex =>
    simp only [threeD, List.getElem?_cons_zero, Option.some.injEq] at hd
    subst hd
    have := fieldN 255 x kr kk c m ((0 : Nat) : Int) A S wx hex (hS.take 0 c (Nat.zero_le _) hS.2.1) hkx'
    rw [fieldN_ok] at this
    exact this
  | 1, hd, hp, hex =>
    simp only [threeD, List.getElem?_cons_succ, List.getElem?_cons_zero, Option.some.injEq] at hd
    subst hd
    have := fieldB 255 0 0 [98] tb false x kr kk c m ((1 : Nat) : Int) A S wx hex (hS.take 1 c (by omega) hS.2.1) hkx' (ht.rest hr (fun k _ e => by rw [e]; exact hSx)) valid_ba0 allow_255 (spB_ok tb [98] 0)
    rw [fieldB_ok] at this
    exact this
  | 2, hd, hp, hex =>
    simp only [threeD, List.getElem?_cons_succ, List.getElem?_cons_zero, Option.some.injEq] at hd
    subst hd
    have := fieldL x kr kk c m ((2 : Nat) : Int) A [dN 255, dB tb [98] 0 0] S wx hex (hS.take 2 c (by omega) hS.2.1) hkx' hmx
    rw [fieldL_res _ (by rfl)] at this
    exact this
  | i + 3, hd, _, _ => simp [threeD] at hd

set_option maxHeartbeats 800000 in
theorem examine_three (st : List UInt8) (tb mb c : Nat) (A : Option Addr) (w : World)
    (hms : SlAt MsgD.cells 2 (fun k => w.heap.size ≤ k) w (some ⟨mb, 0, none⟩) 1 [⟨[109], A, c, threeD tb⟩])
    (h : SlAt FieldD.cells 15 (fun k => w.heap.size ≤ k) w A c (threeD tb)) (ht : SlAt TermD.cells 2 (fun k => w.heap.size ≤ k) w (some ⟨tb, 0, none⟩) 1 [⟨[110], 1⟩]) :
    Calls Try.prog 59 #[.agg #[.string (strL [100]), .slice (some ⟨mb, 0, none⟩) 1 1, .string (strL st)]] w (ExPost (some (0, 2, 8)) (defE [⟨[109], A, c, threeD tb⟩]) w) := by
  rw [← defR_three tb st A c]
  refine examine_any [100] st (some ⟨mb, 0, none⟩) 1 [⟨[109], A, c, threeD tb⟩] _ (fun _ _ mm => msgR [] frL mm.name mm.fields) w hms (fun x kr kk hx hkr hxk i mm wx hd _ _ hb hex hm hki hkx hkk => ?_)
  match i, hd, hex, hm with
  | 0, hd, hex, hm =>
    simp only [List.getElem?_cons_zero, Option.some.injEq] at hd
    subst hd
    obtain ⟨A', n', c', hex⟩ := hex
    exact msg_three tb x kr kk n' c' c _ A' A (fun k => w.heap.size ≤ k) wx hex hm hki hxk hkx (h.below hb) hx hkr (ht.below hb)
  | i + 1, hd, _, _ => simp at hd
end Go.Proofs.Ytbpkppmbbpoohaa
