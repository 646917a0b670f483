/- The two fields of the law's definition in an examination. Conditions: the examination and what lies before lie in memory. -/
import Derived.Test.YteibnmnpebfefaaJl
import Derived.Test.YteibnmnpebfefaaJb
namespace Go.Proofs.Yteibnmnpebfefaa
open Go.RowKit Go.Shelf

def dN (hi : Int) : FieldD := { name := [110], kind := 1, bits := 8, little := false, loose := false, low := 0, high := hi, base := 0, ta := none, tc := 0, terms := [], of_ := [], tag := [], from_ := [], ca := none, cc := 0, cases := [], check := 0, key := 0 }
def dB (tb : Nat) (nm : List UInt8) (bi ba : Int) : FieldD := { name := nm, kind := 4, bits := bi, little := false, loose := false, low := 0, high := 0, base := ba, ta := some ⟨tb, 0, none⟩, tc := 1, terms := [⟨[110], 1⟩], of_ := [], tag := [], from_ := [], ca := none, cc := 0, cases := [], check := 0, key := 0 }
theorem Try.entUns : ∀ args w, (callFunc 81 args).run Try.prog w = .ok (.enter 81 args) w := enters_of Try.func81 (by kernel_rfl) rfl
theorem Try.entSize : ∀ args w, (callFunc 84 args).run Try.prog w = .ok (.enter 84 args) w := enters_of Try.func84 (by kernel_rfl) rfl

theorem fieldN (hi : Int) (x kr kk c : Nat) (m f : Int) (A : Option Addr) (S : Nat → Prop) (w : World) (hx : ExAt w x m f kr A 0 c kk) (hB : SlAt FieldD.cells 15 S w A c []) (hk : MapI w kk (condE (.pointer (some ⟨x, 0, none⟩)))) :
    Calls Try.prog 114 #[.pointer (some ⟨x, 0, none⟩), (dN hi).agg] w fun e w' => e = doE (fieldR [] (dN hi) false (unsR (dN hi))) m f ∧ Below w.heap.size w w' :=
  field_any x kr kk c m f A [] (dN hi) S w hx hB hk 81 Try.entUns rfl false (fun wx => spare_1 (dN hi) false wx rfl (fun w => by simp [outC1, outZ1, dN, go_sem, strL_toList])) (unsR (dN hi)) (fun wx hb => unsigned_any x kr kk 0 c m f A (dN hi) wx (hx.below hb hx.lt))

theorem slAt_term {W : World} {tb : Nat} (S : Nat → Prop) (hS : ¬ S tb) (h : W.heap[tb]? = some (.cells #[.string ⟨#[110]⟩, .int .i64 1] 76 (0, 0))) : SlAt TermD.cells 2 S W (some ⟨tb, 0, none⟩) 1 [⟨[110], 1⟩] := by
  refine ⟨Nat.le_refl _, by omega, fun i d hi => ?_⟩
  have h0 : i = 0 := by
    have := (List.getElem?_eq_some_iff.1 hi).1
    simp at this; omega
  subst h0
  simp only [List.getElem?_cons_zero, Option.some.injEq] at hi
  subst hi
  refine ⟨tb, 0, rfl, hS, fun j u hu => ?_⟩
  match j, hu with
  | 0, hu =>
    simp only [TermD.cells, List.getElem?_cons_zero, Option.some.injEq] at hu
    subst hu
    simp [World.cell?, h]
    rfl
  | 1, hu =>
    simp only [TermD.cells, List.getElem?_cons_succ, List.getElem?_cons_zero, Option.some.injEq] at hu
    subst hu
    simp [World.cell?, h]
  | j + 2, hu => simp [TermD.cells] at hu

theorem fieldB (hi bi ba : Int) (nm : List UInt8) (tb : Nat) (SP : Bool) (x kr kk c : Nat) (m f : Int) (A : Option Addr) (S : Nat → Prop) (w : World) (hx : ExAt w x m f kr A 1 c kk) (hB : SlAt FieldD.cells 15 S w A c [dN hi]) (hk : MapI w kk (condE (.pointer (some ⟨x, 0, none⟩))))
    (ht : SlAt TermD.cells 2 S w (some ⟨tb, 0, none⟩) 1 [⟨[110], 1⟩]) (hv : validS ba [⟨[110], 1⟩] = true) (ha : allowP (0, hi) = true) (hsp : ∀ w, (binOp .neq 128 (outC4 (dB tb nm bi ba)) (outZ4 (dB tb nm bi ba))).run Try.prog w = .ok (.bool SP) w) :
    Calls Try.prog 114 #[.pointer (some ⟨x, 0, none⟩), (dB tb nm bi ba).agg] w fun e w' => e = doE (fieldR [dN hi] (dB tb nm bi ba) SP (sizeR (ransP [dN hi]) (dB tb nm bi ba))) m f ∧ Below w.heap.size w w' :=
  field_any x kr kk c m f A [dN hi] (dB tb nm bi ba) S w hx hB hk 84 Try.entSize rfl SP (fun wx => spare_4 (dB tb nm bi ba) SP wx rfl hsp) (sizeR (ransP [dN hi]) (dB tb nm bi ba)) (fun wx hb => exSize_ok x kr kk c m f A [dN hi] (dB tb nm bi ba) S wx (hx.below hb hx.lt) (hB.below hb) (ht.below hb) hv (fun t h => by
    have h2 : t = ⟨[110], 1⟩ := by simpa [dB] using h
    subst h2
    exact ⟨(0, hi), rfl, ha⟩))

theorem spB_ok (tb : Nat) (nm : List UInt8) (ba : Int) (w : World) : (binOp .neq 128 (outC4 (dB tb nm 0 ba)) (outZ4 (dB tb nm 0 ba))).run Try.prog w = .ok (.bool false) w := by simp [outC4, outZ4, dB, go_sem, strL_toList]
theorem spB_bad (tb : Nat) (nm : List UInt8) (ba : Int) (w : World) : (binOp .neq 128 (outC4 (dB tb nm 8 ba)) (outZ4 (dB tb nm 8 ba))).run Try.prog w = .ok (.bool true) w := by simp [outC4, outZ4, dB, go_sem, strL_toList]
theorem fieldB_ok (tb : Nat) : fieldR [dN 255] (dB tb [98] 0 0) false (sizeR (ransP [dN 255]) (dB tb [98] 0 0)) = none := by rfl
theorem fieldB_base (tb : Nat) : fieldR [dN 255] (dB tb [98] 0 (-1)) false (sizeR (ransP [dN 255]) (dB tb [98] 0 (-1))) = some 9 := by rfl
theorem fieldB_twice (tb : Nat) : fieldR [dN 255] (dB tb [110] 0 0) false (sizeR (ransP [dN 255]) (dB tb [110] 0 0)) = some 2 := by rfl
theorem fieldB_bits (tb : Nat) : fieldR [dN 255] (dB tb [98] 8 0) true (sizeR (ransP [dN 255]) (dB tb [98] 8 0)) = some 5 := by rfl
theorem valid_ba0 : validS 0 [⟨[110], 1⟩] = true := by decide
theorem valid_ba1 : validS (-1) [⟨[110], 1⟩] = true := by decide
theorem allow_255 : allowP (0, 255) = true := by decide
theorem uns_ok : unsR (dN 255) = none := by decide
theorem uns_bad : unsR (dN 256) = some 7 := by decide
theorem fieldN_ok : fieldR [] (dN 255) false (unsR (dN 255)) = none := by decide
theorem fieldN_bad : fieldR [] (dN 256) false (unsR (dN 256)) = some 7 := by decide
end Go.Proofs.Yteibnmnpebfefaa
