/- What an examination has passed; nested; the numbers of KindUint. Conditions: the examination lies in memory. -/
import Derived.Test.YtbpkppmbbpoohaaGreatRg
import Derived.StillTailTactics
namespace Go.Proofs.YtbpkppmbbpoohaaGreat
open Go.RowKit Go.Shelf

/-- The nature of a message: its depth, whether it is strict. -/
def natV (p : Int × Bool) : Value := .agg #[.int .i64 p.1, .bool p.2]
theorem Tryz.zeroNat (w : World) : (zeroValue 123).run Tryz.prog w = .ok (.agg #[.int .i64 0, .bool false]) w := by kernel_rfl
theorem Tryz.zeroRan (w : World) : (zeroValue 80).run Tryz.prog w = .ok (.agg #[.int .i64 0, .int .i64 0]) w := by kernel_rfl
theorem Tryz.ustr : Tryz.prog.underlying 9 = some .string := by kernel_rfl

abbrev Nats := List (List UInt8 × (Int × Bool))
def natE (E : Nats) : Ents := E.map fun p => (p.1, natV p.2)
def getN : Nats → List UInt8 → Option (Int × Bool)
  | [], _ => none
  | p :: E, k => if p.1 = k then some p.2 else getN E k
def hasN (E : Nats) (k : List UInt8) : Bool := (getN E k).isSome
theorem getE_nat (E : Nats) (k : List UInt8) : getE (natE E) k = (getN E k).map natV := by
  induction E with
  | nil => rfl
  | cons p E ih =>
    simp only [natE, List.map_cons, getE, getN]
    split
    · rfl
    · exact ih
theorem hasE_nat (E : Nats) (k : List UInt8) : hasE (natE E) k = hasN E k := by
  unfold hasE hasN
  rw [getE_nat]
  cases getN E k <;> rfl

section
variable (x kr kk n cc : Nat) (m f : Int) (A : Option Addr) (d : FieldD) (w : World)
set_option maxRecDepth 100000 in
set_option maxHeartbeats 1600000 in
theorem passed_any (E : Nats) (s : List UInt8) (hx : ExAt w x m f kr A n cc kk) (hm : MapAt w kr (natE E)) : Calls Tryz.prog 118 #[.pointer (some ⟨x, 0, none⟩), .string (strL s)] w fun e w' => e = .returned (.bool (hasN E s)) ∧ Below w.heap.size w w' := by
  have c3 := hx.c3
  have hrun := run_look_ok (P := Tryz.prog) Tryz.underlying88 Tryz.ustr (Tryz.zeroNat w) hm s
  obtain ⟨o, ho⟩ : ∃ o, getN E s = o := ⟨_, rfl⟩
  have hz : ((getE (natE E) s).getD (.agg #[.int .i64 0, .bool false])) = .agg #[.int .i64 (o.getD (0, false)).1, .bool (o.getD (0, false)).2] := by
    rw [getE_nat, ho]
    cases o <;> rfl
  have hh : hasE (natE E) s = o.isSome := by rw [hasE_nat]; unfold hasN; rw [ho]
  have hR : hasN E s = o.isSome := by unfold hasN; rw [ho]
  rw [hz, hh] at hrun
  rw [hR]
  generalize (o.getD (0, false)).1 = v0 at hrun
  generalize (o.getD (0, false)).2 = v1 at hrun
  generalize o.isSome = v2 at hrun
  have hal := below_alloc w (.cells #[.int .i64 v0, .bool v1] 123)
  have HAL := Lib.hid hal
  clear hx hm hz hh hR ho hal
  go_enter Tryz.func118, Tryz.ntmps118
  go_wp2
  go_ret
  exact ⟨rfl, HAL.out⟩

def nestedR (E : Nats) (d : FieldD) : Option Int := ifR (hasN E d.of_) 8
set_option maxRecDepth 100000 in
set_option maxHeartbeats 1600000 in
theorem nested_any (E : Nats) (hx : ExAt w x m f kr A n cc kk) (hm : MapAt w kr (natE E)) : Calls Tryz.prog 110 #[.pointer (some ⟨x, 0, none⟩), d.agg] w fun e w' => e = doE (nestedR E d) m f ∧ Below w.heap.size w w' := by
  unfold FieldD.agg
  have hm0 := hm
  have hal := below_alloc w (.cells #[.string (strL d.name), .int .i64 d.kind, .int .i64 d.bits, .bool d.little, .bool d.loose, .int .i64 d.low, .int .i64 d.high, .int .i64 d.base, .slice d.ta d.terms.length d.tc, .string (strL d.of_), .string (strL d.tag), .string (strL d.from_), .slice d.ca d.cases.length d.cc, .int .i64 d.check, .int .i64 d.key] 55)
  have hbx := FBox.new w d
  have hx1 := hx.below hal hx.lt
  obtain ⟨b, eb⟩ : ∃ b, w.heap.size = b := ⟨_, rfl⟩
  obtain ⟨w1, hw1⟩ : ∃ w1, w.alloc (.cells #[.string (strL d.name), .int .i64 d.kind, .int .i64 d.bits, .bool d.little, .bool d.loose, .int .i64 d.low, .int .i64 d.high, .int .i64 d.base, .slice d.ta d.terms.length d.tc, .string (strL d.of_), .string (strL d.tag), .string (strL d.from_), .slice d.ca d.cases.length d.cc, .int .i64 d.check, .int .i64 d.key] 55) = w1 := ⟨_, rfl⟩
  rw [hw1] at hal hbx hx1
  rw [eb] at hbx
  have HW := Lib.hid hw1
  have EB := Lib.hid eb
  have HAL := Lib.hid hal
  have HBX := Lib.hid hbx
  have HX := Lib.hid hx1
  clear hal hbx hx1 eb hw1 hx
  have y9 := HBX.out.c9
  have hm1 := hm0.below HAL.out hm0.lt
  have HP := Lib.hid (passed_any x kr kk n cc m f A w1 E d.of_ HX.out hm1)
  obtain ⟨bv, hbv⟩ : ∃ bv, hasN E d.of_ = bv := ⟨_, rfl⟩
  rw [hbv] at HP
  have HD : ∀ wx, Below w1.heap.size w1 wx → Hid (Calls Tryz.prog 115 #[.pointer (some ⟨x, 0, none⟩), .bool bv, .int .i64 8] wx fun e w' => e = doE (ifR bv 8) m f ∧ Below wx.heap.size wx w') := fun wx hb => Lib.hid (demand_any x kr kk n cc m f A bv 8 wx (HX.out.below hb HX.out.lt))
  have hR : nestedR E d = ifR bv 8 := by unfold nestedR; rw [hbv]
  rw [hR]
  clear hm hm0 hm1 hbv hR
  cases bv with
  | true =>
    unfold ifR doE at HD ⊢
    simp only [if_true] at HD ⊢
    go_enter Tryz.func110, Tryz.ntmps110
    go_upto_region 1 with fail
    rw [HW.out, EB.out]
    go_wp2_with fail
    refine HP.out.mono ?_
    rintro e w2 ⟨rfl, hb2⟩
    have HB2 := Lib.hid hb2
    clear hb2
    go_wp2_with fail
    refine ((HD _ HB2.out).out).mono ?_
    rintro e w3 ⟨rfl, hb3⟩
    have HB3 := Lib.hid (HAL.out.trans ((HB2.out.trans (hb3.mono HB2.out.size)).mono HAL.out.size))
    clear hb3
    go_wp2_with fail
    go_end0
    exact ⟨rfl, HB3.out⟩
  | false =>
    unfold ifR doE flawE at HD ⊢
    simp only [Bool.false_eq_true, if_false] at HD ⊢
    go_enter Tryz.func110, Tryz.ntmps110
    go_upto_region 1 with fail
    rw [HW.out, EB.out]
    go_wp2_with fail
    refine HP.out.mono ?_
    rintro e w2 ⟨rfl, hb2⟩
    have HB2 := Lib.hid hb2
    clear hb2
    go_wp2_with fail
    refine ((HD _ HB2.out).out).mono ?_
    rintro e w3 ⟨rfl, hb3⟩
    exact ⟨rfl, rfl, HAL.out.trans ((HB2.out.trans (hb3.mono HB2.out.size)).mono HAL.out.size)⟩

def littleB (d : FieldD) : Bool := !d.little || d.bits == 16 || d.bits == 24 || d.bits == 32
def unsR (d : FieldD) : Option Int := orR (ifR (inB d.bits 1 32) 6) (orR (ifR (littleB d) 6) (belowR ((2 : Int) ^ d.bits.toNat) d))

set_option maxRecDepth 100000 in
set_option maxHeartbeats 3200000 in
theorem unsigned_any (hx : ExAt w x m f kr A n cc kk) : Calls Tryz.prog 103 #[.pointer (some ⟨x, 0, none⟩), d.agg] w fun e w' => e = doE (unsR d) m f ∧ Below w.heap.size w w' := by
  unfold FieldD.agg
  have hal := below_alloc w (.cells #[.string (strL d.name), .int .i64 d.kind, .int .i64 d.bits, .bool d.little, .bool d.loose, .int .i64 d.low, .int .i64 d.high, .int .i64 d.base, .slice d.ta d.terms.length d.tc, .string (strL d.of_), .string (strL d.tag), .string (strL d.from_), .slice d.ca d.cases.length d.cc, .int .i64 d.check, .int .i64 d.key] 55)
  have hbx := FBox.new w d
  have hx1 := hx.below hal hx.lt
  obtain ⟨b, eb⟩ : ∃ b, w.heap.size = b := ⟨_, rfl⟩
  obtain ⟨w1, hw1⟩ : ∃ w1, w.alloc (.cells #[.string (strL d.name), .int .i64 d.kind, .int .i64 d.bits, .bool d.little, .bool d.loose, .int .i64 d.low, .int .i64 d.high, .int .i64 d.base, .slice d.ta d.terms.length d.tc, .string (strL d.of_), .string (strL d.tag), .string (strL d.from_), .slice d.ca d.cases.length d.cc, .int .i64 d.check, .int .i64 d.key] 55) = w1 := ⟨_, rfl⟩
  rw [hw1] at hal hbx hx1
  rw [eb] at hbx
  have HW := Lib.hid hw1
  have EB := Lib.hid eb
  have HAL := Lib.hid hal
  have HBX := Lib.hid hbx
  have HX := Lib.hid hx1
  clear hal hbx hx1 eb hw1 hx
  have KB : Hid (∀ wx, Below w1.heap.size w1 wx → FBox wx b d ∧ ExAt wx x m f kr A n cc kk) := Lib.hid (fun wx hb => ⟨HBX.out.below hb HBX.out.lt, HX.out.below hb HX.out.lt⟩)
  have y2 := HBX.out.c2
  have HI := fun w => Lib.hid (withinS d.bits 1 32 w)
  have HDM : ∀ bv wx, Below w1.heap.size w1 wx → Hid (Calls Tryz.prog 115 #[.pointer (some ⟨x, 0, none⟩), .bool bv, .int .i64 6] wx fun e w' => e = doE (ifR bv 6) m f ∧ Below wx.heap.size wx w') := fun bv wx hb => Lib.hid (demand_any x kr kk n cc m f A bv 6 wx (KB.out wx hb).2)
  obtain ⟨R, hR⟩ : ∃ R, unsR d = R := ⟨_, rfl⟩
  rw [hR]
  have HR := Lib.hid hR
  clear hR
  cases hc : inB d.bits 1 32 with
  | false =>
    rw [hc] at HI
    have hRn : R = some 6 := by rw [← HR.out]; unfold unsR; rw [hc]; rfl
    have HRN := Lib.hid hRn
    have HD := Lib.hid (HDM false w1 (Below.refl _ _)).out
    unfold ifR doE flawE at HD
    simp only [Bool.false_eq_true, if_false] at HD
    clear hRn hc HDM
    go_enter Tryz.func103, Tryz.ntmps103
    go_upto_region 1 with fail
    rw [HW.out, EB.out]
    go_wp2_with (go_at_call 102; refine ((HI _).out).mono ?_; rintro e w' ⟨rfl, rfl⟩)
    refine HD.out.mono ?_
    rintro e w2 ⟨rfl, hb2⟩
    exact ⟨rfl, by rw [HRN.out]; rfl, HAL.out.trans (hb2.mono HAL.out.size)⟩
  | true =>
    rw [hc] at HI
    have hb : 1 ≤ d.bits ∧ d.bits ≤ 32 := by simpa [inB] using hc
    obtain ⟨hb1, hb2⟩ := hb
    have HD1 := Lib.hid (HDM true w1 (Below.refl _ _)).out
    unfold ifR doE at HD1
    simp only [if_true] at HD1
    obtain ⟨lv, hlv⟩ : ∃ lv, littleB d = lv := ⟨_, rfl⟩
    have hRn : R = orR (ifR lv 6) (belowR ((2 : Int) ^ d.bits.toNat) d) := by rw [← HR.out]; unfold unsR; rw [hc, hlv]; rfl
    have HRN := Lib.hid hRn
    have HC := Lib.hid hc
    obtain ⟨s16, e16⟩ : ∃ s, (d.bits == 16) = s := ⟨_, rfl⟩
    obtain ⟨s24, e24⟩ : ∃ s, (d.bits == 24) = s := ⟨_, rfl⟩
    obtain ⟨s32, e32⟩ : ∃ s, (d.bits == 32) = s := ⟨_, rfl⟩
    obtain ⟨li, eli⟩ : ∃ li, d.little = li := ⟨_, rfl⟩
    have hl2 : lv = (!li || s16 || s24 || s32) := by rw [← hlv]; unfold littleB; rw [eli, e16, e24, e32]
    have ELI := Lib.hid eli
    obtain ⟨P2, hP2⟩ : ∃ P2, (2 : Int) ^ d.bits.toNat = P2 := ⟨_, rfl⟩
    have HP2 := Lib.hid hP2
    clear hRn hlv HR hc eli hP2
    have HBL := fun wx hb => Lib.hid (below_any x kr kk n cc m f A d wx P2 (KB.out wx hb).2)
    unfold FieldD.agg at HBL
    rw [HP2.out] at HRN
    have e2 : IntKind.i64.wrap ((2 : Int) ^ d.bits.toNat) = P2 := by
      rw [← HP2.out]
      exact (by decide : ∀ n : Nat, n < 33 → IntKind.i64.wrap ((2 : Int) ^ n) = (2 : Int) ^ n) _ (by omega)
    obtain ⟨br, hbr⟩ : ∃ br, belowR P2 d = br := ⟨_, rfl⟩
    rw [hbr] at HBL HRN
    clear hbr
    have hcs : (li = false ∧ lv = true) ∨ (li = true ∧ s16 = true ∧ lv = true) ∨ (li = true ∧ s16 = false ∧ s24 = true ∧ lv = true) ∨ (li = true ∧ s16 = false ∧ s24 = false ∧ s32 = true ∧ lv = true) ∨ (li = true ∧ s16 = false ∧ s24 = false ∧ s32 = false ∧ lv = false) := by
      rw [hl2]
      cases li <;> cases s16 <;> cases s24 <;> cases s32 <;> simp
    clear hl2
    rcases hcs with ⟨rfl, rfl⟩ | ⟨rfl, rfl, rfl⟩ | ⟨rfl, rfl, rfl, rfl⟩ | ⟨rfl, rfl, rfl, rfl, rfl⟩ | ⟨rfl, rfl, rfl, rfl, rfl⟩
    · go_enter Tryz.func103, Tryz.ntmps103
      go_upto_region 1 with fail
      rw [HW.out, EB.out]
      go_wp2_with (go_at_call 102; refine ((HI _).out).mono ?_; rintro e w' ⟨rfl, rfl⟩)
      refine HD1.out.mono ?_
      rintro e w2 ⟨rfl, hb2'⟩
      have HB2 := Lib.hid hb2'
      have hk1 := (KB.out w2 hb2').1
      have z2 := hk1.c2
      have z3 := hk1.c3
      rw [ELI.out] at z3
      clear hb2' hk1
      go_wp2_with fail
      have HD2 := Lib.hid (HDM true w2 HB2.out).out
      unfold ifR doE at HD2
      simp only [if_true] at HD2
      refine HD2.out.mono ?_
      rintro e w3 ⟨rfl, hb3⟩
      have HB3 := Lib.hid (HB2.out.trans (hb3.mono HB2.out.size))
      have hk3 := (KB.out w3 HB3.out).1
      have q0 := hk3.c0
      have q1 := hk3.c1
      have q2 := hk3.c2
      have q3 := hk3.c3
      have q4 := hk3.c4
      have q5 := hk3.c5
      have q6 := hk3.c6
      have q7 := hk3.c7
      have q8 := hk3.c8
      have q9 := hk3.c9
      have q10 := hk3.c10
      have q11 := hk3.c11
      have q12 := hk3.c12
      have q13 := hk3.c13
      have q14 := hk3.c14
      clear hb3 z2 z3 hk3 e16 e24 e32
      go_upto_region 3 with fail
      go_still_tail 5, (by kernel_rfl)
      change wpList _ _ _ _ _ w3.drew
      go_wp2_with fail
      refine ((HBL _ HB3.out.drew).out).mono ?_
      rintro e w4 ⟨rfl, hb4⟩
      have HB4 := Lib.hid (HAL.out.trans ((HB3.out.trans ((Below.refl w3.heap.size w3).drew.trans hb4 |>.mono HB3.out.size)).mono HAL.out.size))
      clear hb4
      cases br with
      | none =>
        dsimp only [doE]
        go_wp2_with fail
        go_end0
        exact ⟨by rw [HRN.out]; rfl, HB4.out⟩
      | some c =>
        dsimp only [doE, flawE]
        exact ⟨rfl, by rw [HRN.out]; rfl, HB4.out⟩
    · go_enter Tryz.func103, Tryz.ntmps103
      go_upto_region 1 with fail
      rw [HW.out, EB.out]
      go_wp2_with (go_at_call 102; refine ((HI _).out).mono ?_; rintro e w' ⟨rfl, rfl⟩)
      refine HD1.out.mono ?_
      rintro e w2 ⟨rfl, hb2'⟩
      have HB2 := Lib.hid hb2'
      have hk1 := (KB.out w2 hb2').1
      have z2 := hk1.c2
      have z3 := hk1.c3
      rw [ELI.out] at z3
      clear hb2' hk1
      go_wp2_with fail
      have HD2 := Lib.hid (HDM true w2 HB2.out).out
      unfold ifR doE at HD2
      simp only [if_true] at HD2
      refine HD2.out.mono ?_
      rintro e w3 ⟨rfl, hb3⟩
      have HB3 := Lib.hid (HB2.out.trans (hb3.mono HB2.out.size))
      have hk3 := (KB.out w3 HB3.out).1
      have q0 := hk3.c0
      have q1 := hk3.c1
      have q2 := hk3.c2
      have q3 := hk3.c3
      have q4 := hk3.c4
      have q5 := hk3.c5
      have q6 := hk3.c6
      have q7 := hk3.c7
      have q8 := hk3.c8
      have q9 := hk3.c9
      have q10 := hk3.c10
      have q11 := hk3.c11
      have q12 := hk3.c12
      have q13 := hk3.c13
      have q14 := hk3.c14
      clear hb3 z2 z3 hk3 e16 e24 e32
      go_upto_region 3 with fail
      go_still_tail 5, (by kernel_rfl)
      change wpList _ _ _ _ _ w3.drew
      go_wp2_with fail
      refine ((HBL _ HB3.out.drew).out).mono ?_
      rintro e w4 ⟨rfl, hb4⟩
      have HB4 := Lib.hid (HAL.out.trans ((HB3.out.trans ((Below.refl w3.heap.size w3).drew.trans hb4 |>.mono HB3.out.size)).mono HAL.out.size))
      clear hb4
      cases br with
      | none =>
        dsimp only [doE]
        go_wp2_with fail
        go_end0
        exact ⟨by rw [HRN.out]; rfl, HB4.out⟩
      | some c =>
        dsimp only [doE, flawE]
        exact ⟨rfl, by rw [HRN.out]; rfl, HB4.out⟩
    · go_enter Tryz.func103, Tryz.ntmps103
      go_upto_region 1 with fail
      rw [HW.out, EB.out]
      go_wp2_with (go_at_call 102; refine ((HI _).out).mono ?_; rintro e w' ⟨rfl, rfl⟩)
      refine HD1.out.mono ?_
      rintro e w2 ⟨rfl, hb2'⟩
      have HB2 := Lib.hid hb2'
      have hk1 := (KB.out w2 hb2').1
      have z2 := hk1.c2
      have z3 := hk1.c3
      rw [ELI.out] at z3
      clear hb2' hk1
      go_wp2_with fail
      have HD2 := Lib.hid (HDM true w2 HB2.out).out
      unfold ifR doE at HD2
      simp only [if_true] at HD2
      refine HD2.out.mono ?_
      rintro e w3 ⟨rfl, hb3⟩
      have HB3 := Lib.hid (HB2.out.trans (hb3.mono HB2.out.size))
      have hk3 := (KB.out w3 HB3.out).1
      have q0 := hk3.c0
      have q1 := hk3.c1
      have q2 := hk3.c2
      have q3 := hk3.c3
      have q4 := hk3.c4
      have q5 := hk3.c5
      have q6 := hk3.c6
      have q7 := hk3.c7
      have q8 := hk3.c8
      have q9 := hk3.c9
      have q10 := hk3.c10
      have q11 := hk3.c11
      have q12 := hk3.c12
      have q13 := hk3.c13
      have q14 := hk3.c14
      clear hb3 z2 z3 hk3 e16 e24 e32
      go_upto_region 3 with fail
      go_still_tail 5, (by kernel_rfl)
      change wpList _ _ _ _ _ w3.drew
      go_wp2_with fail
      refine ((HBL _ HB3.out.drew).out).mono ?_
      rintro e w4 ⟨rfl, hb4⟩
      have HB4 := Lib.hid (HAL.out.trans ((HB3.out.trans ((Below.refl w3.heap.size w3).drew.trans hb4 |>.mono HB3.out.size)).mono HAL.out.size))
      clear hb4
      cases br with
      | none =>
        dsimp only [doE]
        go_wp2_with fail
        go_end0
        exact ⟨by rw [HRN.out]; rfl, HB4.out⟩
      | some c =>
        dsimp only [doE, flawE]
        exact ⟨rfl, by rw [HRN.out]; rfl, HB4.out⟩
    · go_enter Tryz.func103, Tryz.ntmps103
      go_upto_region 1 with fail
      rw [HW.out, EB.out]
      go_wp2_with (go_at_call 102; refine ((HI _).out).mono ?_; rintro e w' ⟨rfl, rfl⟩)
      refine HD1.out.mono ?_
      rintro e w2 ⟨rfl, hb2'⟩
      have HB2 := Lib.hid hb2'
      have hk1 := (KB.out w2 hb2').1
      have z2 := hk1.c2
      have z3 := hk1.c3
      rw [ELI.out] at z3
      clear hb2' hk1
      go_wp2_with fail
      have HD2 := Lib.hid (HDM true w2 HB2.out).out
      unfold ifR doE at HD2
      simp only [if_true] at HD2
      refine HD2.out.mono ?_
      rintro e w3 ⟨rfl, hb3⟩
      have HB3 := Lib.hid (HB2.out.trans (hb3.mono HB2.out.size))
      have hk3 := (KB.out w3 HB3.out).1
      have q0 := hk3.c0
      have q1 := hk3.c1
      have q2 := hk3.c2
      have q3 := hk3.c3
      have q4 := hk3.c4
      have q5 := hk3.c5
      have q6 := hk3.c6
      have q7 := hk3.c7
      have q8 := hk3.c8
      have q9 := hk3.c9
      have q10 := hk3.c10
      have q11 := hk3.c11
      have q12 := hk3.c12
      have q13 := hk3.c13
      have q14 := hk3.c14
      clear hb3 z2 z3 hk3 e16 e24 e32
      go_upto_region 3 with fail
      go_still_tail 5, (by kernel_rfl)
      change wpList _ _ _ _ _ w3.drew
      go_wp2_with fail
      refine ((HBL _ HB3.out.drew).out).mono ?_
      rintro e w4 ⟨rfl, hb4⟩
      have HB4 := Lib.hid (HAL.out.trans ((HB3.out.trans ((Below.refl w3.heap.size w3).drew.trans hb4 |>.mono HB3.out.size)).mono HAL.out.size))
      clear hb4
      cases br with
      | none =>
        dsimp only [doE]
        go_wp2_with fail
        go_end0
        exact ⟨by rw [HRN.out]; rfl, HB4.out⟩
      | some c =>
        dsimp only [doE, flawE]
        exact ⟨rfl, by rw [HRN.out]; rfl, HB4.out⟩
    · go_enter Tryz.func103, Tryz.ntmps103
      go_upto_region 1 with fail
      rw [HW.out, EB.out]
      go_wp2_with (go_at_call 102; refine ((HI _).out).mono ?_; rintro e w' ⟨rfl, rfl⟩)
      refine HD1.out.mono ?_
      rintro e w2 ⟨rfl, hb2'⟩
      have HB2 := Lib.hid hb2'
      have hk1 := (KB.out w2 hb2').1
      have z2 := hk1.c2
      have z3 := hk1.c3
      rw [ELI.out] at z3
      clear hb2' hk1
      go_wp2_with fail
      have HD2 := Lib.hid (HDM false w2 HB2.out).out
      unfold ifR doE flawE at HD2
      simp only [Bool.false_eq_true, if_false] at HD2
      refine HD2.out.mono ?_
      rintro e w3 ⟨rfl, hb3⟩
      exact ⟨rfl, by rw [HRN.out]; rfl, HAL.out.trans ((HB2.out.trans (hb3.mono HB2.out.size)).mono HAL.out.size)⟩
end
end Go.Proofs.YtbpkppmbbpoohaaGreat
