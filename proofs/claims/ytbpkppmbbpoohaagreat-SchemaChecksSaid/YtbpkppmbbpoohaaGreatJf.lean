/- A message in an examination, the conditions of its fields given. Conditions: the examination, what it knows and the fields lie in memory. -/
import Derived.Test.YtbpkppmbbpoohaaGreatJe
namespace Go.Proofs.YtbpkppmbbpoohaaGreat
open Go.RowKit Go.Shelf

/-- Nothing, or a flaw at a field. -/
def doM (r : Option (Int × Int)) (m : Int) : Ending := match r with | none => .returned (.tuple #[]) | some p => flawE m p.1 p.2
def orM (r s : Option (Int × Int)) : Option (Int × Int) := match r with | none => s | some c => some c
def ifM (b : Bool) (f c : Int) : Option (Int × Int) := if b then none else some (f, c)
/-- The first flaw of fields. -/
def fieldsR (fr : Nat → FieldD → Option Int) : Nat → List FieldD → Option (Int × Int)
  | _, [] => none
  | i, d :: D => orM ((fr i d).map fun c => ((i : Int), c)) (fieldsR fr (i + 1) D)
theorem orM_assoc (a b c : Option (Int × Int)) : orM (orM a b) c = orM a (orM b c) := by cases a <;> rfl
theorem fieldsR_app (fr : Nat → FieldD → Option Int) : ∀ (D F : List FieldD) (i : Nat), fieldsR fr i (D ++ F) = orM (fieldsR fr i D) (fieldsR fr (i + D.length) F) := by
  intro D
  induction D with
  | nil => intro F i; rfl
  | cons d D ih =>
    intro F i
    simp only [List.cons_append, fieldsR, ih, orM_assoc, List.length_cons]
    rw [show i + 1 + D.length = i + (D.length + 1) by omega]
def setN : Nats → List UInt8 → Int × Bool → Nats
  | [], k, v => [(k, v)]
  | p :: E, k, v => if p.1 = k then (k, v) :: E else p :: setN E k v
theorem setE_nat (E : Nats) (k : List UInt8) (v : Int × Bool) : setE (natE E) k (natV v) = natE (setN E k v) := by
  induction E with
  | nil => rfl
  | cons p E ih =>
    show (if p.1 = k then (k, natV v) :: natE E else (p.1, natV p.2) :: setE (natE E) k (natV v)) = _
    by_cases h : p.1 = k
    · rw [if_pos h, show setN (p :: E) k v = (k, v) :: E from if_pos h]; rfl
    · rw [if_neg h, ih, show setN (p :: E) k v = p :: setN E k v from if_neg h]; rfl
theorem getN_setN (E : Nats) (k : List UInt8) (v : Int × Bool) : getN (setN E k v) k = some v := by
  induction E with
  | nil => simp [setN, getN]
  | cons p E ih =>
    by_cases h : p.1 = k
    · rw [show setN (p :: E) k v = (k, v) :: E from if_pos h]; simp [getN]
    · rw [show setN (p :: E) k v = p :: setN E k v from if_neg h]; simp [getN, h, ih]
/-- The first flaw of a message. -/
def msgR (E : Nats) (fr : Nat → FieldD → Option Int) (name : List UInt8) (D : List FieldD) : Option (Int × Int) :=
  orM (ifM (nameB name) (-1) 1) (orM (ifM (!(hasN E name)) (-1) 2) (orM (ifM (inB (D.length : Int) 1 40) (-1) 3) (orM (fieldsR fr 0 D) (ifM (decide ((natS E D).1 ≤ 16)) (-1) 10))))

section
variable {W : World} {x kr kk n c : Nat} {m f : Int} {A : Option Addr}
theorem ExAt.setF (h : ExAt W x m f kr A n c kk) (u : Int) : ExAt (W.setCell ⟨x, 1, none⟩ (.int .i64 u)) x m u kr A n c kk := ⟨heap_setCell_same W x 1 _ 130 (.int .i64 u) h.blk⟩
theorem ExAt.setB (h : ExAt W x m f kr A n c kk) (A' : Option Addr) (n' c' : Nat) : ExAt (W.setCell ⟨x, 4, none⟩ (.slice A' n' c')) x m f kr A' n' c' kk := ⟨heap_setCell_same W x 4 _ 130 (.slice A' n' c') h.blk⟩
end

theorem Tryz.sizeField (w : World) : (sizeOf 55).run Tryz.prog w = .ok 15 w := by kernel_rfl
theorem Tryz.uFields : Tryz.prog.underlying 34 = some (.slice 55) := by kernel_rfl
theorem sliceTo (g o n c i : Nat) (hi : i ≤ c) (w : World) : (Instr.slice 34 (.slice (some ⟨g, o, none⟩) n c) none (some (.int .i64 (i : Int))) none).run Tryz.prog w = .ok (.slice (some ⟨g, o, none⟩) i c) w := by
  have h1 : (0 : Int) ≤ (i : Int) ∧ (i : Int) ≤ ((c : Nat) : Int) := by omega
  simp [Instr.slice, Instr.sliceBounds, Instr.sliceBound, asIntOf, run_underlying Tryz.uFields, Tryz.sizeField, Result.andThen, h1, hi, add_at]

set_option maxRecDepth 100000 in
set_option maxHeartbeats 6400000 in
theorem message_any (x kr kk n0 c0 : Nat) (m f0 : Int) (A0 : Option Addr) (nm : List UInt8) (A : Option Addr) (c : Nat) (D : List FieldD) (S : Nat → Prop) (E : Nats) (fr : Nat → FieldD → Option Int) (w : World)
    (hx : ExAt w x m (-1) kr A0 n0 c0 kk) (hm : MapAt w kr (natE E)) (hxk : x ≠ kr) (h : SlAt FieldD.cells 15 S w A c D) (hSx : S x) (hSk : S kr) (hE : ∀ s, 0 ≤ ((getN E s).getD (0, false)).1 ∧ ((getN E s).getD (0, false)).1 ≤ 1000)
    (hlen : D.length ≤ 40 → fieldsR fr 0 D = none → (D.flatMap targB).length ≤ 4000000000)
    (hf : ∀ i d wx, D[i]? = some d → fieldsR fr 0 (D.take i) = none → Rest (fun k => k = x) w wx → ExAt wx x m (i : Int) kr A i c kk → Calls Tryz.prog 146 #[.pointer (some ⟨x, 0, none⟩), d.agg] wx fun e w' => e = doE (fr i d) m (i : Int) ∧ Below wx.heap.size wx w')
    (ht : fieldsR fr 0 D = none → ∀ d ∈ D, ∀ wx, Rest (fun k => k = x) w wx → Calls Tryz.prog 74 #[d.agg] wx fun e w' => ∃ A c, e = .returned (.slice A (targB d).length c) ∧ SlAt strCells 1 (fun i => i < wx.heap.size) w' A c (targB d) ∧ Below wx.heap.size wx w') :
    Calls Tryz.prog 117 #[.pointer (some ⟨x, 0, none⟩), .agg #[.string (strL nm), .slice A D.length c]] w fun e w' => e = doM (msgR E fr nm D) m ∧ Rest (fun k => k = x ∨ k = kr) w w' ∧ (msgR E fr nm D = none → MapAt w' kr (natE (setN E nm (natS E D))) ∧ ∃ A' n' c', ExAt w' x m (-1) kr A' n' c' kk) := by
  have hl : D.length ≤ 9223372036854775807 := Nat.le_trans h.1 h.2.1
  have hal := below_alloc w (.cells #[.string (strL nm), .slice A D.length c] 36)
  have hbx : (w.alloc (.cells #[.string (strL nm), .slice A D.length c] 36)).heap[w.heap.size]? = some (.cells #[.string (strL nm), .slice A D.length c] 36 (0, 0)) := heap_alloc_new w _
  have hx1 := hx.below hal hx.lt
  have hm1 := hm.below hal hm.lt
  have h1 := h.below hal
  obtain ⟨b, eb⟩ : ∃ b, w.heap.size = b := ⟨_, rfl⟩
  obtain ⟨w1, hw1⟩ : ∃ w1, w.alloc (.cells #[.string (strL nm), .slice A D.length c] 36) = w1 := ⟨_, rfl⟩
  rw [hw1] at hal hbx hx1 hm1 h1
  rw [eb] at hbx
  have hbl : b < w1.heap.size := (Array.getElem?_eq_some_iff.1 hbx).1
  have hxb : x ≠ b := by have := hx.lt; omega
  have hkb : kr ≠ b := by have := hm.lt; omega
  have hR1 : Rest (fun k => k = x) w w1 := Rest.below hal
  obtain ⟨Z, hZ⟩ : ∃ Z, msgR E fr nm D = Z := ⟨_, rfl⟩
  rw [hZ]
  have KEEP : Hid (∀ wx, Rest (fun k => k = x ∨ k = kr) w1 wx → wx.cell? ⟨b, 0, none⟩ = some (.string (strL nm)) ∧ wx.cell? ⟨b, 1, none⟩ = some (.slice A D.length c)) := Lib.hid (fun wx hb => by
    have := (hb.block b hbl (fun e => by rcases e with e | e; exact hxb e.symm; exact hkb e.symm)).trans hbx
    exact ⟨by simp [World.cell?, this], by simp [World.cell?, this]⟩)
  have KX : Hid (∀ wx, Below w1.heap.size w1 wx → ExAt wx x m (-1) kr A0 n0 c0 kk ∧ MapAt wx kr (natE E)) := Lib.hid (fun wx hb => ⟨hx1.below hb hx1.lt, hm1.below hb hm1.lt⟩)
  have HNM := fun w => Lib.hid (sizeName nm w)
  have HWI := fun w => Lib.hid (withinS (D.length : Int) 1 40 w)
  have HPS : ∀ wx, Below w1.heap.size w1 wx → Hid (Calls Tryz.prog 118 #[.pointer (some ⟨x, 0, none⟩), .string (strL nm)] wx fun e w' => e = .returned (.bool (hasN E nm)) ∧ Below wx.heap.size wx w') := fun wx hb => Lib.hid (passed_any x kr kk n0 c0 m (-1) A0 wx E nm (KX.out wx hb).1 (KX.out wx hb).2)
  have HDM : ∀ bv cd wx, Below w1.heap.size w1 wx → Hid (Calls Tryz.prog 115 #[.pointer (some ⟨x, 0, none⟩), .bool bv, .int .i64 cd] wx fun e w' => e = doE (ifR bv cd) m (-1) ∧ Below wx.heap.size wx w') := fun bv cd wx hb => Lib.hid (demand_any x kr kk n0 c0 m (-1) A0 bv cd wx (KX.out wx hb).1)
  obtain ⟨nb, hnb⟩ : ∃ nb, nameB nm = nb := ⟨_, rfl⟩
  obtain ⟨tw, htw⟩ : ∃ tw, hasN E nm = tw := ⟨_, rfl⟩
  obtain ⟨lb, hlb⟩ : ∃ lb, inB (D.length : Int) 1 40 = lb := ⟨_, rfl⟩
  rw [hnb] at HNM
  rw [htw] at HPS
  rw [hlb] at HWI
  have hzz : Z = orM (ifM nb (-1) 1) (orM (ifM (!tw) (-1) 2) (orM (ifM lb (-1) 3) (orM (fieldsR fr 0 D) (ifM (decide ((natS E D).1 ≤ 16)) (-1) 10)))) := by rw [← hZ]; unfold msgR; rw [hnb, htw, hlb]
  have HRN := Lib.hid hzz
  have hl40 : lb = true → 1 ≤ D.length ∧ D.length ≤ 40 := fun e => by
    rw [e] at hlb
    have : (1 : Int) ≤ (D.length : Int) ∧ (D.length : Int) ≤ 40 := by simpa [inB] using hlb
    omega
  have HL40 := Lib.hid hl40
  have HB1 : Hid (Below w1.heap.size w1 w1) := Lib.hid (Below.refl _ _)
  have HR1 := Lib.hid hR1
  have HAL := Lib.hid hal
  have H1 := Lib.hid h1
  have HX1 := Lib.hid hx1
  have HM1 := Lib.hid hm1
  have HLEN := Lib.hid hlen
  have HFF := Lib.hid hf
  have HTT := Lib.hid ht
  have HEE := Lib.hid hE
  have HXK := Lib.hid hxk
  have HSX := Lib.hid hSx
  have HSK := Lib.hid hSk
  have HW := Lib.hid hw1
  have EB := Lib.hid eb
  have HBL := Lib.hid hbl
  have HXL := Lib.hid hx.lt
  have HKL := Lib.hid hm.lt
  obtain ⟨y0, y1⟩ := KEEP.out w1 (Rest.refl _ _)
  clear hal hbx hx1 hm1 h1 eb hw1 hbl hxb hkb hR1 hZ hnb htw hlb hzz hl40 hx hm hxk h hSx hSk hE hlen hf ht
  go_enter Tryz.func117, Tryz.ntmps117
  go_upto_region 1 with fail
  rw [HW.out, EB.out]
  go_wp2_with (go_at_call 116; refine ((HNM _).out).mono ?_; rintro e w' ⟨rfl, hw'⟩; have hw'' := hw'.symm; clear hw'; subst hw'')
  cases nb
  · have HD := Lib.hid (HDM false 1 w1 HB1.out).out
    unfold ifR doE flawE at HD
    simp only [Bool.false_eq_true, if_false] at HD
    go_wp2_with fail
    refine HD.out.mono ?_
    rintro e w2 ⟨rfl, hb2'⟩
    have hzn := HRN.out
    simp only [ifM, orM, Bool.not_true, Bool.not_false, Bool.false_eq_true, if_true, if_false] at hzn
    exact ⟨rfl, by rw [hzn]; rfl, Rest.below (HAL.out.trans ((HB1.out.trans (hb2'.mono HB1.out.size)).mono HAL.out.size)), fun e => by rw [hzn] at e; cases e⟩
  · have HD := Lib.hid (HDM true 1 w1 HB1.out).out
    unfold ifR doE at HD
    simp only [if_true] at HD
    go_wp2_with fail
    refine HD.out.mono ?_
    rintro e w2 ⟨rfl, hb2'⟩
    have HB2 := Lib.hid (HB1.out.trans (hb2'.mono HB1.out.size))
    clear hb2' HD
    clear y0 y1
    obtain ⟨y0, y1⟩ := KEEP.out w2 (Rest.below HB2.out)
    go_wp2_with (go_at_call 118; refine ((HPS _ HB2.out).out).mono ?_; rintro e wp ⟨rfl, hbp⟩; have HBp := Lib.hid (HB2.out.trans (hbp.mono HB2.out.size)); clear hbp)
    cases tw
    · have HD := Lib.hid (HDM true 2 wp HBp.out).out
      unfold ifR doE at HD
      simp only [if_true] at HD
      go_wp2_with fail
      refine HD.out.mono ?_
      rintro e w3 ⟨rfl, hb3'⟩
      have HB3 := Lib.hid (HBp.out.trans (hb3'.mono HBp.out.size))
      clear hb3' HD
      clear y0 y1
      obtain ⟨y0, y1⟩ := KEEP.out w3 (Rest.below HB3.out)
      go_wp2_with (go_at_call 102; refine ((HWI _).out).mono ?_; rintro e w' ⟨rfl, hw'⟩; have hw'' := hw'.symm; clear hw'; subst hw'')
      cases lb
      · have HD := Lib.hid (HDM false 3 w3 HB3.out).out
        unfold ifR doE flawE at HD
        simp only [Bool.false_eq_true, if_false] at HD
        go_wp2_with fail
        refine HD.out.mono ?_
        rintro e w4 ⟨rfl, hb4'⟩
        have hzn := HRN.out
        simp only [ifM, orM, Bool.not_true, Bool.not_false, Bool.false_eq_true, if_true, if_false] at hzn
        exact ⟨rfl, by rw [hzn]; rfl, Rest.below (HAL.out.trans ((HB3.out.trans (hb4'.mono HB3.out.size)).mono HAL.out.size)), fun e => by rw [hzn] at e; cases e⟩
      · have HD := Lib.hid (HDM true 3 w3 HB3.out).out
        unfold ifR doE at HD
        simp only [if_true] at HD
        go_wp2_with fail
        refine HD.out.mono ?_
        rintro e w4 ⟨rfl, hb4'⟩
        have HB4 := Lib.hid (HB3.out.trans (hb4'.mono HB3.out.size))
        clear hb4' HD
        clear y0 y1
        obtain ⟨y0, y1⟩ := KEEP.out w4 (Rest.below HB4.out)
        obtain ⟨hd1, hd40⟩ := HL40.out (by first | rfl | trivial)
        have HD40 := Lib.hid hd40
        have HRN2 : Hid (Z = orM (fieldsR fr 0 D) (ifM (decide ((natS E D).1 ≤ 16)) (-1) 10)) := Lib.hid HRN.out
        go_wp2_with fail
        clear y0 y1
        go_loopw [27] (fun x27 wr => ∃ (i n' c' : Nat) (A' : Option Addr) (f' : Int), i ≤ D.length ∧ x27 = .int .i64 ((i : Nat) : Int) ∧ fieldsR fr 0 (D.take i) = none ∧ Rest (fun k => k = x) w1 wr ∧ ExAt wr x m f' kr A' n' c' kk) (fun x27 _ => D.length - (intOf x27).toNat)
        case atStart => exact ⟨0, n0, c0, A0, -1, Nat.zero_le _, rfl, rfl, Rest.below HB4.out, (KX.out w4 HB4.out).1⟩
        case round =>
          obtain ⟨i, n', c', A', f', hi, rfl, hfr, hrs, hex⟩ := hrel
          by_cases hlt : i < D.length
          · obtain ⟨d, hd⟩ : ∃ d, D[i]? = some d := ⟨_, List.getElem?_eq_getElem hlt⟩
            have hcap := H1.out.1
            have hslA : ∃ g o, A = some ⟨g, o, none⟩ := by
              obtain ⟨g, o, e, _⟩ := H1.out.2.2 i d hd
              exact ⟨g, o, e⟩
            have hAT := (H1.out.rest hrs (fun k _ e => by rw [e]; exact HSX.out))
            obtain ⟨g, o, hA, hx⟩ := hAT.at_ hd
            have HAA := Lib.hid hA
            have x0 : wr.cell? ⟨g, o + i * 15, none⟩ = some (.string (strL d.name)) := hx 0 _ rfl
            have x1 : wr.cell? ⟨g, o + i * 15 + 1, none⟩ = some (.int .i64 d.kind) := hx 1 _ rfl
            have x2 : wr.cell? ⟨g, o + i * 15 + 2, none⟩ = some (.int .i64 d.bits) := hx 2 _ rfl
            have x3 : wr.cell? ⟨g, o + i * 15 + 3, none⟩ = some (.bool d.little) := hx 3 _ rfl
            have x4 : wr.cell? ⟨g, o + i * 15 + 4, none⟩ = some (.bool d.loose) := hx 4 _ rfl
            have x5 : wr.cell? ⟨g, o + i * 15 + 5, none⟩ = some (.int .i64 d.low) := hx 5 _ rfl
            have x6 : wr.cell? ⟨g, o + i * 15 + 6, none⟩ = some (.int .i64 d.high) := hx 6 _ rfl
            have x7 : wr.cell? ⟨g, o + i * 15 + 7, none⟩ = some (.int .i64 d.base) := hx 7 _ rfl
            have x8 : wr.cell? ⟨g, o + i * 15 + 8, none⟩ = some (.slice d.ta d.terms.length d.tc) := hx 8 _ rfl
            have x9 : wr.cell? ⟨g, o + i * 15 + 9, none⟩ = some (.string (strL d.of_)) := hx 9 _ rfl
            have x10 : wr.cell? ⟨g, o + i * 15 + 10, none⟩ = some (.string (strL d.tag)) := hx 10 _ rfl
            have x11 : wr.cell? ⟨g, o + i * 15 + 11, none⟩ = some (.string (strL d.from_)) := hx 11 _ rfl
            have x12 : wr.cell? ⟨g, o + i * 15 + 12, none⟩ = some (.slice d.ca d.cases.length d.cc) := hx 12 _ rfl
            have x13 : wr.cell? ⟨g, o + i * 15 + 13, none⟩ = some (.int .i64 d.check) := hx 13 _ rfl
            have x14 : wr.cell? ⟨g, o + i * 15 + 14, none⟩ = some (.int .i64 d.key) := hx 14 _ rfl
            have hal5 := below_alloc wr (.cells #[.string (strL d.name), .int .i64 d.kind, .int .i64 d.bits, .bool d.little, .bool d.loose, .int .i64 d.low, .int .i64 d.high, .int .i64 d.base, .slice d.ta d.terms.length d.tc, .string (strL d.of_), .string (strL d.tag), .string (strL d.from_), .slice d.ca d.cases.length d.cc, .int .i64 d.check, .int .i64 d.key] 55)
            have hbx5 := FBox.new wr d
            obtain ⟨tb, etb⟩ : ∃ tb, wr.heap.size = tb := ⟨_, rfl⟩
            obtain ⟨w5, hw5⟩ : ∃ w5, wr.alloc (.cells #[.string (strL d.name), .int .i64 d.kind, .int .i64 d.bits, .bool d.little, .bool d.loose, .int .i64 d.low, .int .i64 d.high, .int .i64 d.base, .slice d.ta d.terms.length d.tc, .string (strL d.of_), .string (strL d.tag), .string (strL d.from_), .slice d.ca d.cases.length d.cc, .int .i64 d.check, .int .i64 d.key] 55) = w5 := ⟨_, rfl⟩
            rw [hw5] at hal5 hbx5
            rw [etb] at hbx5
            have hx5 := hex.below hal5 hex.lt
            have htx : tb ≠ x := by have := hex.lt; omega
            have v1 := hx5.c1
            have vf1 := hx5.fr 1
            have hx6 := hx5.setF (i : Int)
            have hs6 : Rest (fun k => k = x) w5 (w5.setCell ⟨x, 1, none⟩ (.int .i64 (i : Int))) := (Rest.refl (fun k => k = x) w5).setCell (S := fun k => k = x) (p := ⟨x, 1, none⟩) (fun _ => rfl) _
            obtain ⟨w6, hw6⟩ : ∃ w6, w5.setCell ⟨x, 1, none⟩ (.int .i64 (i : Int)) = w6 := ⟨_, rfl⟩
            rw [hw6] at hx6 hs6
            have v4 := hx6.c4
            have vf4 := hx6.fr 4
            have hx7 := hx6.setB A i c
            have hs7 : Rest (fun k => k = x) w6 (w6.setCell ⟨x, 4, none⟩ (.slice A i c)) := (Rest.refl (fun k => k = x) w6).setCell (S := fun k => k = x) (p := ⟨x, 4, none⟩) (fun _ => rfl) _
            obtain ⟨w7, hw7⟩ : ∃ w7, w6.setCell ⟨x, 4, none⟩ (.slice A i c) = w7 := ⟨_, rfl⟩
            rw [hw7] at hx7 hs7
            have hs57 := hs6.trans hs7 (fun _ _ e => e)
            have hbx7 := hbx5.rest hs57 htx
            have hs1r5 : Rest (fun k => k = x) w1 w5 := hrs.trans (Rest.below (S := fun k => k = x) hal5) (fun _ _ e => e)
            have hs17 := hs1r5.trans hs57 (fun _ _ e => e)
            obtain ⟨k0, k1⟩ := KEEP.out w6 ((hs1r5.trans hs6 (fun _ _ e => e)).mono (fun _ _ e => .inl e))
            have hsl : (Instr.slice 34 (.slice A D.length c) none (some (.int .i64 (i : Int))) none).run Tryz.prog w6 = .ok (.slice A i c) w6 := by
              obtain ⟨g, o, e⟩ := hslA
              rw [e]
              exact sliceTo g o D.length c i (by omega) w6
            have HFC := HFF.out i d w7 hd hfr (HR1.out.trans hs17 (fun _ _ e => e)) hx7
            unfold FieldD.agg at HFC
            obtain ⟨R, hR⟩ : ∃ R, fr i d = R := ⟨_, rfl⟩
            have hnx : fieldsR fr 0 (D.take (i + 1)) = R.map fun c => ((i : Int), c) := by
              rw [(drop_of hd).2, fieldsR_app, hfr]
              simp only [fieldsR, List.length_take, Nat.min_eq_left hi, Nat.zero_add, hR]
              cases R <;> rfl
            have hall : ∀ c, R = some c → fieldsR fr 0 D = some ((i : Int), c) := by
              intro c e
              rw [← List.take_append_drop (i + 1) D, fieldsR_app, hnx, e]
              rfl
            rw [hR] at HFC
            have HNX := Lib.hid hnx
            have HALL := Lib.hid hall
            have HFC := Lib.hid HFC
            have W5 := Lib.hid hw5
            have W6 := Lib.hid hw6
            have W7 := Lib.hid hw7
            have ETB := Lib.hid etb
            have X7 := Lib.hid hx7
            have S17 := Lib.hid hs17
            have q0 := hbx7.c0
            have q1 := hbx7.c1
            have q2 := hbx7.c2
            have q3 := hbx7.c3
            have q4 := hbx7.c4
            have q5 := hbx7.c5
            have q6 := hbx7.c6
            have q7 := hbx7.c7
            have q8 := hbx7.c8
            have q9 := hbx7.c9
            have q10 := hbx7.c10
            have q11 := hbx7.c11
            have q12 := hbx7.c12
            have q13 := hbx7.c13
            have q14 := hbx7.c14
            subst hA
            clear hd hfr hrs hex hslA hAT hx hal5 hbx5 etb hw5 hx5 htx hx6 hs6 hw6 hx7 hs7 hw7 hs57 hbx7 hs1r5 hs17 hR hnx hall hd1 hcap k0
            go_upto_region 7 with fail
            rw [W5.out, ETB.out]
            go_upto_region 8 with fail
            rw [W6.out]
            go_upto_region 9 with fail
            rw [W7.out]
            go_wp2_with fail
            refine HFC.out.mono ?_
            rintro e w8 ⟨rfl, hb8⟩
            have S18 := Lib.hid (S17.out.trans (Rest.below (S := fun k => k = x) hb8) (fun _ _ e => e))
            have X8 := Lib.hid (X7.out.below hb8 X7.out.lt)
            clear hb8 q0 q1 q2 q3 q4 q5 q6 q7 q8 q9 q10 q11 q12 q13 q14 x0 x1 x2 x3 x4 x5 x6 x7 x8 x9 x10 x11 x12 x13 x14
            cases R with
            | none =>
              dsimp only [doE]
              go_wp2_with fail
              go_roundw
              case rel => exact ⟨i + 1, i, c, some ⟨g, o, none⟩, (i : Int), by omega, by go_num, HNX.out, S18.out, X8.out⟩
              case measure => simp [intOf]; omega
            | some cd =>
              dsimp only [doE, flawE]
              have hzn : Z = some ((i : Int), cd) := by rw [HRN2.out, HALL.out cd rfl]; rfl
              exact ⟨rfl, by rw [hzn]; rfl, (HR1.out.trans S18.out (fun _ _ e => e)).mono (fun _ _ e => .inl e), fun e => by rw [hzn] at e; cases e⟩
          · obtain rfl : i = D.length := by omega
            rw [List.take_length] at hfr
            obtain ⟨⟨zd, zs⟩, hz⟩ : ∃ z, natS E D = z := ⟨_, rfl⟩
            have hZ2 : Z = ifM (decide (zd ≤ 16)) (-1) 10 := by rw [HRN2.out, hfr, hz]; rfl
            have v1 := hex.c1
            have vf1 := hex.fr 1
            have hx9 := hex.setF (-1)
            have hs9 : Rest (fun k => k = x) w1 (wr.setCell ⟨x, 1, none⟩ (.int .i64 (-1))) := hrs.setCell (S := fun k => k = x) (p := ⟨x, 1, none⟩) (fun _ => rfl) _
            obtain ⟨w9, hw9⟩ : ∃ w9, wr.setCell ⟨x, 1, none⟩ (.int .i64 (-1)) = w9 := ⟨_, rfl⟩
            rw [hw9] at hx9 hs9
            have hm9 := HM1.out.rest hs9 (fun e => HXK.out e.symm)
            have HNF : ∀ wx, Below w9.heap.size w9 wx → Calls Tryz.prog 147 #[.agg #[.string (strL nm), .slice A D.length c], .map (some kr)] wx fun e w' => e = .returned (natV (natS E D)) ∧ Below wx.heap.size wx w' := fun wx hd9 => natureOf_any nm A c D S kr E wx ((H1.out.rest hs9 (fun k _ e => by rw [e]; exact HSX.out)).below hd9) (HLEN.out HD40.out hfr) (fun d hd wy hb => HTT.out hfr d hd wy (((HR1.out.trans hs9 (fun _ _ e => e)).trans (Rest.below (S := fun k => k = x) hd9) (fun _ _ e => e)).trans (Rest.below (S := fun k => k = x) hb) (fun _ _ e => e))) (hm9.below hd9 hm9.lt) HEE.out
            rw [hz] at HNF
            unfold natV at HNF
            have HNF := Lib.hid HNF
            have KP : Hid (∀ wx, Below w9.heap.size w9 wx → wx.cell? ⟨b, 0, none⟩ = some (.string (strL nm)) ∧ wx.cell? ⟨b, 1, none⟩ = some (.slice A D.length c) ∧ wx.cell? ⟨x, 3, none⟩ = some (.map (some kr))) := Lib.hid (fun wx hb => ⟨(KEEP.out wx ((hs9.mono (fun _ _ e => .inl e)).trans (Rest.below (S := fun _ => False) hb) (fun _ _ e => e.elim))).1, (KEEP.out wx ((hs9.mono (fun _ _ e => .inl e)).trans (Rest.below (S := fun _ => False) hb) (fun _ _ e => e.elim))).2, (hx9.below hb hx9.lt).c3⟩)
            obtain ⟨y0, y1⟩ := KEEP.out w9 (hs9.mono (fun _ _ e => .inl e))
            have c3 := hx9.c3
            have W9 := Lib.hid hw9
            have X9 := Lib.hid hx9
            have S9 := Lib.hid hs9
            have M9 := Lib.hid hm9
            have HZ2 := Lib.hid hZ2
            have HZZ := Lib.hid hz
            clear hex hrs hfr hz hZ2 hx9 hs9 hw9 hm9
            go_upto_region 12 with fail
            rw [W9.out]
            clear v1 vf1
            refine wp_region_noPanic ?_
            go_region_held (fun w' => w'.cell? ⟨b, 0, none⟩ = some (.string (strL nm)) ∧ w'.cell? ⟨b, 1, none⟩ = some (.slice A D.length c) ∧ w'.cell? ⟨x, 3, none⟩ = some (.map (some kr))) (first | exact KW.out | exact KP.out _ HB910.out | exact KP.out _ (Below.refl _ _).drew | exact KP.out _ (Below.refl _ _)) (first | (go_at_call 147; refine (HNF.out _ (by first | exact (Below.refl _ _).drew | exact Below.refl _ _)).mono ?_; rintro e w10 ⟨rfl, hb10⟩; have HB910 := Lib.hid (by first | exact (Below.refl _ _).drew.trans hb10 | exact hb10 : Below w9.heap.size w9 w10); clear hb10; obtain ⟨w11, hrun, hm11, hr11⟩ := run_store (P := Tryz.prog) Tryz.underlying88 Tryz.ustr (M9.out.below HB910.out M9.out.lt) nm (natV (zd, zs)); have hs11 : Rest (fun k => k = x ∨ k = kr) w1 w11 := ((S9.out.mono (fun _ _ e => .inl e)).trans (Rest.below (S := fun _ => False) HB910.out) (fun _ _ e => e.elim)).trans hr11 (fun _ _ e => .inr e); have hx11 := (X9.out.below HB910.out X9.out.lt).rest hr11 HXK.out; have KW := Lib.hid (⟨(KEEP.out w11 hs11).1, (KEEP.out w11 hs11).2, hx11.c3⟩ : w11.cell? ⟨b, 0, none⟩ = some (.string (strL nm)) ∧ w11.cell? ⟨b, 1, none⟩ = some (.slice A D.length c) ∧ w11.cell? ⟨x, 3, none⟩ = some (.map (some kr))); have M11 := Lib.hid hm11; have R11 := Lib.hid hr11; have X11 := Lib.hid hx11; have S11 := Lib.hid hs11; clear hm11 hr11 hx11 hs11; unfold natV at hrun))
            all_goals
              refine NoPanic.normal ?_
              clear y0 y1 c3 hrun
              have hx11 := X11.out
              have hm11 := M11.out
              rw [setE_nat] at hm11
              obtain ⟨u0, u1, u3⟩ := KW.out
              have hrunB : ∀ n, (Instr.lookup 88 (.map (some kr)) (.string (strL nm)) false).run Tryz.prog (w11.drewN n) = .ok (.agg #[.int .i64 zd, .bool zs]) (w11.drewN n) := fun n => by
                have h := run_look (P := Tryz.prog) Tryz.underlying88 Tryz.ustr (Tryz.zeroNat (w11.drewN n)) (hm11.below (below_drewN w11 n) hm11.lt) nm
                rwa [look_nat, getN_setN] at h
              have hrunC : (Instr.lookup 88 (.map (some kr)) (.string (strL nm)) false).run Tryz.prog w11.drew = .ok (.agg #[.int .i64 zd, .bool zs]) w11.drew := hrunB 1
              have hfC : (Instr.field 123 (.agg #[.int .i64 zd, .bool zs]) 0).run Tryz.prog w11.drew = .ok (.int .i64 zd) w11.drew := Tryz.fieldNat0 _ _ _
              have hrunD : (Instr.lookup 88 (.map (some kr)) (.string (strL nm)) false).run Tryz.prog w11 = .ok (.agg #[.int .i64 zd, .bool zs]) w11 := hrunB 0
              have hfD : (Instr.field 123 (.agg #[.int .i64 zd, .bool zs]) 0).run Tryz.prog w11 = .ok (.int .i64 zd) w11 := Tryz.fieldNat0 _ _ _
              clear hrunB
              obtain ⟨ld, eld⟩ : ∃ ld, decide (zd ≤ 16) = ld := ⟨_, rfl⟩
              have HZ3 : Hid (Z = ifM ld (-1) 10) := Lib.hid (by rw [HZ2.out, eld])
              have HDL := Lib.hid (demand_any x kr kk _ _ m (-1) _ ld 10 (w11.drewN 1) (hx11.below (below_drewN w11 1) hx11.lt))
              have HSF := Lib.hid ((Rest.below (S := fun k => k = x ∨ k = kr) HAL.out).trans S11.out (fun _ _ e => e))
              have MF := Lib.hid (show MapAt w11 kr (natE (setN E nm (natS E D))) by rw [HZZ.out]; exact hm11)
              clear hx11 hm11
              go_upto_region 13 with fail
              go_still_tail 10, (by kernel_rfl)
              change wpList _ _ _ _ _ (w11.drewN 1)
              go_wp2_with fail
              cases ld
              · have HD := Lib.hid HDL.out
                unfold ifR doE flawE at HD
                simp only [Bool.false_eq_true, if_false] at HD
                refine HD.out.mono ?_
                rintro e w12 ⟨rfl, hb12⟩
                have hzn := HZ3.out
                simp only [ifM, Bool.false_eq_true, if_false] at hzn
                exact ⟨rfl, by rw [hzn]; rfl, HSF.out.trans (Rest.below (S := fun _ => False) ((below_drewN w11 1).trans hb12)) (fun _ _ e => e.elim), fun e => by rw [hzn] at e; cases e⟩
              · have HD := Lib.hid HDL.out
                unfold ifR doE at HD
                simp only [if_true] at HD
                refine HD.out.mono ?_
                rintro e w12 ⟨rfl, hb12⟩
                have hbz := Lib.hid ((below_drewN w11 1).trans hb12)
                clear hb12
                have hzn := Lib.hid (show Z = none from HZ3.out)
                go_wp2_with fail
                go_end0
                exact ⟨by rw [hzn.out]; rfl, HSF.out.trans (Rest.below (S := fun _ => False) hbz.out) (fun _ _ e => e.elim), fun _ => ⟨MF.out.below hbz.out MF.out.lt, _, _, _, X11.out.below hbz.out X11.out.lt⟩⟩
    · have HD := Lib.hid (HDM false 2 wp HBp.out).out
      unfold ifR doE flawE at HD
      simp only [Bool.false_eq_true, if_false] at HD
      go_wp2_with fail
      refine HD.out.mono ?_
      rintro e w3 ⟨rfl, hb3'⟩
      have hzn := HRN.out
      simp only [ifM, orM, Bool.not_true, Bool.not_false, Bool.false_eq_true, if_true, if_false] at hzn
      exact ⟨rfl, by rw [hzn]; rfl, Rest.below (HAL.out.trans ((HBp.out.trans (hb3'.mono HBp.out.size)).mono HAL.out.size)), fun e => by rw [hzn] at e; cases e⟩
end Go.Proofs.YtbpkppmbbpoohaaGreat
