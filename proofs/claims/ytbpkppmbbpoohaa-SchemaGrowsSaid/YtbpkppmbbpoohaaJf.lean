/- A message in an examination, the conditions of its fields given. Conditions: the examination, what it knows and the fields lie in memory. A definition in an examination, the conditions of its messages given. Conditions: the examination, what it knows and the messages lie in memory. The recovery of an examination: the flaw that a panic carried out. Conditions: the results lie in memory. Check, Valid and HasValue, from examine's contract. No conditions beyond it. Depth and HasValue, from examine's contract. Conditions: the messages lie in memory. Depth, and the law's test for a flaw. Conditions: the contracts of natureIn and of Check. The law's definition of two fields. No conditions. -/
import Derived.Test.YtbpkppmbbpoohaaJe
import Derived.Defers
import Derived.Recover
import Derived.Laws.Pointers
namespace Go.Proofs.Ytbpkppmbbpoohaa
open Go.RowKit Go.Shelf

/-- Nothing, or a flaw at a field. -/
def doM (r : Option (Int × Int)) (m : Int) : Ending := match r with | none => .returned (.tuple #[]) | some p => flawE m p.1 p.2
def orM (r s : Option (Int × Int)) : Option (Int × Int) := match r with | none => s | some c => some c
def ifM (b : Bool) (f c : Int) : Option (Int × Int) := if b then none else some (f, c)
/-- The first flaw of fields. -/
def fieldsR (fr : Nat → FieldD → Option Int) : Nat → List FieldD → Option (Int × Int)
  | _, [] => none
  | i, d :: D => orM ((fr i d).map fun c => ((i : Int), c)) (fieldsR fr (i + 1) D)
theorem orM_assoc (a b c : Option (Int × Int)) : orM (orM a b) c = orM a (orM b c) := by cases a <;> rfl
theorem fieldsR_app (fr : Nat → FieldD → Option Int) : ∀ (D F : List FieldD) (i : Nat), fieldsR fr i (D ++ F) = orM (fieldsR fr i D) (fieldsR fr (i + D.length) F) := by
  intro D
  induction D with
  | nil => intro F i; rfl
  | cons d D ih =>
    intro F i
    simp only [List.cons_append, fieldsR, ih, orM_assoc, List.length_cons]
    rw [show i + 1 + D.length = i + (D.length + 1) by omega]
def setN : Nats → List UInt8 → Int × Bool → Nats
  | [], k, v => [(k, v)]
  | p :: E, k, v => if p.1 = k then (k, v) :: E else p :: setN E k v
theorem setE_nat (E : Nats) (k : List UInt8) (v : Int × Bool) : setE (natE E) k (natV v) = natE (setN E k v) := by
  induction E with
  | nil => rfl
  | cons p E ih =>
    show (if p.1 = k then (k, natV v) :: natE E else (p.1, natV p.2) :: setE (natE E) k (natV v)) = _
    by_cases h : p.1 = k
    · rw [if_pos h, show setN (p :: E) k v = (k, v) :: E from if_pos h]; rfl
    · rw [if_neg h, ih, show setN (p :: E) k v = p :: setN E k v from if_neg h]; rfl
theorem getN_setN (E : Nats) (k : List UInt8) (v : Int × Bool) : getN (setN E k v) k = some v := by
  induction E with
  | nil => simp [setN, getN]
  | cons p E ih =>
    by_cases h : p.1 = k
    · rw [show setN (p :: E) k v = (k, v) :: E from if_pos h]; simp [getN]
    · rw [show setN (p :: E) k v = p :: setN E k v from if_neg h]; simp [getN, h, ih]
/-- The first flaw of a message. -/
def msgR (E : Nats) (fr : Nat → FieldD → Option Int) (name : List UInt8) (D : List FieldD) : Option (Int × Int) :=
  orM (ifM (nameB name) (-1) 1) (orM (ifM (!(hasN E name)) (-1) 2) (orM (ifM (inB (D.length : Int) 1 40) (-1) 3) (orM (fieldsR fr 0 D) (ifM (decide ((natS E D).1 ≤ 16)) (-1) 10))))

section
variable {W : World} {x kr kk n c : Nat} {m f : Int} {A : Option Addr}
theorem ExAt.setF (h : ExAt W x m f kr A n c kk) (u : Int) : ExAt (W.setCell ⟨x, 1, none⟩ (.int .i64 u)) x m u kr A n c kk := ⟨heap_setCell_same W x 1 _ 124 (.int .i64 u) h.blk⟩
theorem ExAt.setB (h : ExAt W x m f kr A n c kk) (A' : Option Addr) (n' c' : Nat) : ExAt (W.setCell ⟨x, 4, none⟩ (.slice A' n' c')) x m f kr A' n' c' kk := ⟨heap_setCell_same W x 4 _ 124 (.slice A' n' c') h.blk⟩
end

theorem Try.sizeField (w : World) : (sizeOf 28).run Try.prog w = .ok 15 w := by kernel_rfl
theorem Try.uFields : Try.prog.underlying 48 = some (.slice 28) := by kernel_rfl
theorem sliceTo (g o n c i : Nat) (hi : i ≤ c) (w : World) : (Instr.slice 48 (.slice (some ⟨g, o, none⟩) n c) none (some (.int .i64 (i : Int))) none).run Try.prog w = .ok (.slice (some ⟨g, o, none⟩) i c) w := by
  have h1 : (0 : Int) ≤ (i : Int) ∧ (i : Int) ≤ ((c : Nat) : Int) := by omega
  simp [Instr.slice, Instr.sliceBounds, Instr.sliceBound, asIntOf, run_underlying Try.uFields, Try.sizeField, Result.andThen, h1, hi, add_at]

set_option maxRecDepth 100000 in
set_option maxHeartbeats 6400000 in
theorem message_any (x kr kk n0 c0 : Nat) (m f0 : Int) (A0 : Option Addr) (nm : List UInt8) (A : Option Addr) (c : Nat) (D : List FieldD) (S : Nat → Prop) (E : Nats) (fr : Nat → FieldD → Option Int) (w : World)
    (hx : ExAt w x m (-1) kr A0 n0 c0 kk) (hm : MapAt w kr (natE E)) (hxk : x ≠ kr) (h : SlAt FieldD.cells 15 S w A c D) (hSx : S x) (hSk : S kr) (hE : ∀ s, 0 ≤ ((getN E s).getD (0, false)).1 ∧ ((getN E s).getD (0, false)).1 ≤ 1000)
    (hlen : D.length ≤ 40 → fieldsR fr 0 D = none → (D.flatMap targB).length ≤ 4000000000)
    (hf : ∀ i d wx, D[i]? = some d → fieldsR fr 0 (D.take i) = none → Rest (fun k => k = x) w wx → ExAt wx x m (i : Int) kr A i c kk → Calls Try.prog 114 #[.pointer (some ⟨x, 0, none⟩), d.agg] wx fun e w' => e = doE (fr i d) m (i : Int) ∧ Below wx.heap.size wx w')
    (ht : fieldsR fr 0 D = none → ∀ d ∈ D, ∀ wx, Rest (fun k => k = x) w wx → Calls Try.prog 52 #[d.agg] wx fun e w' => ∃ A c, e = .returned (.slice A (targB d).length c) ∧ SlAt strCells 1 (fun i => i < wx.heap.size) w' A c (targB d) ∧ Below wx.heap.size wx w') :
    Calls Try.prog 95 #[.pointer (some ⟨x, 0, none⟩), .agg #[.string (strL nm), .slice A D.length c]] w fun e w' => e = doM (msgR E fr nm D) m ∧ Rest (fun k => k = x ∨ k = kr) w w' ∧ (msgR E fr nm D = none → MapAt w' kr (natE (setN E nm (natS E D))) ∧ ∃ A' n' c', ExAt w' x m (-1) kr A' n' c' kk) := by
  have hl : D.length ≤ 9223372036854775807 := Nat.le_trans h.1 h.2.1
  have hal := below_alloc w (.cells #[.string (strL nm), .slice A D.length c] 50)
  have hbx : (w.alloc (.cells #[.string (strL nm), .slice A D.length c] 50)).heap[w.heap.size]? = some (.cells #[.string (strL nm), .slice A D.length c] 50 (0, 0)) := heap_alloc_new w _
  have hx1 := hx.below hal hx.lt
  have hm1 := hm.below hal hm.lt
  have h1 := h.below hal
  obtain ⟨b, eb⟩ : ∃ b, w.heap.size = b := ⟨_, rfl⟩
  obtain ⟨w1, hw1⟩ : ∃ w1, w.alloc (.cells #[.string (strL nm), .slice A D.length c] 50) = w1 := ⟨_, rfl⟩
  rw [hw1] at hal hbx hx1 hm1 h1
  rw [eb] at hbx
  have hbl : b < w1.heap.size := (Array.getElem?_eq_some_iff.1 hbx).1
  have hxb : x ≠ b := by have := hx.lt; omega
  have hkb : kr ≠ b := by have := hm.lt; omega
  have hR1 : Rest (fun k => k = x) w w1 := Rest.below hal
  obtain ⟨Z, hZ⟩ : ∃ Z, msgR E fr nm D = Z := ⟨_, rfl⟩
  rw [hZ]
  have KEEP : Hid (∀ wx, Rest (fun k => k = x ∨ k = kr) w1 wx → wx.cell? ⟨b, 0, none⟩ = some (.string (strL nm)) ∧ wx.cell? ⟨b, 1, none⟩ = some (.slice A D.length c)) := Lib.hid (fun wx hb => by
    have := (hb.block b hbl (fun e => by rcases e with e | e; exact hxb e.symm; exact hkb e.symm)).trans hbx
    exact ⟨by simp [World.cell?, this], by simp [World.cell?, this]⟩)
  have KX : Hid (∀ wx, Below w1.heap.size w1 wx → ExAt wx x m (-1) kr A0 n0 c0 kk ∧ MapAt wx kr (natE E)) := Lib.hid (fun wx hb => ⟨hx1.below hb hx1.lt, hm1.below hb hm1.lt⟩)
  have HNM := fun w => Lib.hid (sizeName nm w)
  have HWI := fun w => Lib.hid (withinS (D.length : Int) 1 40 w)
  have HPS : ∀ wx, Below w1.heap.size w1 wx → Hid (Calls Try.prog 96 #[.pointer (some ⟨x, 0, none⟩), .string (strL nm)] wx fun e w' => e = .returned (.bool (hasN E nm)) ∧ Below wx.heap.size wx w') := fun wx hb => Lib.hid (passed_any x kr kk n0 c0 m (-1) A0 wx E nm (KX.out wx hb).1 (KX.out wx hb).2)
  have HDM : ∀ bv cd wx, Below w1.heap.size w1 wx → Hid (Calls Try.prog 93 #[.pointer (some ⟨x, 0, none⟩), .bool bv, .int .i64 cd] wx fun e w' => e = doE (ifR bv cd) m (-1) ∧ Below wx.heap.size wx w') := fun bv cd wx hb => Lib.hid (demand_any x kr kk n0 c0 m (-1) A0 bv cd wx (KX.out wx hb).1)
  obtain ⟨nb, hnb⟩ : ∃ nb, nameB nm = nb := ⟨_, rfl⟩
  obtain ⟨tw, htw⟩ : ∃ tw, hasN E nm = tw := ⟨_, rfl⟩
  obtain ⟨lb, hlb⟩ : ∃ lb, inB (D.length : Int) 1 40 = lb := ⟨_, rfl⟩
  rw [hnb] at HNM
  rw [htw] at HPS
  rw [hlb] at HWI
  have hzz : Z = orM (ifM nb (-1) 1) (orM (ifM (!tw) (-1) 2) (orM (ifM lb (-1) 3) (orM (fieldsR fr 0 D) (ifM (decide ((natS E D).1 ≤ 16)) (-1) 10)))) := by rw [← hZ]; unfold msgR; rw [hnb, htw, hlb]
  have HRN := Lib.hid hzz
  have hl40 : lb = true → 1 ≤ D.length ∧ D.length ≤ 40 := fun e => by
    rw [e] at hlb
    have : (1 : Int) ≤ (D.length : Int) ∧ (D.length : Int) ≤ 40 := by simpa [inB] using hlb
    omega
  have HL40 := Lib.hid hl40
  have HB1 : Hid (Below w1.heap.size w1 w1) := Lib.hid (Below.refl _ _)
  have HR1 := Lib.hid hR1
  have HAL := Lib.hid hal
  have H1 := Lib.hid h1
  have HX1 := Lib.hid hx1
  have HM1 := Lib.hid hm1
  have HLEN := Lib.hid hlen
  have HFF := Lib.hid hf
  have HTT := Lib.hid ht
  have HEE := Lib.hid hE
  have HXK := Lib.hid hxk
  have HSX := Lib.hid hSx
  have HSK := Lib.hid hSk
  have HW := Lib.hid hw1
  have EB := Lib.hid eb
  have HBL := Lib.hid hbl
  have HXL := Lib.hid hx.lt
  have HKL := Lib.hid hm.lt
  obtain ⟨y0, y1⟩ := KEEP.out w1 (Rest.refl _ _)
  clear hal hbx hx1 hm1 h1 eb hw1 hbl hxb hkb hR1 hZ hnb htw hlb hzz hl40 hx hm hxk h hSx hSk hE hlen hf ht
  go_enter Try.func95, Try.ntmps95
  go_upto_region 1 with fail
  rw [HW.out, EB.out]
  go_wp2_with (go_at_call 94; refine ((HNM _).out).mono ?_; rintro e w' ⟨rfl, hw'⟩; have hw'' := hw'.symm; clear hw'; subst hw'')
  cases nb
  · have HD := Lib.hid (HDM false 1 w1 HB1.out).out
    unfold ifR doE flawE at HD
    simp only [Bool.false_eq_true, if_false] at HD
    go_wp2_with fail
    refine HD.out.mono ?_
    rintro e w2 ⟨rfl, hb2'⟩
    have hzn := HRN.out
    simp only [ifM, orM, Bool.not_true, Bool.not_false, Bool.false_eq_true, if_true, if_false] at hzn
    exact ⟨rfl, by rw [hzn]; rfl, Rest.below (HAL.out.trans ((HB1.out.trans (hb2'.mono HB1.out.size)).mono HAL.out.size)), fun e => by rw [hzn] at e; cases e⟩
  · have HD := Lib.hid (HDM true 1 w1 HB1.out).out
    unfold ifR doE at HD
    simp only [if_true] at HD
    go_wp2_with fail
    refine HD.out.mono ?_
    rintro e w2 ⟨rfl, hb2'⟩
    have HB2 := Lib.hid (HB1.out.trans (hb2'.mono HB1.out.size))
    clear hb2' HD
    clear y0 y1
    obtain ⟨y0, y1⟩ := KEEP.out w2 (Rest.below HB2.out)
    go_wp2_with (go_at_call 96; refine ((HPS _ HB2.out).out).mono ?_; rintro e wp ⟨rfl, hbp⟩; have HBp := Lib.hid (HB2.out.trans (hbp.mono HB2.out.size)); clear hbp)
    cases tw
    · have HD := Lib.hid (HDM true 2 wp HBp.out).out
      unfold ifR doE at HD
      simp only [if_true] at HD
      go_wp2_with fail
      refine HD.out.mono ?_
      rintro e w3 ⟨rfl, hb3'⟩
      have HB3 := Lib.hid (HBp.out.trans (hb3'.mono HBp.out.size))
      clear hb3' HD
      clear y0 y1
      obtain ⟨y0, y1⟩ := KEEP.out w3 (Rest.below HB3.out)
      go_wp2_with (go_at_call 41; refine ((HWI _).out).mono ?_; rintro e w' ⟨rfl, hw'⟩; have hw'' := hw'.symm; clear hw'; subst hw'')
      cases lb
      · have HD := Lib.hid (HDM false 3 w3 HB3.out).out
        unfold ifR doE flawE at HD
        simp only [Bool.false_eq_true, if_false] at HD
        go_wp2_with fail
        refine HD.out.mono ?_
        rintro e w4 ⟨rfl, hb4'⟩
        have hzn := HRN.out
        simp only [ifM, orM, Bool.not_true, Bool.not_false, Bool.false_eq_true, if_true, if_false] at hzn
        exact ⟨rfl, by rw [hzn]; rfl, Rest.below (HAL.out.trans ((HB3.out.trans (hb4'.mono HB3.out.size)).mono HAL.out.size)), fun e => by rw [hzn] at e; cases e⟩
      · have HD := Lib.hid (HDM true 3 w3 HB3.out).out
        unfold ifR doE at HD
        simp only [if_true] at HD
        go_wp2_with fail
        refine HD.out.mono ?_
        rintro e w4 ⟨rfl, hb4'⟩
        have HB4 := Lib.hid (HB3.out.trans (hb4'.mono HB3.out.size))
        clear hb4' HD
        clear y0 y1
        obtain ⟨y0, y1⟩ := KEEP.out w4 (Rest.below HB4.out)
        obtain ⟨hd1, hd40⟩ := HL40.out (by first | rfl | trivial)
        have HD40 := Lib.hid hd40
        have HRN2 : Hid (Z = orM (fieldsR fr 0 D) (ifM (decide ((natS E D).1 ≤ 16)) (-1) 10)) := Lib.hid HRN.out
        go_wp2_with fail
        clear y0 y1
        go_loopw [27] (fun x27 wr => ∃ (i n' c' : Nat) (A' : Option Addr) (f' : Int), i ≤ D.length ∧ x27 = .int .i64 ((i : Nat) : Int) ∧ fieldsR fr 0 (D.take i) = none ∧ Rest (fun k => k = x) w1 wr ∧ ExAt wr x m f' kr A' n' c' kk) (fun x27 _ => D.length - (intOf x27).toNat)
        case atStart => exact ⟨0, n0, c0, A0, -1, Nat.zero_le _, rfl, rfl, Rest.below HB4.out, (KX.out w4 HB4.out).1⟩
        case round =>
          obtain ⟨i, n', c', A', f', hi, rfl, hfr, hrs, hex⟩ := hrel
          by_cases hlt : i < D.length
          · obtain ⟨d, hd⟩ : ∃ d, D[i]? = some d := ⟨_, List.getElem?_eq_getElem hlt⟩
            have hcap := H1.out.1
            have hslA : ∃ g o, A = some ⟨g, o, none⟩ := by
              obtain ⟨g, o, e, _⟩ := H1.out.2.2 i d hd
              exact ⟨g, o, e⟩
            have hAT := (H1.out.rest hrs (fun k _ e => by rw [e]; exact HSX.out))
            obtain ⟨g, o, hA, hx⟩ := hAT.at_ hd
            have HAA := Lib.hid hA
            have x0 : wr.cell? ⟨g, o + i * 15, none⟩ = some (.string (strL d.name)) := hx 0 _ rfl
            have x1 : wr.cell? ⟨g, o + i * 15 + 1, none⟩ = some (.int .i64 d.kind) := hx 1 _ rfl
            have x2 : wr.cell? ⟨g, o + i * 15 + 2, none⟩ = some (.int .i64 d.bits) := hx 2 _ rfl
            have x3 : wr.cell? ⟨g, o + i * 15 + 3, none⟩ = some (.bool d.little) := hx 3 _ rfl
            have x4 : wr.cell? ⟨g, o + i * 15 + 4, none⟩ = some (.bool d.loose) := hx 4 _ rfl
            have x5 : wr.cell? ⟨g, o + i * 15 + 5, none⟩ = some (.int .i64 d.low) := hx 5 _ rfl
            have x6 : wr.cell? ⟨g, o + i * 15 + 6, none⟩ = some (.int .i64 d.high) := hx 6 _ rfl
            have x7 : wr.cell? ⟨g, o + i * 15 + 7, none⟩ = some (.int .i64 d.base) := hx 7 _ rfl
            have x8 : wr.cell? ⟨g, o + i * 15 + 8, none⟩ = some (.slice d.ta d.terms.length d.tc) := hx 8 _ rfl
            have x9 : wr.cell? ⟨g, o + i * 15 + 9, none⟩ = some (.string (strL d.of_)) := hx 9 _ rfl
            have x10 : wr.cell? ⟨g, o + i * 15 + 10, none⟩ = some (.string (strL d.tag)) := hx 10 _ rfl
            have x11 : wr.cell? ⟨g, o + i * 15 + 11, none⟩ = some (.string (strL d.from_)) := hx 11 _ rfl
            have x12 : wr.cell? ⟨g, o + i * 15 + 12, none⟩ = some (.slice d.ca d.cases.length d.cc) := hx 12 _ rfl
            have x13 : wr.cell? ⟨g, o + i * 15 + 13, none⟩ = some (.int .i64 d.check) := hx 13 _ rfl
            have x14 : wr.cell? ⟨g, o + i * 15 + 14, none⟩ = some (.int .i64 d.key) := hx 14 _ rfl
            have hal5 := below_alloc wr (.cells #[.string (strL d.name), .int .i64 d.kind, .int .i64 d.bits, .bool d.little, .bool d.loose, .int .i64 d.low, .int .i64 d.high, .int .i64 d.base, .slice d.ta d.terms.length d.tc, .string (strL d.of_), .string (strL d.tag), .string (strL d.from_), .slice d.ca d.cases.length d.cc, .int .i64 d.check, .int .i64 d.key] 28)
            have hbx5 := FBox.new wr d
            obtain ⟨tb, etb⟩ : ∃ tb, wr.heap.size = tb := ⟨_, rfl⟩
            obtain ⟨w5, hw5⟩ : ∃ w5, wr.alloc (.cells #[.string (strL d.name), .int .i64 d.kind, .int .i64 d.bits, .bool d.little, .bool d.loose, .int .i64 d.low, .int .i64 d.high, .int .i64 d.base, .slice d.ta d.terms.length d.tc, .string (strL d.of_), .string (strL d.tag), .string (strL d.from_), .slice d.ca d.cases.length d.cc, .int .i64 d.check, .int .i64 d.key] 28) = w5 := ⟨_, rfl⟩
            rw [hw5] at hal5 hbx5
            rw [etb] at hbx5
            have hx5 := hex.below hal5 hex.lt
            have htx : tb ≠ x := by have := hex.lt; omega
            have v1 := hx5.c1
            have vf1 := hx5.fr 1
            have hx6 := hx5.setF (i : Int)
            have hs6 : Rest (fun k => k = x) w5 (w5.setCell ⟨x, 1, none⟩ (.int .i64 (i : Int))) := (Rest.refl (fun k => k = x) w5).setCell (S := fun k => k = x) (p := ⟨x, 1, none⟩) (fun _ => rfl) _
            obtain ⟨w6, hw6⟩ : ∃ w6, w5.setCell ⟨x, 1, none⟩ (.int .i64 (i : Int)) = w6 := ⟨_, rfl⟩
            rw [hw6] at hx6 hs6
            have v4 := hx6.c4
            have vf4 := hx6.fr 4
            have hx7 := hx6.setB A i c
            have hs7 : Rest (fun k => k = x) w6 (w6.setCell ⟨x, 4, none⟩ (.slice A i c)) := (Rest.refl (fun k => k = x) w6).setCell (S := fun k => k = x) (p := ⟨x, 4, none⟩) (fun _ => rfl) _
            obtain ⟨w7, hw7⟩ : ∃ w7, w6.setCell ⟨x, 4, none⟩ (.slice A i c) = w7 := ⟨_, rfl⟩
            rw [hw7] at hx7 hs7
            have hs57 := hs6.trans hs7 (fun _ _ e => e)
            have hbx7 := hbx5.rest hs57 htx
            have hs1r5 : Rest (fun k => k = x) w1 w5 := hrs.trans (Rest.below (S := fun k => k = x) hal5) (fun _ _ e => e)
            have hs17 := hs1r5.trans hs57 (fun _ _ e => e)
            obtain ⟨k0, k1⟩ := KEEP.out w6 ((hs1r5.trans hs6 (fun _ _ e => e)).mono (fun _ _ e => .inl e))
            have hsl : (Instr.slice 48 (.slice A D.length c) none (some (.int .i64 (i : Int))) none).run Try.prog w6 = .ok (.slice A i c) w6 := by
              obtain ⟨g, o, e⟩ := hslA
              rw [e]
              exact sliceTo g o D.length c i (by omega) w6
            have HFC := HFF.out i d w7 hd hfr (HR1.out.trans hs17 (fun _ _ e => e)) hx7
            unfold FieldD.agg at HFC
            obtain ⟨R, hR⟩ : ∃ R, fr i d = R := ⟨_, rfl⟩
            have hnx : fieldsR fr 0 (D.take (i + 1)) = R.map fun c => ((i : Int), c) := by
              rw [(drop_of hd).2, fieldsR_app, hfr]
              simp only [fieldsR, List.length_take, Nat.min_eq_left hi, Nat.zero_add, hR]
              cases R <;> rfl
            have hall : ∀ c, R = some c → fieldsR fr 0 D = some ((i : Int), c) := by
              intro c e
              rw [← List.take_append_drop (i + 1) D, fieldsR_app, hnx, e]
              rfl
            rw [hR] at HFC
            have HNX := Lib.hid hnx
            have HALL := Lib.hid hall
            have HFC := Lib.hid HFC
            have W5 := Lib.hid hw5
            have W6 := Lib.hid hw6
            have W7 := Lib.hid hw7
            have ETB := Lib.hid etb
            have X7 := Lib.hid hx7
            have S17 := Lib.hid hs17
            have q0 := hbx7.c0
            have q1 := hbx7.c1
            have q2 := hbx7.c2
            have q3 := hbx7.c3
            have q4 := hbx7.c4
            have q5 := hbx7.c5
            have q6 := hbx7.c6
            have q7 := hbx7.c7
            have q8 := hbx7.c8
            have q9 := hbx7.c9
            have q10 := hbx7.c10
            have q11 := hbx7.c11
            have q12 := hbx7.c12
            have q13 := hbx7.c13
            have q14 := hbx7.c14
            subst hA
            clear hd hfr hrs hex hslA hAT hx hal5 hbx5 etb hw5 hx5 htx hx6 hs6 hw6 hx7 hs7 hw7 hs57 hbx7 hs1r5 hs17 hR hnx hall hd1 hcap k0
            go_upto_region 7 with fail
            rw [W5.out, ETB.out]
            go_upto_region 8 with fail
            rw [W6.out]
            go_upto_region 9 with fail
            rw [W7.out]
            go_wp2_with fail
            refine HFC.out.mono ?_
            rintro e w8 ⟨rfl, hb8⟩
            have S18 := Lib.hid (S17.out.trans (Rest.below (S := fun k => k = x) hb8) (fun _ _ e => e))
            have X8 := Lib.hid (X7.out.below hb8 X7.out.lt)
            clear hb8 q0 q1 q2 q3 q4 q5 q6 q7 q8 q9 q10 q11 q12 q13 q14 x0 x1 x2 x3 x4 x5 x6 x7 x8 x9 x10 x11 x12 x13 x14
            cases R with
            | none =>
              dsimp only [doE]
              go_wp2_with fail
              go_roundw
              case rel => exact ⟨i + 1, i, c, some ⟨g, o, none⟩, (i : Int), by omega, by go_num, HNX.out, S18.out, X8.out⟩
              case measure => simp [intOf]; omega
            | some cd =>
              dsimp only [doE, flawE]
              have hzn : Z = some ((i : Int), cd) := by rw [HRN2.out, HALL.out cd rfl]; rfl
              exact ⟨rfl, by rw [hzn]; rfl, (HR1.out.trans S18.out (fun _ _ e => e)).mono (fun _ _ e => .inl e), fun e => by rw [hzn] at e; cases e⟩
          · obtain rfl : i = D.length := by omega
            rw [List.take_length] at hfr
            obtain ⟨⟨zd, zs⟩, hz⟩ : ∃ z, natS E D = z := ⟨_, rfl⟩
            have hZ2 : Z = ifM (decide (zd ≤ 16)) (-1) 10 := by rw [HRN2.out, hfr, hz]; rfl
            have v1 := hex.c1
            have vf1 := hex.fr 1
            have hx9 := hex.setF (-1)
            have hs9 : Rest (fun k => k = x) w1 (wr.setCell ⟨x, 1, none⟩ (.int .i64 (-1))) := hrs.setCell (S := fun k => k = x) (p := ⟨x, 1, none⟩) (fun _ => rfl) _
            obtain ⟨w9, hw9⟩ : ∃ w9, wr.setCell ⟨x, 1, none⟩ (.int .i64 (-1)) = w9 := ⟨_, rfl⟩
            rw [hw9] at hx9 hs9
            have hm9 := HM1.out.rest hs9 (fun e => HXK.out e.symm)
            have HNF : ∀ wx, Below w9.heap.size w9 wx → Calls Try.prog 115 #[.agg #[.string (strL nm), .slice A D.length c], .map (some kr)] wx fun e w' => e = .returned (natV (natS E D)) ∧ Below wx.heap.size wx w' := fun wx hd9 => natureOf_any nm A c D S kr E wx ((H1.out.rest hs9 (fun k _ e => by rw [e]; exact HSX.out)).below hd9) (HLEN.out HD40.out hfr) (fun d hd wy hb => HTT.out hfr d hd wy (((HR1.out.trans hs9 (fun _ _ e => e)).trans (Rest.below (S := fun k => k = x) hd9) (fun _ _ e => e)).trans (Rest.below (S := fun k => k = x) hb) (fun _ _ e => e))) (hm9.below hd9 hm9.lt) HEE.out
            rw [hz] at HNF
            unfold natV at HNF
            have HNF := Lib.hid HNF
            have KP : Hid (∀ wx, Below w9.heap.size w9 wx → wx.cell? ⟨b, 0, none⟩ = some (.string (strL nm)) ∧ wx.cell? ⟨b, 1, none⟩ = some (.slice A D.length c) ∧ wx.cell? ⟨x, 3, none⟩ = some (.map (some kr))) := Lib.hid (fun wx hb => ⟨(KEEP.out wx ((hs9.mono (fun _ _ e => .inl e)).trans (Rest.below (S := fun _ => False) hb) (fun _ _ e => e.elim))).1, (KEEP.out wx ((hs9.mono (fun _ _ e => .inl e)).trans (Rest.below (S := fun _ => False) hb) (fun _ _ e => e.elim))).2, (hx9.below hb hx9.lt).c3⟩)
            obtain ⟨y0, y1⟩ := KEEP.out w9 (hs9.mono (fun _ _ e => .inl e))
            have c3 := hx9.c3
            have W9 := Lib.hid hw9
            have X9 := Lib.hid hx9
            have S9 := Lib.hid hs9
            have M9 := Lib.hid hm9
            have HZ2 := Lib.hid hZ2
            have HZZ := Lib.hid hz
            clear hex hrs hfr hz hZ2 hx9 hs9 hw9 hm9
            go_upto_region 12 with fail
            rw [W9.out]
            clear v1 vf1
            refine wp_region_noPanic ?_
            go_region_held (fun w' => w'.cell? ⟨b, 0, none⟩ = some (.string (strL nm)) ∧ w'.cell? ⟨b, 1, none⟩ = some (.slice A D.length c) ∧ w'.cell? ⟨x, 3, none⟩ = some (.map (some kr))) (first | exact KW.out | exact KP.out _ HB910.out | exact KP.out _ (Below.refl _ _).drew | exact KP.out _ (Below.refl _ _)) (first | (go_at_call 115; refine (HNF.out _ (by first | exact (Below.refl _ _).drew | exact Below.refl _ _)).mono ?_; rintro e w10 ⟨rfl, hb10⟩; have HB910 := Lib.hid (by first | exact (Below.refl _ _).drew.trans hb10 | exact hb10 : Below w9.heap.size w9 w10); clear hb10; obtain ⟨w11, hrun, hm11, hr11⟩ := run_store (P := Try.prog) Try.underlying108 Try.ustr (M9.out.below HB910.out M9.out.lt) nm (natV (zd, zs)); have hs11 : Rest (fun k => k = x ∨ k = kr) w1 w11 := ((S9.out.mono (fun _ _ e => .inl e)).trans (Rest.below (S := fun _ => False) HB910.out) (fun _ _ e => e.elim)).trans hr11 (fun _ _ e => .inr e); have hx11 := (X9.out.below HB910.out X9.out.lt).rest hr11 HXK.out; have KW := Lib.hid (⟨(KEEP.out w11 hs11).1, (KEEP.out w11 hs11).2, hx11.c3⟩ : w11.cell? ⟨b, 0, none⟩ = some (.string (strL nm)) ∧ w11.cell? ⟨b, 1, none⟩ = some (.slice A D.length c) ∧ w11.cell? ⟨x, 3, none⟩ = some (.map (some kr))); have M11 := Lib.hid hm11; have R11 := Lib.hid hr11; have X11 := Lib.hid hx11; have S11 := Lib.hid hs11; clear hm11 hr11 hx11 hs11; unfold natV at hrun))
            all_goals
              refine NoPanic.normal ?_
              clear y0 y1 c3 hrun
              have hx11 := X11.out
              have hm11 := M11.out
              rw [setE_nat] at hm11
              obtain ⟨u0, u1, u3⟩ := KW.out
              have hrunB : ∀ n, (Instr.lookup 108 (.map (some kr)) (.string (strL nm)) false).run Try.prog (w11.drewN n) = .ok (.agg #[.int .i64 zd, .bool zs]) (w11.drewN n) := fun n => by
                have h := run_look (P := Try.prog) Try.underlying108 Try.ustr (Try.zeroNat (w11.drewN n)) (hm11.below (below_drewN w11 n) hm11.lt) nm
                rwa [look_nat, getN_setN] at h
              have hrunC : (Instr.lookup 108 (.map (some kr)) (.string (strL nm)) false).run Try.prog w11.drew = .ok (.agg #[.int .i64 zd, .bool zs]) w11.drew := hrunB 1
              have hfC : (Instr.field 102 (.agg #[.int .i64 zd, .bool zs]) 0).run Try.prog w11.drew = .ok (.int .i64 zd) w11.drew := Try.fieldNat0 _ _ _
              have hrunD : (Instr.lookup 108 (.map (some kr)) (.string (strL nm)) false).run Try.prog w11 = .ok (.agg #[.int .i64 zd, .bool zs]) w11 := hrunB 0
              have hfD : (Instr.field 102 (.agg #[.int .i64 zd, .bool zs]) 0).run Try.prog w11 = .ok (.int .i64 zd) w11 := Try.fieldNat0 _ _ _
              clear hrunB
              obtain ⟨ld, eld⟩ : ∃ ld, decide (zd ≤ 16) = ld := ⟨_, rfl⟩
              have HZ3 : Hid (Z = ifM ld (-1) 10) := Lib.hid (by rw [HZ2.out, eld])
              have HDL := Lib.hid (demand_any x kr kk _ _ m (-1) _ ld 10 (w11.drewN 1) (hx11.below (below_drewN w11 1) hx11.lt))
              have HSF := Lib.hid ((Rest.below (S := fun k => k = x ∨ k = kr) HAL.out).trans S11.out (fun _ _ e => e))
              have MF := Lib.hid (show MapAt w11 kr (natE (setN E nm (natS E D))) by rw [HZZ.out]; exact hm11)
              clear hx11 hm11
              go_upto_region 13 with fail
              go_still_tail 10, (by kernel_rfl)
              change wpList _ _ _ _ _ (w11.drewN 1)
              go_wp2_with fail
              cases ld
              · have HD := Lib.hid HDL.out
                unfold ifR doE flawE at HD
                simp only [Bool.false_eq_true, if_false] at HD
                refine HD.out.mono ?_
                rintro e w12 ⟨rfl, hb12⟩
                have hzn := HZ3.out
                simp only [ifM, Bool.false_eq_true, if_false] at hzn
                exact ⟨rfl, by rw [hzn]; rfl, HSF.out.trans (Rest.below (S := fun _ => False) ((below_drewN w11 1).trans hb12)) (fun _ _ e => e.elim), fun e => by rw [hzn] at e; cases e⟩
              · have HD := Lib.hid HDL.out
                unfold ifR doE at HD
                simp only [if_true] at HD
                refine HD.out.mono ?_
                rintro e w12 ⟨rfl, hb12⟩
                have hbz := Lib.hid ((below_drewN w11 1).trans hb12)
                clear hb12
                have hzn := Lib.hid (show Z = none from HZ3.out)
                go_wp2_with fail
                go_end0
                exact ⟨by rw [hzn.out]; rfl, HSF.out.trans (Rest.below (S := fun _ => False) hbz.out) (fun _ _ e => e.elim), fun _ => ⟨MF.out.below hbz.out MF.out.lt, _, _, _, X11.out.below hbz.out X11.out.lt⟩⟩
    · have HD := Lib.hid (HDM false 2 wp HBp.out).out
      unfold ifR doE flawE at HD
      simp only [Bool.false_eq_true, if_false] at HD
      go_wp2_with fail
      refine HD.out.mono ?_
      rintro e w3 ⟨rfl, hb3'⟩
      have hzn := HRN.out
      simp only [ifM, orM, Bool.not_true, Bool.not_false, Bool.false_eq_true, if_true, if_false] at hzn
      exact ⟨rfl, by rw [hzn]; rfl, Rest.below (HAL.out.trans ((HBp.out.trans (hb3'.mono HBp.out.size)).mono HAL.out.size)), fun e => by rw [hzn] at e; cases e⟩
end Go.Proofs.Ytbpkppmbbpoohaa

namespace Go.Proofs.Ytbpkppmbbpoohaa
open Go.RowKit Go.Shelf

/-- Nothing, or a flaw at a place. -/
def doD (r : Option (Int × Int × Int)) : Ending := match r with | none => .returned (.tuple #[]) | some p => flawE p.1 p.2.1 p.2.2
def orD (r s : Option (Int × Int × Int)) : Option (Int × Int × Int) := match r with | none => s | some c => some c
def ifD (b : Bool) (c : Int) : Option (Int × Int × Int) := if b then none else some (-1, -1, c)
/-- What is known behind a message. -/
def stepN (E : Nats) (mm : MsgD) : Nats := setN E mm.name (natS E mm.fields)
def defE (D : List MsgD) : Nats := D.foldl stepN []
theorem defE_snoc (D : List MsgD) (mm : MsgD) : defE (D ++ [mm]) = stepN (defE D) mm := by simp [defE, List.foldl_append]
/-- The first flaw of messages. -/
def msgsR (mr : Nats → Nat → MsgD → Option (Int × Int)) : Nats → Nat → List MsgD → Option (Int × Int × Int)
  | _, _, [] => none
  | E, i, mm :: D => orD ((mr E i mm).map fun c => ((i : Int), c.1, c.2)) (msgsR mr (stepN E mm) (i + 1) D)
theorem orD_assoc (a b c : Option (Int × Int × Int)) : orD (orD a b) c = orD a (orD b c) := by cases a <;> rfl
theorem msgsR_app (mr : Nats → Nat → MsgD → Option (Int × Int)) : ∀ (D F : List MsgD) (E : Nats) (i : Nat), msgsR mr E i (D ++ F) = orD (msgsR mr E i D) (msgsR mr (D.foldl stepN E) (i + D.length) F) := by
  intro D
  induction D with
  | nil => intro F E i; rfl
  | cons mm D ih =>
    intro F E i
    simp only [List.cons_append, msgsR, ih, orD_assoc, List.length_cons, List.foldl_cons]
    rw [show i + 1 + D.length = i + (D.length + 1) by omega]
/-- The first flaw of a definition. -/
def defR (mr : Nats → Nat → MsgD → Option (Int × Int)) (name : List UInt8) (D : List MsgD) (start : List UInt8) : Option (Int × Int × Int) :=
  orD (ifD (nameB name) 1) (orD (ifD (inB (D.length : Int) 1 60) 3) (orD (msgsR mr [] 0 D) (ifD (hasN (defE D) start) 11)))

section
variable {W : World} {x kr kk n c : Nat} {m f : Int} {A : Option Addr}
theorem ExAt.setAt (h : ExAt W x m f kr A n c kk) (u v : Int) : ExAt (((W.setCell ⟨x, 0, none⟩ (.int .i64 u)).setCell ⟨x, 1, none⟩ (.int .i64 v)).setCell ⟨x, 2, none⟩ (.int .i64 0)) x u v kr A n c kk :=
  ⟨heap_setCell_same _ x 2 _ 124 (.int .i64 0) (heap_setCell_same _ x 1 _ 124 (.int .i64 v) (heap_setCell_same W x 0 _ 124 (.int .i64 u) h.blk))⟩
end
theorem rest_setAt (W : World) (x : Nat) (a b c : Value) : Rest (fun k => k = x) W (((W.setCell ⟨x, 0, none⟩ a).setCell ⟨x, 1, none⟩ b).setCell ⟨x, 2, none⟩ c) :=
  (((Rest.refl (fun k => k = x) W).setCell (S := fun k => k = x) (p := ⟨x, 0, none⟩) (fun _ => rfl) _).setCell (S := fun k => k = x) (p := ⟨x, 1, none⟩) (fun _ => rfl) _).setCell (S := fun k => k = x) (p := ⟨x, 2, none⟩) (fun _ => rfl) _

set_option maxRecDepth 100000 in
set_option maxHeartbeats 6400000 in
theorem definition_any (x kr kk n0 c0 : Nat) (m0 f0 : Int) (A0 : Option Addr) (nm st : List UInt8) (A : Option Addr) (c : Nat) (D : List MsgD) (S : Nat → Prop) (mr : Nats → Nat → MsgD → Option (Int × Int)) (w : World)
    (hx : ExAt w x m0 f0 kr A0 n0 c0 kk) (hm : MapAt w kr (natE [])) (hxk : x ≠ kr) (h : SlAt MsgD.cells 2 S w A c D) (hSx : S x) (hSk : S kr)
    (hf : ∀ i mm wx, D[i]? = some mm → D.length ≤ 60 → msgsR mr [] 0 (D.take i) = none → Rest (fun k => k = x ∨ k = kr) w wx → (∃ A' n' c', ExAt wx x (i : Int) (-1) kr A' n' c' kk) → MapAt wx kr (natE (defE (D.take i))) →
      Calls Try.prog 95 #[.pointer (some ⟨x, 0, none⟩), mm.agg] wx fun e w' => e = doM (mr (defE (D.take i)) i mm) (i : Int) ∧ Rest (fun k => k = x ∨ k = kr) wx w' ∧ (mr (defE (D.take i)) i mm = none → MapAt w' kr (natE (stepN (defE (D.take i)) mm)) ∧ ∃ A' n' c', ExAt w' x (i : Int) (-1) kr A' n' c' kk)) :
    Calls Try.prog 75 #[.pointer (some ⟨x, 0, none⟩), .agg #[.string (strL nm), .slice A D.length c, .string (strL st)]] w fun e w' => e = doD (defR mr nm D st) ∧ Rest (fun k => k = x ∨ k = kr) w w' ∧ (defR mr nm D st = none → MapAt w' kr (natE (defE D)) ∧ ∃ A' n' c', ExAt w' x (-1) (-1) kr A' n' c' kk) := by
  have hl : D.length ≤ 9223372036854775807 := Nat.le_trans h.1 h.2.1
  have hal := below_alloc w (.cells #[.string (strL nm), .slice A D.length c, .string (strL st)] 44)
  have hbx : (w.alloc (.cells #[.string (strL nm), .slice A D.length c, .string (strL st)] 44)).heap[w.heap.size]? = some (.cells #[.string (strL nm), .slice A D.length c, .string (strL st)] 44 (0, 0)) := heap_alloc_new w _
  have hx1 := hx.below hal hx.lt
  have hm1 := hm.below hal hm.lt
  have h1 := h.below hal
  obtain ⟨b, eb⟩ : ∃ b, w.heap.size = b := ⟨_, rfl⟩
  obtain ⟨w0, hw0⟩ : ∃ w0, w.alloc (.cells #[.string (strL nm), .slice A D.length c, .string (strL st)] 44) = w0 := ⟨_, rfl⟩
  rw [hw0] at hal hbx hx1 hm1 h1
  rw [eb] at hbx
  have hbl : b < w0.heap.size := (Array.getElem?_eq_some_iff.1 hbx).1
  have hxb : x ≠ b := by have := hx.lt; omega
  have hkb : kr ≠ b := by have := hm.lt; omega
  have v0 := hx1.c0
  have v1 := hx1.c1
  have v2 := hx1.c2
  have vf0 := hx1.fr 0
  have vf1 := hx1.fr 1
  have vf2 := hx1.fr 2
  have hxs := hx1.setAt (-1) (-1)
  have hrs1 := rest_setAt w0 x (.int .i64 (-1)) (.int .i64 (-1)) (.int .i64 0)
  obtain ⟨w1, hw1⟩ : ∃ w1, ((w0.setCell ⟨x, 0, none⟩ (.int .i64 (-1))).setCell ⟨x, 1, none⟩ (.int .i64 (-1))).setCell ⟨x, 2, none⟩ (.int .i64 0) = w1 := ⟨_, rfl⟩
  rw [hw1] at hxs hrs1
  have hR1 : Rest (fun k => k = x ∨ k = kr) w w1 := (Rest.below (S := fun k => k = x ∨ k = kr) hal).trans hrs1 (fun _ _ e => .inl e)
  have hbx1 := (hrs1.block b hbl (fun e => hxb e.symm)).trans hbx
  have hm2 := hm1.rest hrs1 (fun e => hxk e.symm)
  have h2 := h1.rest hrs1 (fun k _ e => by rw [e]; exact hSx)
  have hbl1 : b < w1.heap.size := Nat.lt_of_lt_of_le hbl hrs1.size
  obtain ⟨Z, hZ⟩ : ∃ Z, defR mr nm D st = Z := ⟨_, rfl⟩
  rw [hZ]
  have KEEP : Hid (∀ wx, Rest (fun k => k = x ∨ k = kr) w1 wx → wx.cell? ⟨b, 0, none⟩ = some (.string (strL nm)) ∧ wx.cell? ⟨b, 1, none⟩ = some (.slice A D.length c) ∧ wx.cell? ⟨b, 2, none⟩ = some (.string (strL st))) := Lib.hid (fun wx hb => by
    have := (hb.block b hbl1 (fun e => by rcases e with e | e; exact hxb e.symm; exact hkb e.symm)).trans hbx1
    exact ⟨by simp [World.cell?, this], by simp [World.cell?, this], by simp [World.cell?, this]⟩)
  have KX : Hid (∀ wx, Below w1.heap.size w1 wx → ExAt wx x (-1) (-1) kr A0 n0 c0 kk ∧ MapAt wx kr (natE [])) := Lib.hid (fun wx hb => ⟨hxs.below hb hxs.lt, hm2.below hb hm2.lt⟩)
  have HNM := fun w => Lib.hid (sizeName nm w)
  have HWI := fun w => Lib.hid (withinS (D.length : Int) 1 60 w)
  have HDM : ∀ bv cd wx, Below w1.heap.size w1 wx → Hid (Calls Try.prog 93 #[.pointer (some ⟨x, 0, none⟩), .bool bv, .int .i64 cd] wx fun e w' => e = doE (ifR bv cd) (-1) (-1) ∧ Below wx.heap.size wx w') := fun bv cd wx hb => Lib.hid (demand_any x kr kk n0 c0 (-1) (-1) A0 bv cd wx (KX.out wx hb).1)
  obtain ⟨nb, hnb⟩ : ∃ nb, nameB nm = nb := ⟨_, rfl⟩
  obtain ⟨lb, hlb⟩ : ∃ lb, inB (D.length : Int) 1 60 = lb := ⟨_, rfl⟩
  rw [hnb] at HNM
  rw [hlb] at HWI
  have hzz : Z = orD (ifD nb 1) (orD (ifD lb 3) (orD (msgsR mr [] 0 D) (ifD (hasN (defE D) st) 11))) := by rw [← hZ]; unfold defR; rw [hnb, hlb]
  have HRN := Lib.hid hzz
  have hl60 : lb = true → D.length ≤ 60 := fun e => by
    rw [e] at hlb
    have : (1 : Int) ≤ (D.length : Int) ∧ (D.length : Int) ≤ 60 := by simpa [inB] using hlb
    omega
  have HL60 := Lib.hid hl60
  have HB1 : Hid (Below w1.heap.size w1 w1) := Lib.hid (Below.refl _ _)
  have HR1 := Lib.hid hR1
  have H2 := Lib.hid h2
  have HFF := Lib.hid hf
  have HXK := Lib.hid hxk
  have HSX := Lib.hid hSx
  have HSK := Lib.hid hSk
  have HW0 := Lib.hid hw0
  have HW1 := Lib.hid hw1
  have EB := Lib.hid eb
  obtain ⟨y0, y1, _⟩ := KEEP.out w1 (Rest.refl _ _)
  clear hal hbx hx1 hm1 h1 eb hw0 hw1 hbl hxb hkb hR1 hZ hnb hlb hzz hl60 hx hm hxk h hSx hSk hf hxs hrs1 hbx1 hm2 h2 hbl1
  go_enter Try.func75, Try.ntmps75
  go_upto_region 1 with fail
  rw [HW0.out, EB.out]
  go_upto_region 2 with fail
  rw [HW1.out]
  clear v0 v1 v2 vf0 vf1 vf2
  go_wp2_with (go_at_call 94; refine ((HNM _).out).mono ?_; rintro e w' ⟨rfl, hw'⟩; have hw'' := hw'.symm; clear hw'; subst hw'')
  cases nb
  · have HD := Lib.hid (HDM false 1 w1 HB1.out).out
    unfold ifR doE flawE at HD
    simp only [Bool.false_eq_true, if_false] at HD
    go_wp2_with fail
    refine HD.out.mono ?_
    rintro e w2 ⟨rfl, hb2'⟩
    have hzn := HRN.out
    simp only [ifD, orD, Bool.false_eq_true, if_true, if_false] at hzn
    exact ⟨rfl, by rw [hzn]; rfl, HR1.out.trans (Rest.below (S := fun _ => False) (HB1.out.trans (hb2'.mono HB1.out.size))) (fun _ _ e => e.elim), fun e => by rw [hzn] at e; cases e⟩
  · have HD := Lib.hid (HDM true 1 w1 HB1.out).out
    unfold ifR doE at HD
    simp only [if_true] at HD
    go_wp2_with fail
    refine HD.out.mono ?_
    rintro e w2 ⟨rfl, hb2'⟩
    have HB2 := Lib.hid (HB1.out.trans (hb2'.mono HB1.out.size))
    clear hb2' HD
    clear y0 y1
    obtain ⟨y0, y1, _⟩ := KEEP.out w2 (Rest.below HB2.out)
    go_wp2_with (go_at_call 41; refine ((HWI _).out).mono ?_; rintro e w' ⟨rfl, hw'⟩; have hw'' := hw'.symm; clear hw'; subst hw'')
    cases lb
    · have HD := Lib.hid (HDM false 3 w2 HB2.out).out
      unfold ifR doE flawE at HD
      simp only [Bool.false_eq_true, if_false] at HD
      go_wp2_with fail
      refine HD.out.mono ?_
      rintro e w3 ⟨rfl, hb3'⟩
      have hzn := HRN.out
      simp only [ifD, orD, Bool.false_eq_true, if_true, if_false] at hzn
      exact ⟨rfl, by rw [hzn]; rfl, HR1.out.trans (Rest.below (S := fun _ => False) (HB2.out.trans (hb3'.mono HB2.out.size))) (fun _ _ e => e.elim), fun e => by rw [hzn] at e; cases e⟩
    · have HD := Lib.hid (HDM true 3 w2 HB2.out).out
      unfold ifR doE at HD
      simp only [if_true] at HD
      go_wp2_with fail
      refine HD.out.mono ?_
      rintro e w3 ⟨rfl, hb3'⟩
      have HB3 := Lib.hid (HB2.out.trans (hb3'.mono HB2.out.size))
      clear hb3' HD
      clear y0 y1
      obtain ⟨y0, y1, _⟩ := KEEP.out w3 (Rest.below HB3.out)
      have HD60 := Lib.hid (HL60.out (by first | rfl | trivial))
      have HRN2 : Hid (Z = orD (msgsR mr [] 0 D) (ifD (hasN (defE D) st) 11)) := Lib.hid HRN.out
      go_wp2_with fail
      clear y0 y1
      go_loopw [24] (fun x24 wr => ∃ (i n' c' : Nat) (A' : Option Addr) (m' f' : Int), i ≤ D.length ∧ x24 = .int .i64 ((i : Nat) : Int) ∧ msgsR mr [] 0 (D.take i) = none ∧ Rest (fun k => k = x ∨ k = kr) w1 wr ∧ ExAt wr x m' f' kr A' n' c' kk ∧ MapAt wr kr (natE (defE (D.take i)))) (fun x24 _ => D.length - (intOf x24).toNat)
      case atStart => exact ⟨0, n0, c0, A0, -1, -1, Nat.zero_le _, rfl, rfl, Rest.below HB3.out, (KX.out w3 HB3.out).1, (KX.out w3 HB3.out).2⟩
      case round =>
        obtain ⟨i, n', c', A', m', f', hi, rfl, hfr, hrs, hex, hmp⟩ := hrel
        by_cases hlt : i < D.length
        · obtain ⟨d, hd⟩ : ∃ d, D[i]? = some d := ⟨_, List.getElem?_eq_getElem hlt⟩
          have hAT := (H2.out.rest hrs (fun k _ e => by rcases e with e | e; rw [e]; exact HSX.out; rw [e]; exact HSK.out))
          obtain ⟨g, o, hA, hx⟩ := hAT.at_ hd
          have x0 : wr.cell? ⟨g, o + i * 2, none⟩ = some (.string (strL d.name)) := hx 0 _ rfl
          have x1 : wr.cell? ⟨g, o + i * 2 + 1, none⟩ = some (.slice d.fa d.fields.length d.fc) := hx 1 _ rfl
          have hal5 := below_alloc wr (.cells #[.string (strL d.name), .slice d.fa d.fields.length d.fc] 50)
          have hbx5 : (wr.alloc (.cells #[.string (strL d.name), .slice d.fa d.fields.length d.fc] 50)).heap[wr.heap.size]? = some (.cells #[.string (strL d.name), .slice d.fa d.fields.length d.fc] 50 (0, 0)) := heap_alloc_new wr _
          obtain ⟨tb, etb⟩ : ∃ tb, wr.heap.size = tb := ⟨_, rfl⟩
          obtain ⟨w5, hw5⟩ : ∃ w5, wr.alloc (.cells #[.string (strL d.name), .slice d.fa d.fields.length d.fc] 50) = w5 := ⟨_, rfl⟩
          rw [hw5] at hal5 hbx5
          rw [etb] at hbx5
          have hx5 := hex.below hal5 hex.lt
          have hm5 := hmp.below hal5 hmp.lt
          have htx : tb ≠ x := by have := hex.lt; omega
          have v0 := hx5.c0
          have v1 := hx5.c1
          have v2 := hx5.c2
          have vf0 := hx5.fr 0
          have vf1 := hx5.fr 1
          have vf2 := hx5.fr 2
          have hx6 := hx5.setAt (i : Int) (-1)
          have hs6 := rest_setAt w5 x (.int .i64 (i : Int)) (.int .i64 (-1)) (.int .i64 0)
          obtain ⟨w6, hw6⟩ : ∃ w6, ((w5.setCell ⟨x, 0, none⟩ (.int .i64 (i : Int))).setCell ⟨x, 1, none⟩ (.int .i64 (-1))).setCell ⟨x, 2, none⟩ (.int .i64 0) = w6 := ⟨_, rfl⟩
          rw [hw6] at hx6 hs6
          have hbx6 := (hs6.block tb (Array.getElem?_eq_some_iff.1 hbx5).1 htx).trans hbx5
          have q0 : w6.cell? ⟨tb, 0, none⟩ = some (.string (strL d.name)) := by simp [World.cell?, hbx6]
          have q1 : w6.cell? ⟨tb, 1, none⟩ = some (.slice d.fa d.fields.length d.fc) := by simp [World.cell?, hbx6]
          have hm6 := hm5.rest hs6 (fun e => HXK.out e.symm)
          have hs16 : Rest (fun k => k = x ∨ k = kr) w1 w6 := (hrs.trans (Rest.below (S := fun _ => False) hal5) (fun _ _ e => e.elim)).trans hs6 (fun _ _ e => .inl e)
          have HFC := HFF.out i d w6 hd HD60.out hfr (HR1.out.trans hs16 (fun _ _ e => e)) ⟨_, _, _, hx6⟩ hm6
          unfold MsgD.agg at HFC
          obtain ⟨R, hR⟩ : ∃ R, mr (defE (D.take i)) i d = R := ⟨_, rfl⟩
          have hde : defE (D.take (i + 1)) = stepN (defE (D.take i)) d := by rw [(drop_of hd).2, defE_snoc]
          have hnx : msgsR mr [] 0 (D.take (i + 1)) = R.map fun c => ((i : Int), c.1, c.2) := by
            rw [(drop_of hd).2, msgsR_app, hfr]
            show orD none (orD ((mr (defE (D.take i)) (0 + (D.take i).length) d).map _) none) = _
            rw [List.length_take, Nat.min_eq_left hi, Nat.zero_add, hR]
            cases R <;> rfl
          have hall : ∀ c, R = some c → msgsR mr [] 0 D = some ((i : Int), c.1, c.2) := by
            intro c e
            rw [← List.take_append_drop (i + 1) D, msgsR_app, hnx, e]
            rfl
          rw [hR] at HFC
          have HNX := Lib.hid hnx
          have HALL := Lib.hid hall
          have HDE := Lib.hid hde
          have HFC := Lib.hid HFC
          have W5 := Lib.hid hw5
          have W6 := Lib.hid hw6
          have ETB := Lib.hid etb
          have S16 := Lib.hid hs16
          subst hA
          clear hd hfr hrs hex hmp hAT hx hal5 hbx5 etb hw5 hx5 hm5 htx hx6 hs6 hw6 hbx6 hm6 hs16 hR hde hnx hall
          go_upto_region 7 with fail
          rw [W5.out, ETB.out]
          go_upto_region 8 with fail
          rw [W6.out]
          clear v0 v1 v2 vf0 vf1 vf2 x0 x1
          go_wp2_with fail
          refine HFC.out.mono ?_
          rintro e w8 ⟨rfl, hr8, hn8⟩
          have S18 := Lib.hid (S16.out.trans hr8 (fun _ _ e => e))
          have HN8 := Lib.hid hn8
          clear hr8 hn8 q0 q1
          cases R with
          | none =>
            obtain ⟨hm8, A8, n8, c8, hx8⟩ := HN8.out rfl
            have M8 := Lib.hid hm8
            have X8 := Lib.hid hx8
            clear hm8 hx8
            dsimp only [doM]
            go_wp2_with fail
            go_roundw
            case rel => exact ⟨i + 1, n8, c8, A8, (i : Int), -1, by omega, by go_num, HNX.out, S18.out, X8.out, by rw [HDE.out]; exact M8.out⟩
            case measure => simp [intOf]; omega
          | some cd =>
            dsimp only [doM, flawE]
            have hzn : Z = some ((i : Int), cd.1, cd.2) := by rw [HRN2.out, HALL.out cd rfl]; rfl
            exact ⟨rfl, by rw [hzn]; rfl, HR1.out.trans S18.out (fun _ _ e => e), fun e => by rw [hzn] at e; cases e⟩
        · obtain rfl : i = D.length := by omega
          rw [List.take_length] at hfr hmp
          obtain ⟨hs, hh⟩ : ∃ hs, hasN (defE D) st = hs := ⟨_, rfl⟩
          have hZ2 : Z = ifD hs 11 := by rw [HRN2.out, hfr, hh]; rfl
          have v0 := hex.c0
          have v1 := hex.c1
          have v2 := hex.c2
          have vf0 := hex.fr 0
          have vf1 := hex.fr 1
          have vf2 := hex.fr 2
          have hx9 := hex.setAt (-1) (-1)
          have hs9 := hrs.trans (rest_setAt wr x (.int .i64 (-1)) (.int .i64 (-1)) (.int .i64 0)) (fun _ _ e => .inl e)
          have hm9 := hmp.rest (rest_setAt wr x (.int .i64 (-1)) (.int .i64 (-1)) (.int .i64 0)) (fun e => HXK.out e.symm)
          obtain ⟨w9, hw9⟩ : ∃ w9, ((wr.setCell ⟨x, 0, none⟩ (.int .i64 (-1))).setCell ⟨x, 1, none⟩ (.int .i64 (-1))).setCell ⟨x, 2, none⟩ (.int .i64 0) = w9 := ⟨_, rfl⟩
          rw [hw9] at hx9 hs9 hm9
          obtain ⟨y0, y1, y2⟩ := KEEP.out w9 hs9
          have HPS := passed_any x kr kk n' c' (-1) (-1) A' w9 (defE D) st hx9 hm9
          rw [hh] at HPS
          have HPS := Lib.hid HPS
          have W9 := Lib.hid hw9
          have X9 := Lib.hid hx9
          have S9 := Lib.hid (HR1.out.trans hs9 (fun _ _ e => e))
          have M9 := Lib.hid hm9
          have HZ2 := Lib.hid hZ2
          clear hex hrs hfr hmp hh hZ2 hx9 hs9 hm9 hw9
          go_upto_region 11 with fail
          rw [W9.out]
          clear v0 v1 v2 vf0 vf1 vf2
          go_wp2_with fail
          refine HPS.out.mono ?_
          rintro e wp ⟨rfl, hbp⟩
          have XP := Lib.hid (X9.out.below hbp X9.out.lt)
          have MP := Lib.hid (M9.out.below hbp M9.out.lt)
          have SP := Lib.hid (S9.out.trans (Rest.below (S := fun _ => False) hbp) (fun _ _ e => e.elim))
          clear hbp
          go_wp2_with fail
          cases hs
          · have HD := demand_any x kr kk n' c' (-1) (-1) A' false 11 wp XP.out
            unfold ifR doE flawE at HD
            simp only [Bool.false_eq_true, if_false] at HD
            refine HD.mono ?_
            rintro e w12 ⟨rfl, hb12⟩
            have hzn := HZ2.out
            simp only [ifD, Bool.false_eq_true, if_false] at hzn
            exact ⟨rfl, by rw [hzn]; rfl, SP.out.trans (Rest.below (S := fun _ => False) hb12) (fun _ _ e => e.elim), fun e => by rw [hzn] at e; cases e⟩
          · have HD := demand_any x kr kk n' c' (-1) (-1) A' true 11 wp XP.out
            unfold ifR doE at HD
            simp only [if_true] at HD
            refine HD.mono ?_
            rintro e w12 ⟨rfl, hb12⟩
            have hbz := Lib.hid hb12
            clear hb12 HD
            have hzn := Lib.hid (show Z = none from HZ2.out)
            go_wp2_with fail
            go_end0
            exact ⟨by rw [hzn.out]; rfl, SP.out.trans (Rest.below (S := fun _ => False) hbz.out) (fun _ _ e => e.elim), fun _ => ⟨MP.out.below hbz.out MP.out.lt, _, _, _, XP.out.below hbz.out XP.out.lt⟩⟩
end Go.Proofs.Ytbpkppmbbpoohaa

namespace Go.Proofs.Ytbpkppmbbpoohaa
open Go.RowKit Go.Shelf

theorem bother {W : World} {B t : Nat} {v : Value} (h : Boxed W B t v) (c o : Nat) (hn : B ≠ c) (u : Value) : Boxed (W.setCell ⟨c, o, none⟩ u) B t v := (Below.heap_setCell W ⟨c, o, none⟩ u B hn).trans h

/-- The flaw and whether there is one, in variables. -/
structure F2 (W : World) (lb : Nat) (a b c f : Value) : Prop where
  p : W.heap[lb]? = some (.cells #[a, b, c] 79 (0, 0))
  e : Boxed W (lb + 1) 4 f
section
variable {W W' : World} {lb : Nat} {a b c f : Value}
theorem F2.p0 (h : F2 W lb a b c f) : W.cell? ⟨lb, 0, none⟩ = some a := by simp [World.cell?, h.p]
theorem F2.p1 (h : F2 W lb a b c f) : W.cell? ⟨lb, 1, none⟩ = some b := by simp [World.cell?, h.p]
theorem F2.p2 (h : F2 W lb a b c f) : W.cell? ⟨lb, 2, none⟩ = some c := by simp [World.cell?, h.p]
theorem F2.pf (h : F2 W lb a b c f) (o : Nat) : W.frozen? ⟨lb, o, none⟩ = false := by simp [World.frozen?, h.p]
theorem F2.lt (h : F2 W lb a b c f) : lb < W.heap.size := (Array.getElem?_eq_some_iff.1 h.p).1
theorem F2.rest {S : Nat → Prop} (h : F2 W lb a b c f) (hr : Rest S W W') (h0 : ¬ S lb) (h1 : ¬ S (lb + 1)) : F2 W' lb a b c f :=
  ⟨(hr.block lb h.lt h0).trans h.p, boxed_rest h.e hr h1⟩
theorem F2.set (h : F2 W lb a b c f) (a' b' c' f' : Value) : F2 ((((W.setCell ⟨lb, 0, none⟩ a').setCell ⟨lb, 1, none⟩ b').setCell ⟨lb, 2, none⟩ c').setCell ⟨lb + 1, 0, none⟩ f') lb a' b' c' f' ∧
    Rest (fun i => i = lb ∨ i = lb + 1) W ((((W.setCell ⟨lb, 0, none⟩ a').setCell ⟨lb, 1, none⟩ b').setCell ⟨lb, 2, none⟩ c').setCell ⟨lb + 1, 0, none⟩ f') := by
  have t0 := heap_setCell_same W lb 0 _ 79 a' h.p
  have t1 := heap_setCell_same _ lb 1 _ 79 b' t0
  have t2 := heap_setCell_same _ lb 2 _ 79 c' t1
  have s3 := bother (bother (bother h.e lb 0 (by omega) a') lb 1 (by omega) b') lb 2 (by omega) c'
  refine ⟨⟨(Below.heap_setCell _ ⟨lb + 1, 0, none⟩ f' lb (by show lb ≠ lb + 1; omega)).trans t2, Boxed.set f' s3⟩, ?_⟩
  exact ((((Rest.refl (fun i => i = lb ∨ i = lb + 1) W).setCell (S := fun i => i = lb ∨ i = lb + 1) (p := ⟨lb, 0, none⟩) (fun _ => .inl rfl) _).setCell (S := fun i => i = lb ∨ i = lb + 1) (p := ⟨lb, 1, none⟩) (fun _ => .inl rfl) _).setCell (S := fun i => i = lb ∨ i = lb + 1) (p := ⟨lb, 2, none⟩) (fun _ => .inl rfl) _).setCell (S := fun i => i = lb ∨ i = lb + 1) (p := ⟨lb + 1, 0, none⟩) (fun _ => .inr rfl) _
end

theorem ta_some (v : Value) (w : World) : (Instr.typeAssert (.iface 79 v) 20 79 true).run Try.prog w = .ok (.tuple #[v, .bool true]) w := by
  simp [Instr.typeAssert, go_sem]
theorem ta_nil (w : World) : (Instr.typeAssert .nilIface 20 79 true).run Try.prog w = .ok (.tuple #[.agg #[.int .i64 0, .int .i64 0, .int .i64 0], .bool false]) w := by
  simp [Instr.typeAssert, go_sem]

set_option maxRecDepth 100000 in
set_option maxHeartbeats 1600000 in
theorem recover_flaw (lb : Nat) (m f cd : Int) (older : List PanicEntry) (a b c g : Value) (w : World) (h : F2 w lb a b c g) :
    CallsD Try.prog 73 #[.pointer (some ⟨lb, 0, none⟩), .pointer (some ⟨lb + 1, 0, none⟩)] (.panicking ({ v := .iface 79 (.agg #[.int .i64 m, .int .i64 f, .int .i64 cd]), recovered := false } :: older)) w fun e u' w' =>
      e = .returned (.tuple #[]) ∧ u' = .panicking ({ v := .iface 79 (.agg #[.int .i64 m, .int .i64 f, .int .i64 cd]), recovered := true } :: older) ∧ F2 w' lb (.int .i64 m) (.int .i64 f) (.int .i64 cd) (.bool true) ∧ Rest (fun i => i = lb ∨ i = lb + 1) w w' := by
  refine callsD_of_wpS Try.func73 rfl fun c₀ cs hu => ?_
  simp only [Try.ntmps73, List.size_toArray, List.length_cons, List.length_nil, Nat.reduceAdd, Nat.reduceSub, Array.replicate_succ, Array.replicate_zero, List.push_toArray, List.append_toArray, List.nil_append, List.cons_append]
  have x0 := h.p0
  have x1 := h.p1
  have x2 := h.p2
  have f0 := h.pf 0
  have f1 := h.pf 1
  have f2 := h.pf 2
  have e0 := h.e.cell
  have e1 := h.e.frozen
  have HS := Lib.hid (h.set (.int .i64 m) (.int .i64 f) (.int .i64 cd) (.bool true))
  clear h
  apply wpS_region
  simp [wpOpsS, go_sem, recoverD, hu, ta_some, x0, x1, x2, f0, f1, f2, e0, e1]
  exact ⟨rfl, _, rfl, _, by simp [results, Try.results73], rfl, rfl, HS.out.1, HS.out.2⟩

set_option maxRecDepth 100000 in
set_option maxHeartbeats 1600000 in
theorem recover_none (lb : Nat) (a b c g : Value) (w : World) (h : F2 w lb a b c g) :
    CallsD Try.prog 73 #[.pointer (some ⟨lb, 0, none⟩), .pointer (some ⟨lb + 1, 0, none⟩)] .returning w fun e u' w' =>
      e = .returned (.tuple #[]) ∧ u' = .returning ∧ F2 w' lb (.int .i64 0) (.int .i64 0) (.int .i64 0) (.bool false) ∧ Rest (fun i => i = lb ∨ i = lb + 1) w w' := by
  refine callsD_of_wpS Try.func73 rfl fun c₀ cs hu => ?_
  simp only [Try.ntmps73, List.size_toArray, List.length_cons, List.length_nil, Nat.reduceAdd, Nat.reduceSub, Array.replicate_succ, Array.replicate_zero, List.push_toArray, List.append_toArray, List.nil_append, List.cons_append]
  have x0 := h.p0
  have x1 := h.p1
  have x2 := h.p2
  have f0 := h.pf 0
  have f1 := h.pf 1
  have f2 := h.pf 2
  have e0 := h.e.cell
  have e1 := h.e.frozen
  have HS := Lib.hid (h.set (.int .i64 0) (.int .i64 0) (.int .i64 0) (.bool false))
  clear h
  apply wpS_region
  simp [wpOpsS, go_sem, recoverD, hu, ta_nil, x0, x1, x2, f0, f1, f2, e0, e1]
  refine ⟨rfl, .returning, ?_, _, by simp [results, Try.results73], rfl, rfl, HS.out.1, HS.out.2⟩
  cases c₀
  simp_all

/-- What examine answers. -/
def ExPost (r : Option (Int × Int × Int)) (E : Nats) (w : World) (e : Ending) (w' : World) : Prop :=
  Below w.heap.size w w' ∧ match r with
  | none => ∃ kr, w.heap.size ≤ kr ∧ e = .returned (.tuple #[.map (some kr), .agg #[.int .i64 0, .int .i64 0, .int .i64 0], .bool false]) ∧ MapAt w' kr (natE E)
  | some p => e = .returned (.tuple #[.map none, .agg #[.int .i64 p.1, .int .i64 p.2.1, .int .i64 p.2.2], .bool true])

theorem slAt_msgs {S : Nat → Prop} {W : World} {A : Option Addr} {c N : Nat} {D : List MsgD} (h : SlAt MsgD.cells 2 S W A c D) (hN : W.heap.size ≤ N) : SlAt MsgD.cells 2 (fun i => N ≤ i) W A c D := by
  refine ⟨h.1, h.2.1, fun i d hi => ?_⟩
  obtain ⟨g, o, h1, _, h3⟩ := h.2.2 i d hi
  have := World.block_lt_of_cell? _ _ (h3 0 (.string (strL d.name)) rfl)
  exact ⟨g, o, h1, by simp only at this ⊢; omega, h3⟩

set_option maxRecDepth 100000 in
set_option maxHeartbeats 6400000 in
theorem examine_any (nm st : List UInt8) (A : Option Addr) (c : Nat) (D : List MsgD) (S : Nat → Prop) (mr : Nats → Nat → MsgD → Option (Int × Int)) (w : World) (h : SlAt MsgD.cells 2 S w A c D)
    (hf : ∀ x kr kk, w.heap.size ≤ x → w.heap.size ≤ kr → x ≠ kr → ∀ i mm wx, D[i]? = some mm → D.length ≤ 60 → msgsR mr [] 0 (D.take i) = none → Below w.heap.size w wx → (∃ A' n' c', ExAt wx x (i : Int) (-1) kr A' n' c' kk) → MapAt wx kr (natE (defE (D.take i))) → MapI wx kk (condE (.pointer (some ⟨x, 0, none⟩))) → kk ≠ x → kk ≠ kr →
      Calls Try.prog 95 #[.pointer (some ⟨x, 0, none⟩), mm.agg] wx fun e w' => e = doM (mr (defE (D.take i)) i mm) (i : Int) ∧ Rest (fun k => k = x ∨ k = kr) wx w' ∧ (mr (defE (D.take i)) i mm = none → MapAt w' kr (natE (stepN (defE (D.take i)) mm)) ∧ ∃ A' n' c', ExAt w' x (i : Int) (-1) kr A' n' c' kk)) :
    Calls Try.prog 59 #[.agg #[.string (strL nm), .slice A D.length c, .string (strL st)]] w (ExPost (defR mr nm D st) (defE D) w) := by
  obtain ⟨b, eb⟩ : ∃ b, w.heap.size = b := ⟨_, rfl⟩
  obtain ⟨wa, hwa⟩ : ∃ wa, w.alloc (.cells #[.string (strL nm), .slice A D.length c, .string (strL st)] 44) = wa := ⟨_, rfl⟩
  obtain ⟨wb, hwb⟩ : ∃ wb, wa.alloc (.cells #[.int .i64 0, .int .i64 0, .int .i64 0] 79) = wb := ⟨_, rfl⟩
  obtain ⟨w1, hw1⟩ : ∃ w1, wb.alloc (.cells #[.bool false] 4) = w1 := ⟨_, rfl⟩
  obtain ⟨w2, hw2⟩ : ∃ w2, w1.alloc (.map #[] 0) = w2 := ⟨_, rfl⟩
  obtain ⟨w3, hw3⟩ : ∃ w3, w2.alloc (.cells #[.int .i64 0, .int .i64 0, .int .i64 0, .map (some (b + 3)), .slice none 0 0, .map none] 124) = w3 := ⟨_, rfl⟩
  have ba : Below w.heap.size w wa := by rw [← hwa]; exact below_alloc _ _
  have bb : Below wa.heap.size wa wb := by rw [← hwb]; exact below_alloc _ _
  have b1 : Below wb.heap.size wb w1 := by rw [← hw1]; exact below_alloc _ _
  have b2 : Below w1.heap.size w1 w2 := by rw [← hw2]; exact below_alloc _ _
  have b3 : Below w2.heap.size w2 w3 := by rw [← hw3]; exact below_alloc _ _
  have sa : wa.heap.size = b + 1 := by rw [← hwa]; simp; omega
  have sb : wb.heap.size = b + 1 + 1 := by rw [← hwb]; simp; omega
  have s1 : w1.heap.size = b + 3 := by rw [← hw1]; simp; omega
  have s2 : w2.heap.size = b + 4 := by rw [← hw2]; simp; omega
  have s3 : w3.heap.size = b + 5 := by rw [← hw3]; simp; omega
  have hw : ((w.alloc (.cells #[.string (strL nm), .slice A D.length c, .string (strL st)] 44)).alloc (.cells #[.int .i64 0, .int .i64 0, .int .i64 0] 79)).alloc (.cells #[.bool false] 4) = w1 := by rw [hwa, hwb, hw1]
  have hb3 : Below w.heap.size w w3 := (((ba.trans (bb.mono (by omega))).trans (b1.mono (by omega))).trans (b2.mono (by omega))).trans (b3.mono (by omega))
  have hxd : w3.heap[b]? = some (.cells #[.string (strL nm), .slice A D.length c, .string (strL st)] 44 (0, 0)) := ((b3.block b (by omega)).trans ((b2.block b (by omega)).trans ((b1.block b (by omega)).trans (bb.block b (by omega))))).trans (by rw [← hwa, ← eb]; exact heap_alloc_new w _)
  have hxf : F2 w3 (b + 1) (.int .i64 0) (.int .i64 0) (.int .i64 0) (.bool false) := by
    refine ⟨((b3.block _ (by omega)).trans ((b2.block _ (by omega)).trans (b1.block _ (by omega)))).trans (by rw [← hwb, ← sa]; exact heap_alloc_new wa _), ?_⟩
    refine boxed_below (boxed_below ?_ b2 (by omega)) b3 (by omega)
    rw [← hw1, ← sb]
    exact Boxed.new wb _ _
  have hmk := run_makeMap_plain (P := Try.prog) w1 108
  rw [hw2, s1] at hmk
  have hxm : MapAt w3 (b + 3) (natE []) := by
    refine MapAt.below ?_ b3 (by omega)
    rw [← hw2, ← s1]
    exact MapAt.new w1
  have hxx : w3.heap[b + 4]? = some (.cells #[.int .i64 0, .int .i64 0, .int .i64 0, .map (some (b + 3)), .slice none 0 0, .map none] 124 (0, 0)) := by rw [← hw3, ← s2]; exact heap_alloc_new w2 _
  obtain ⟨R, hR⟩ : ∃ R, defR mr nm D st = R := ⟨_, rfl⟩
  have HCO := conditions_any (.pointer (some ⟨b + 4, 0, none⟩)) w3
  rw [s3] at HCO
  have hold := slAt_msgs (N := b) h (by omega)
  have HDE : Hid (∀ w5, Below b w w5 → ExAt w5 (b + 4) 0 0 (b + 3) none 0 0 (b + 5) → MapAt w5 (b + 3) (natE []) → MapI w5 (b + 5) (condE (.pointer (some ⟨b + 4, 0, none⟩))) → Calls Try.prog 75 #[.pointer (some ⟨b + 4, 0, none⟩), .agg #[.string (strL nm), .slice A D.length c, .string (strL st)]] w5 fun e w' => e = doD R ∧ Rest (fun k => k = b + 4 ∨ k = b + 3) w5 w' ∧ (R = none → MapAt w' (b + 3) (natE (defE D)) ∧ ∃ A' n' c', ExAt w' (b + 4) (-1) (-1) (b + 3) A' n' c' (b + 5))) := Lib.hid (fun w5 hb5 hx5 hm5 hi5 => by
    have hb5' : Below w.heap.size w w5 := by rw [eb]; exact hb5
    have := definition_any (b + 4) (b + 3) (b + 5) 0 0 0 0 none nm st A c D (fun i => b ≤ i) mr w5 hx5 hm5 (by omega) (hold.below hb5') (by show b ≤ b + 4; omega) (by show b ≤ b + 3; omega) (fun i mm wx hd h60 hp hr he hm => hf (b + 4) (b + 3) (b + 5) (by omega) (by omega) (by omega) i mm wx hd h60 hp (by
      have h1 := hr.toBelow b (by have := hb5.size; omega) (fun i hi e => by omega)
      have h2 := hb5.trans h1
      rw [← eb] at h2
      exact h2) he hm (hi5.rest hr (by omega)) (by omega) (by omega))
    rwa [hR] at this)
  rw [hR]
  have hbw3 : Below b w w3 := by rw [← eb]; exact hb3
  have HCO := Lib.hid HCO
  have HXD := Lib.hid hxd
  have HXF := Lib.hid hxf
  have HXM := Lib.hid hxm
  have HXX := Lib.hid hxx
  have HB3 := Lib.hid hbw3
  have HW := Lib.hid hw
  have HW3 := Lib.hid hw3
  have S2 := Lib.hid s2
  have S3 := Lib.hid s3
  have EB := Lib.hid eb
  clear h hf hwa hwb hw1 hw2 hw3 ba bb b1 b2 b3 sa sb s1 s2 s3 hw hb3 hbw3 hxd hxf hxm hxx hR hold eb
  have hmf : ∀ (fn : Fn) (first cap : Array Value) (w : World), (Instr.makeFunc fn first cap).run Try.prog w = .ok (.func fn first cap) w := fun _ _ _ _ => rfl
  go_enter_defers Try.func59, Try.ntmps59
  go_upto_region 1 with fail
  rw [HW.out, EB.out]
  go_upto_region 3 with fail
  rw [S2.out, HW3.out]
  go_wp2_with fail
  refine HCO.out.mono ?_
  rintro e w4 ⟨rfl, hi4, hb4⟩
  have hxx4 := (hb4.block (b + 4) (by have := S3.out; omega)).trans HXX.out
  have v5 : w4.cell? ⟨b + 4, 5, none⟩ = some (.map none) := by simp [World.cell?, hxx4]
  have vf5 : w4.frozen? ⟨b + 4, 5, none⟩ = false := by simp [World.frozen?, hxx4]
  have hset := heap_setCell_same w4 (b + 4) 5 _ 124 (.map (some (b + 5))) hxx4
  have hr5 : Rest (fun k => k = b + 4) w4 (w4.setCell ⟨b + 4, 5, none⟩ (.map (some (b + 5)))) := (Rest.refl (fun k => k = b + 4) w4).setCell (S := fun k => k = b + 4) (p := ⟨b + 4, 5, none⟩) (fun _ => rfl) _
  obtain ⟨w5, hw5⟩ : ∃ w5, w4.setCell ⟨b + 4, 5, none⟩ (.map (some (b + 5))) = w5 := ⟨_, rfl⟩
  rw [hw5] at hset hr5
  have hs3 := S3.out
  have hx5 : ExAt w5 (b + 4) 0 0 (b + 3) none 0 0 (b + 5) := ⟨hset⟩
  have hr35 : Rest (fun k => k = b + 4) w3 w5 := (Rest.below (S := fun k => k = b + 4) (by rw [hs3]; exact hb4)).trans hr5 (fun _ _ e => e)
  have hm5 := HXM.out.rest hr35 (by omega)
  have hi5 := hi4.rest hr5 (by omega)
  have hf5 := HXF.out.rest hr35 (by omega) (by omega)
  have hd5 := (hr35.block b (by omega) (by omega)).trans HXD.out
  have hbw5 : Below b w w5 := HB3.out.trans (hr35.toBelow b (by omega) (fun i hi e => by omega))
  have d0 : w5.cell? ⟨b, 0, none⟩ = some (.string (strL nm)) := by simp [World.cell?, hd5]
  have d1 : w5.cell? ⟨b, 1, none⟩ = some (.slice A D.length c) := by simp [World.cell?, hd5]
  have d2 : w5.cell? ⟨b, 2, none⟩ = some (.string (strL st)) := by simp [World.cell?, hd5]
  have HDF := Lib.hid (HDE.out w5 hbw5 hx5 hm5 hi5)
  have W5 := Lib.hid hw5
  have F5 := Lib.hid hf5
  have BW5 := Lib.hid hbw5
  have SZ5 := Lib.hid (show b + 6 ≤ w5.heap.size by have := hi5.lt; omega)
  clear hi4 hb4 hxx4 hset hr5 hw5 hs3 hx5 hr35 hm5 hi5 hf5 hd5 hbw5
  go_upto_region 4 with fail
  rw [W5.out]
  clear v5 vf5
  go_wp2_with fail
  refine HDF.out.mono ?_
  rintro e w6 ⟨he, hr6, hn6⟩
  have F6 := Lib.hid (F5.out.rest hr6 (by omega) (by omega))
  have BW6 := Lib.hid (BW5.out.trans (hr6.toBelow b (by have := SZ5.out; omega) (fun i hi e => by omega)))
  have SZ6 := Lib.hid (Nat.le_trans SZ5.out hr6.size)
  clear hr6 d0 d1 d2
  cases R with
  | some p =>
    obtain ⟨m, f, cd⟩ := p
    clear hn6
    unfold doD flawE at he
    dsimp only at he
    subst he
    refine leaves_cons (f := 73) (args := #[.pointer (some ⟨b + 1, 0, none⟩), .pointer (some ⟨b + 1 + 1, 0, none⟩)]) (by simp) (by simp [go_sem]) ?_
    refine (recover_flaw (b + 1) m f cd [] _ _ _ _ w6 F6.out).mono ?_
    rintro e u' w7 ⟨rfl, rfl, hF7, hr7⟩
    have p0 := hF7.p0
    have p1 := hF7.p1
    have p2 := hF7.p2
    have e0 := hF7.e.cell
    have hb7 : Below w.heap.size w w7 := by
      rw [EB.out]
      exact BW6.out.trans (hr7.toBelow b (by have := SZ6.out; omega) (fun i hi e => by omega))
    have HB7 := Lib.hid hb7
    clear hF7 hr7 hb7
    refine ⟨_, ?_, HB7.out, rfl⟩
    simp [results, Try.results59, go_sem, p0, p1, p2, e0]
  | none =>
    obtain ⟨hm6, A6, n6, c6, hx6⟩ := hn6 rfl
    unfold doD at he
    dsimp only at he
    subst he
    have v3 := hx6.c3
    have hf6 := F6.out
    have l0 := hf6.p0
    have l1 := hf6.p1
    have l2 := hf6.p2
    have lf0 := hf6.pf 0
    have lf1 := hf6.pf 1
    have lf2 := hf6.pf 2
    have e0 := hf6.e.cell
    have e1 := hf6.e.frozen
    have HS := Lib.hid (hf6.set (.int .i64 0) (.int .i64 0) (.int .i64 0) (.bool false))
    have M6 := Lib.hid hm6
    clear hn6 hm6 hx6 hf6
    go_wp2_with fail
    have g1 := HS.out.1
    have g2 := HS.out.2
    generalize (((w6.setCell ⟨b + 1, 0, none⟩ (.int .i64 0)).setCell ⟨b + 1, 1, none⟩ (.int .i64 0)).setCell ⟨b + 1, 2, none⟩ (.int .i64 0)).setCell ⟨b + 1 + 1, 0, none⟩ (.bool false) = w7 at g1 g2 ⊢
    refine leaves_cons (f := 73) (args := #[.pointer (some ⟨b + 1, 0, none⟩), .pointer (some ⟨b + 1 + 1, 0, none⟩)]) (by simp) (by simp [go_sem]) ?_
    refine (recover_none (b + 1) _ _ _ _ w7 g1).mono ?_
    rintro e u' w8 ⟨rfl, rfl, hF8, hr8⟩
    have hr68 := g2.trans hr8 (fun _ _ e => e)
    have p0 := hF8.p0
    have p1 := hF8.p1
    have p2 := hF8.p2
    have q0 := hF8.e.cell
    have hm8 := M6.out.rest hr68 (by omega)
    have hb8 : Below w.heap.size w w8 := by
      rw [EB.out]
      exact BW6.out.trans (hr68.toBelow b (by have := SZ6.out; omega) (fun i hi e => by omega))
    have HB8 := Lib.hid hb8
    have M8 := Lib.hid hm8
    have HEB := Lib.hid (show w.heap.size ≤ b + 3 by have := EB.out; omega)
    clear hF8 hr8 hr68 hm8 hb8 g1 g2 l0 l1 l2 lf0 lf1 lf2 e0 e1 v3
    refine ⟨_, ?_, HB8.out, b + 3, HEB.out, rfl, M8.out⟩
    simp [results, Try.results59, go_sem, p0, p1, p2, q0]
end Go.Proofs.Ytbpkppmbbpoohaa

namespace Go.Proofs.Ytbpkppmbbpoohaa
open Go.RowKit Go.Shelf

/-- The flaw that is answered. -/
def flawT (r : Option (Int × Int × Int)) : Int × Int × Int := r.getD (0, 0, 0)
theorem ExPost.flat {r : Option (Int × Int × Int)} {E : Nats} {w w' : World} {e : Ending} (h : ExPost r E w e w') : ∃ k, e = .returned (.tuple #[.map k, .agg #[.int .i64 (flawT r).1, .int .i64 (flawT r).2.1, .int .i64 (flawT r).2.2], .bool r.isSome]) ∧ Below w.heap.size w w' := by
  obtain ⟨hb, h⟩ := h
  cases r with
  | none =>
    obtain ⟨kr, _, h, _⟩ := h
    exact ⟨some kr, h, hb⟩
  | some p => exact ⟨none, h, hb⟩

set_option maxRecDepth 100000 in
set_option maxHeartbeats 1600000 in
theorem check_of (nm st : List UInt8) (A : Option Addr) (n c : Nat) (r : Option (Int × Int × Int)) (E : Nats) (w : World)
    (he : ∀ wx, Below w.heap.size w wx → Calls Try.prog 59 #[.agg #[.string (strL nm), .slice A n c, .string (strL st)]] wx (ExPost r E wx)) :
    Calls Try.prog 34 #[.agg #[.string (strL nm), .slice A n c, .string (strL st)]] w fun e w' => e = .returned (.tuple #[.agg #[.int .i64 (flawT r).1, .int .i64 (flawT r).2.1, .int .i64 (flawT r).2.2], .bool r.isSome]) ∧ Below w.heap.size w w' := by
  obtain ⟨wa, hwa⟩ : ∃ wa, w.alloc (.cells #[.string (strL nm), .slice A n c, .string (strL st)] 44) = wa := ⟨_, rfl⟩
  obtain ⟨w1, hw1⟩ : ∃ w1, wa.alloc (.cells #[.int .i64 0, .int .i64 0, .int .i64 0] 79) = w1 := ⟨_, rfl⟩
  have hw : (w.alloc (.cells #[.string (strL nm), .slice A n c, .string (strL st)] 44)).alloc (.cells #[.int .i64 0, .int .i64 0, .int .i64 0] 79) = w1 := by rw [hwa, hw1]
  have ba : Below w.heap.size w wa := by rw [← hwa]; exact below_alloc _ _
  have b1 : Below wa.heap.size wa w1 := by rw [← hw1]; exact below_alloc _ _
  have sa : wa.heap.size = w.heap.size + 1 := by rw [← hwa]; simp
  have hb1 : Below w.heap.size w w1 := ba.trans (b1.mono (by omega))
  have s1 : w1.heap.size = w.heap.size + 2 := by rw [← hw1]; simp; omega
  have hxd : w1.heap[w.heap.size]? = some (.cells #[.string (strL nm), .slice A n c, .string (strL st)] 44 (0, 0)) := (b1.block _ (by omega)).trans (by rw [← hwa]; exact heap_alloc_new w _)
  have hxf : w1.heap[w.heap.size + 1]? = some (.cells #[.int .i64 0, .int .i64 0, .int .i64 0] 79 (0, 0)) := by rw [← hw1, ← sa]; exact heap_alloc_new wa _
  obtain ⟨b, eb⟩ : ∃ b, w.heap.size = b := ⟨_, rfl⟩
  rw [eb] at hxd hxf s1
  obtain ⟨⟨fm, ff, fc⟩, hfl⟩ : ∃ t, flawT r = t := ⟨_, rfl⟩
  obtain ⟨fd, hfd⟩ : ∃ fd, r.isSome = fd := ⟨_, rfl⟩
  have HEX : Hid (∀ wx, Below w1.heap.size w1 wx → Calls Try.prog 59 #[.agg #[.string (strL nm), .slice A n c, .string (strL st)]] wx fun e w' => ∃ k, e = .returned (.tuple #[.map k, .agg #[.int .i64 fm, .int .i64 ff, .int .i64 fc], .bool fd]) ∧ Below wx.heap.size wx w') := Lib.hid (fun wx hb => (he wx (hb1.trans (hb.mono hb1.size))).mono (fun e w' h => by
    have := h.flat
    rw [hfl, hfd] at this
    exact this))
  rw [hfl, hfd]
  have d0 : w1.cell? ⟨b, 0, none⟩ = some (.string (strL nm)) := by simp [World.cell?, hxd]
  have d1 : w1.cell? ⟨b, 1, none⟩ = some (.slice A n c) := by simp [World.cell?, hxd]
  have d2 : w1.cell? ⟨b, 2, none⟩ = some (.string (strL st)) := by simp [World.cell?, hxd]
  have HW := Lib.hid hw
  have EB := Lib.hid eb
  have HB1 := Lib.hid hb1
  have HXF := Lib.hid hxf
  have S1 := Lib.hid s1
  clear he hwa hw1 hw ba b1 sa hb1 s1 hxd hxf eb hfl hfd
  go_enter Try.func34, Try.ntmps34
  go_upto_region 1 with fail
  rw [HW.out, EB.out]
  go_wp2_with fail
  refine (HEX.out w1 (Below.refl _ _)).mono ?_
  rintro e w2 ⟨k, rfl, hb2⟩
  have hal3 := below_alloc w2 (.cells #[.int .i64 fm, .int .i64 ff, .int .i64 fc] 79)
  have hn3 : (w2.alloc (.cells #[.int .i64 fm, .int .i64 ff, .int .i64 fc] 79)).heap[w2.heap.size]? = some (.cells #[.int .i64 fm, .int .i64 ff, .int .i64 fc] 79 (0, 0)) := heap_alloc_new w2 _
  obtain ⟨tb, etb⟩ : ∃ tb, w2.heap.size = tb := ⟨_, rfl⟩
  obtain ⟨w3, hw3⟩ : ∃ w3, w2.alloc (.cells #[.int .i64 fm, .int .i64 ff, .int .i64 fc] 79) = w3 := ⟨_, rfl⟩
  rw [hw3] at hal3 hn3
  rw [etb] at hn3
  have hb13 := hb2.trans (hal3.mono hb2.size)
  have hxf3 := (hb13.block (b + 1) (by have := S1.out; omega)).trans HXF.out
  have q0 : w3.cell? ⟨tb, 0, none⟩ = some (.int .i64 fm) := by simp [World.cell?, hn3]
  have q1 : w3.cell? ⟨tb, 1, none⟩ = some (.int .i64 ff) := by simp [World.cell?, hn3]
  have q2 : w3.cell? ⟨tb, 2, none⟩ = some (.int .i64 fc) := by simp [World.cell?, hn3]
  have r0 : w3.cell? ⟨b + 1, 0, none⟩ = some (.int .i64 0) := by simp [World.cell?, hxf3]
  have r1 : w3.cell? ⟨b + 1, 1, none⟩ = some (.int .i64 0) := by simp [World.cell?, hxf3]
  have r2 : w3.cell? ⟨b + 1, 2, none⟩ = some (.int .i64 0) := by simp [World.cell?, hxf3]
  have g0 : w3.frozen? ⟨b + 1, 0, none⟩ = false := by simp [World.frozen?, hxf3]
  have g1 : w3.frozen? ⟨b + 1, 1, none⟩ = false := by simp [World.frozen?, hxf3]
  have g2 : w3.frozen? ⟨b + 1, 2, none⟩ = false := by simp [World.frozen?, hxf3]
  have hset := heap_setCell_same _ (b + 1) 2 _ 79 (.int .i64 fc) (heap_setCell_same _ (b + 1) 1 _ 79 (.int .i64 ff) (heap_setCell_same w3 (b + 1) 0 _ 79 (.int .i64 fm) hxf3))
  have hrs := rest_setAt w3 (b + 1) (.int .i64 fm) (.int .i64 ff) (.int .i64 fc)
  have HBF := Lib.hid ((HB1.out.trans (hb13.mono HB1.out.size)).trans (hrs.toBelow w.heap.size (by have := HB1.out.size; have := hb13.size; omega) (fun i hi e => by have := EB.out; omega)))
  have HSET := Lib.hid hset
  have W3 := Lib.hid hw3
  have ETB := Lib.hid etb
  clear hb2 hal3 hn3 etb hw3 hb13 hxf3 hset hrs d0 d1 d2
  go_upto_region 2 with fail
  rw [W3.out, ETB.out]
  go_wp2_with fail
  have hset := HSET.out
  have hbf := HBF.out
  obtain ⟨w4, hw4⟩ : ∃ w4, ((w3.setCell ⟨b + 1, 0, none⟩ (.int .i64 fm)).setCell ⟨b + 1, 1, none⟩ (.int .i64 ff)).setCell ⟨b + 1, 2, none⟩ (.int .i64 fc) = w4 := ⟨_, rfl⟩
  rw [hw4] at hset hbf ⊢
  have p0 : w4.cell? ⟨b + 1, 0, none⟩ = some (.int .i64 fm) := by simp [World.cell?, hset]
  have p1 : w4.cell? ⟨b + 1, 1, none⟩ = some (.int .i64 ff) := by simp [World.cell?, hset]
  have p2 : w4.cell? ⟨b + 1, 2, none⟩ = some (.int .i64 fc) := by simp [World.cell?, hset]
  refine bodyPost_ret (by simp [results, Try.results34, go_sem, p0, p1, p2]; try rfl) rfl ?_
  exact ⟨rfl, hbf⟩

set_option maxRecDepth 100000 in
set_option maxHeartbeats 1600000 in
theorem valid_of (nm st : List UInt8) (A : Option Addr) (n c : Nat) (r : Option (Int × Int × Int)) (E : Nats) (w : World)
    (he : ∀ wx, Below w.heap.size w wx → Calls Try.prog 59 #[.agg #[.string (strL nm), .slice A n c, .string (strL st)]] wx (ExPost r E wx)) :
    Calls Try.prog 35 #[.agg #[.string (strL nm), .slice A n c, .string (strL st)]] w fun e w' => e = .returned (.bool (!r.isSome)) ∧ Below w.heap.size w w' := by
  have hal := below_alloc w (.cells #[.string (strL nm), .slice A n c, .string (strL st)] 44)
  have hxd : (w.alloc (.cells #[.string (strL nm), .slice A n c, .string (strL st)] 44)).heap[w.heap.size]? = some (.cells #[.string (strL nm), .slice A n c, .string (strL st)] 44 (0, 0)) := heap_alloc_new w _
  obtain ⟨b, eb⟩ : ∃ b, w.heap.size = b := ⟨_, rfl⟩
  obtain ⟨w1, hw1⟩ : ∃ w1, w.alloc (.cells #[.string (strL nm), .slice A n c, .string (strL st)] 44) = w1 := ⟨_, rfl⟩
  rw [hw1] at hal hxd
  rw [eb] at hxd
  have HCK := check_of nm st A n c r E w1 (fun wx hb => he wx (hal.trans (hb.mono hal.size)))
  obtain ⟨⟨fm, ff, fc⟩, hfl⟩ : ∃ t, flawT r = t := ⟨_, rfl⟩
  obtain ⟨fd, hfd⟩ : ∃ fd, r.isSome = fd := ⟨_, rfl⟩
  rw [hfl, hfd] at HCK
  rw [hfd]
  have HCK := Lib.hid HCK
  have d0 : w1.cell? ⟨b, 0, none⟩ = some (.string (strL nm)) := by simp [World.cell?, hxd]
  have d1 : w1.cell? ⟨b, 1, none⟩ = some (.slice A n c) := by simp [World.cell?, hxd]
  have d2 : w1.cell? ⟨b, 2, none⟩ = some (.string (strL st)) := by simp [World.cell?, hxd]
  have HW := Lib.hid hw1
  have EB := Lib.hid eb
  have HAL := Lib.hid hal
  clear he hal hxd eb hw1 hfl hfd
  go_enter Try.func35, Try.ntmps35
  go_upto_region 1 with fail
  rw [HW.out, EB.out]
  go_wp2_with fail
  refine HCK.out.mono ?_
  rintro e w2 ⟨rfl, hb2⟩
  have HB2 := Lib.hid (HAL.out.trans ((hb2.trans ((below_alloc w2 (.cells #[.int .i64 fm, .int .i64 ff, .int .i64 fc] 79)).mono hb2.size)).mono HAL.out.size))
  clear hb2
  go_wp2_with fail
  go_ret
  exact ⟨rfl, HB2.out⟩
end Go.Proofs.Ytbpkppmbbpoohaa

namespace Go.Proofs.Ytbpkppmbbpoohaa
open Go.RowKit Go.Shelf

def hasvB (d : FieldD) : Bool := !(d.kind == 2) && !(d.kind == 10) && !(d.kind == 11)
set_option maxRecDepth 100000 in
set_option maxHeartbeats 1600000 in
theorem hasvalue_any (d : FieldD) (w : World) : Calls Try.prog 15 #[d.agg] w fun e w' => e = .returned (.bool (hasvB d)) ∧ Below w.heap.size w w' := by
  unfold FieldD.agg
  have hal := below_alloc w (.cells #[.string (strL d.name), .int .i64 d.kind, .int .i64 d.bits, .bool d.little, .bool d.loose, .int .i64 d.low, .int .i64 d.high, .int .i64 d.base, .slice d.ta d.terms.length d.tc, .string (strL d.of_), .string (strL d.tag), .string (strL d.from_), .slice d.ca d.cases.length d.cc, .int .i64 d.check, .int .i64 d.key] 28)
  have hbx := FBox.new w d
  obtain ⟨b, eb⟩ : ∃ b, w.heap.size = b := ⟨_, rfl⟩
  obtain ⟨w1, hw1⟩ : ∃ w1, w.alloc (.cells #[.string (strL d.name), .int .i64 d.kind, .int .i64 d.bits, .bool d.little, .bool d.loose, .int .i64 d.low, .int .i64 d.high, .int .i64 d.base, .slice d.ta d.terms.length d.tc, .string (strL d.of_), .string (strL d.tag), .string (strL d.from_), .slice d.ca d.cases.length d.cc, .int .i64 d.check, .int .i64 d.key] 28) = w1 := ⟨_, rfl⟩
  rw [hw1] at hal hbx
  rw [eb] at hbx
  have HW := Lib.hid hw1
  have EB := Lib.hid eb
  have HAL := Lib.hid hal
  have y1 := hbx.c1
  obtain ⟨s2, e2⟩ : ∃ s, (d.kind == 2) = s := ⟨_, rfl⟩
  obtain ⟨s10, e10⟩ : ∃ s, (d.kind == 10) = s := ⟨_, rfl⟩
  obtain ⟨s11, e11⟩ : ∃ s, (d.kind == 11) = s := ⟨_, rfl⟩
  obtain ⟨R, hR⟩ : ∃ R, hasvB d = R := ⟨_, rfl⟩
  have hr : R = (!s2 && !s10 && !s11) := by rw [← hR]; unfold hasvB; rw [e2, e10, e11]
  rw [hR]
  have HR := Lib.hid hr
  have f2 : (d.kind != 2) = !s2 := by rw [← e2]; rfl
  have f10 : (d.kind != 10) = !s10 := by rw [← e10]; rfl
  have f11 : (d.kind != 11) = !s11 := by rw [← e11]; rfl
  clear hal hbx eb hw1 hR hr
  cases s2
  · cases s10
    · cases s11
      all_goals
        go_enter Try.func15, Try.ntmps15
        go_upto_region 1 with fail
        rw [HW.out, EB.out]
        go_wp2_with fail
        go_ret
        exact ⟨ret_bool HR.out.symm, HAL.out⟩
    · go_enter Try.func15, Try.ntmps15
      go_upto_region 1 with fail
      rw [HW.out, EB.out]
      go_wp2_with fail
      go_ret
      exact ⟨ret_bool HR.out.symm, HAL.out⟩
  · go_enter Try.func15, Try.ntmps15
    go_upto_region 1 with fail
    rw [HW.out, EB.out]
    go_wp2_with fail
    go_ret
    exact ⟨ret_bool HR.out.symm, HAL.out⟩

/-- The nature of a message of a definition, and the error. -/
def natInR (r : Option (Int × Int × Int)) (E : Nats) (D : List MsgD) (mi : Int) : (Int × Bool) × Int :=
  if r.isSome then ((0, false), 2) else if inB mi 0 ((D.length : Int) - 1) then ((D[mi.toNat]?).elim (0, false) (fun d => (getN E d.name).getD (0, false)), 0) else ((0, false), 3)

theorem nat_set (W : World) (b : Nat) (u : Int) (v : Bool) (h : NBox W b (0, false)) : NBox ((W.setCell ⟨b, 0, none⟩ (.int .i64 u)).setCell ⟨b, 1, none⟩ (.bool v)) b (u, v) ∧ Rest (fun k => k = b) W ((W.setCell ⟨b, 0, none⟩ (.int .i64 u)).setCell ⟨b, 1, none⟩ (.bool v)) :=
  ⟨(h.set0 u).set1 v, ((Rest.refl (fun k => k = b) W).setCell (S := fun k => k = b) (p := ⟨b, 0, none⟩) (fun _ => rfl) _).setCell (S := fun k => k = b) (p := ⟨b, 1, none⟩) (fun _ => rfl) _⟩

set_option maxRecDepth 100000 in
set_option maxHeartbeats 3200000 in
theorem naturein_of (nm st : List UInt8) (A : Option Addr) (c : Nat) (D : List MsgD) (S : Nat → Prop) (mi : Int) (r : Option (Int × Int × Int)) (E : Nats) (w : World) (h : SlAt MsgD.cells 2 S w A c D) (hd1 : r = none → 1 ≤ D.length)
    (he : ∀ wx, Below w.heap.size w wx → Calls Try.prog 59 #[.agg #[.string (strL nm), .slice A D.length c, .string (strL st)]] wx (ExPost r E wx)) :
    Calls Try.prog 54 #[.agg #[.string (strL nm), .slice A D.length c, .string (strL st)], .int .i64 mi] w fun e w' => e = .returned (.tuple #[natV (natInR r E D mi).1, .int .i64 (natInR r E D mi).2]) ∧ Below w.heap.size w w' := by
  have hl : D.length ≤ 9223372036854775807 := Nat.le_trans h.1 h.2.1
  obtain ⟨wa, hwa⟩ : ∃ wa, w.alloc (.cells #[.string (strL nm), .slice A D.length c, .string (strL st)] 44) = wa := ⟨_, rfl⟩
  obtain ⟨w1, hw1⟩ : ∃ w1, wa.alloc (.cells #[.int .i64 0, .bool false] 102) = w1 := ⟨_, rfl⟩
  have hw : (w.alloc (.cells #[.string (strL nm), .slice A D.length c, .string (strL st)] 44)).alloc (.cells #[.int .i64 0, .bool false] 102) = w1 := by rw [hwa, hw1]
  have ba : Below w.heap.size w wa := by rw [← hwa]; exact below_alloc _ _
  have b1 : Below wa.heap.size wa w1 := by rw [← hw1]; exact below_alloc _ _
  have sa : wa.heap.size = w.heap.size + 1 := by rw [← hwa]; simp
  have hb1 : Below w.heap.size w w1 := ba.trans (b1.mono (by omega))
  have s1 : w1.heap.size = w.heap.size + 2 := by rw [← hw1]; simp; omega
  have hxd : w1.heap[w.heap.size]? = some (.cells #[.string (strL nm), .slice A D.length c, .string (strL st)] 44 (0, 0)) := (b1.block _ (by omega)).trans (by rw [← hwa]; exact heap_alloc_new w _)
  have hxn : NBox w1 (w.heap.size + 1) (0, false) := by rw [← hw1, ← sa]; exact NBox.new wa 0 false
  have h1 := h.below hb1
  obtain ⟨b, eb⟩ : ∃ b, w.heap.size = b := ⟨_, rfl⟩
  rw [eb] at hxd hxn s1
  have KD : Hid (∀ wx, Below w1.heap.size w1 wx → wx.cell? ⟨b, 0, none⟩ = some (.string (strL nm)) ∧ wx.cell? ⟨b, 1, none⟩ = some (.slice A D.length c) ∧ wx.cell? ⟨b, 2, none⟩ = some (.string (strL st)) ∧ NBox wx (b + 1) (0, false)) := Lib.hid (fun wx hb => by
    have := (hb.block b (by omega)).trans hxd
    exact ⟨by simp [World.cell?, this], by simp [World.cell?, this], by simp [World.cell?, this], hxn.below hb hxn.lt⟩)
  have HEX : Hid (Calls Try.prog 59 #[.agg #[.string (strL nm), .slice A D.length c, .string (strL st)]] w1 (ExPost r E w1)) := Lib.hid (he w1 hb1)
  obtain ⟨⟨⟨zd, zs⟩, ze⟩, hz⟩ : ∃ z, natInR r E D mi = z := ⟨_, rfl⟩
  rw [hz]
  have HZ := Lib.hid hz
  have HW := Lib.hid hw
  have EB := Lib.hid eb
  have HB1 := Lib.hid hb1
  have H1 := Lib.hid h1
  have HD1 := Lib.hid hd1
  have S1 := Lib.hid s1
  have HFIN : Hid (∀ wx, Below w1.heap.size w1 wx → NBox ((wx.setCell ⟨b + 1, 0, none⟩ (.int .i64 zd)).setCell ⟨b + 1, 1, none⟩ (.bool zs)) (b + 1) (zd, zs) ∧ Below w.heap.size w ((wx.setCell ⟨b + 1, 0, none⟩ (.int .i64 zd)).setCell ⟨b + 1, 1, none⟩ (.bool zs))) := Lib.hid (fun wx hb => by
    have hs := nat_set wx (b + 1) zd zs (hxn.below hb hxn.lt)
    exact ⟨hs.1, (hb1.trans (hb.mono hb1.size)).trans (hs.2.toBelow w.heap.size (by have := hb1.size; have := hb.size; omega) (fun i hi e => by omega))⟩)
  have HWI := fun w => Lib.hid (withinS mi 0 ((D.length : Int) - 1) w)
  obtain ⟨d0, d1, d2, _⟩ := KD.out w1 (Below.refl _ _)
  clear h hd1 he hwa hw1 hw ba b1 sa hb1 s1 hxd hxn h1 eb hz
  go_enter Try.func54, Try.ntmps54
  go_upto_region 1 with fail
  rw [HW.out, EB.out]
  go_wp2_with fail
  refine HEX.out.mono ?_
  rintro e w2 hp
  clear d0 d1 d2
  cases r with
  | some p =>
    obtain ⟨hb2, rfl⟩ := hp
    obtain ⟨m, f, cd⟩ := p
    have hz : ((0, false), (2 : Int)) = ((zd, zs), ze) := HZ.out
    simp only [Prod.mk.injEq] at hz
    obtain ⟨⟨rfl, rfl⟩, rfl⟩ := hz
    have hb3 := hb2.trans ((below_alloc w2 (.cells #[.int .i64 m, .int .i64 f, .int .i64 cd] 79)).mono hb2.size)
    obtain ⟨w3, hw3⟩ : ∃ w3, w2.alloc (.cells #[.int .i64 m, .int .i64 f, .int .i64 cd] 79) = w3 := ⟨_, rfl⟩
    rw [hw3] at hb3
    obtain ⟨_, _, _, hn3⟩ := KD.out w3 hb3
    have v0 := hn3.c0
    have v1 := hn3.c1
    have g0 := hn3.fr 0
    have g1 := hn3.fr 1
    have HF := Lib.hid (HFIN.out w3 hb3)
    have W3 := Lib.hid hw3
    clear hb2 hb3 hw3 hn3
    dsimp only
    go_upto_region 2 with fail
    rw [W3.out]
    go_wp2_with fail
    obtain ⟨hn, hb⟩ := HF.out
    obtain ⟨w4, hw4⟩ : ∃ w4, (w3.setCell ⟨b + 1, 0, none⟩ (.int .i64 0)).setCell ⟨b + 1, 1, none⟩ (.bool false) = w4 := ⟨_, rfl⟩
    rw [hw4] at hn hb ⊢
    have p0 := hn.c0
    have p1 := hn.c1
    refine bodyPost_ret (by simp [results, Try.results54, go_sem, p0, p1]; try rfl) rfl ?_
    exact ⟨rfl, hb⟩
  | none =>
    obtain ⟨hb2, kr, hkr, rfl, hm⟩ := hp
    have hb3 := hb2.trans ((below_alloc w2 (.cells #[.int .i64 0, .int .i64 0, .int .i64 0] 79)).mono hb2.size)
    have hm3 := hm.below (below_alloc w2 (.cells #[.int .i64 0, .int .i64 0, .int .i64 0] 79)) hm.lt
    obtain ⟨w3, hw3⟩ : ∃ w3, w2.alloc (.cells #[.int .i64 0, .int .i64 0, .int .i64 0] 79) = w3 := ⟨_, rfl⟩
    rw [hw3] at hb3 hm3
    obtain ⟨q0, q1, _, hn3⟩ := KD.out w3 hb3
    have v0 := hn3.c0
    have v1 := hn3.c1
    have g0 := hn3.fr 0
    have g1 := hn3.fr 1
    have hd1 := HD1.out rfl
    have HS3 := Lib.hid (H1.out.below hb3)
    have HF := Lib.hid (HFIN.out w3 hb3)
    have M3 := Lib.hid hm3
    have W3 := Lib.hid hw3
    clear hb2 hb3 hw3 hn3 hkr hm hm3
    cases hwi : inB mi 0 ((D.length : Int) - 1) with
    | false =>
      have hz : ((0, false), (3 : Int)) = ((zd, zs), ze) := by
        have := HZ.out
        unfold natInR at this
        rw [hwi] at this
        exact this
      simp only [Prod.mk.injEq] at hz
      obtain ⟨⟨rfl, rfl⟩, rfl⟩ := hz
      rw [hwi] at HWI
      clear hwi
      dsimp only
      go_upto_region 2 with fail
      rw [W3.out]
      go_wp2_with (go_at_call 41; refine ((HWI _).out).mono ?_; rintro e w' ⟨rfl, hw'⟩; have hw'' := hw'.symm; clear hw'; subst hw'')
      obtain ⟨hn, hb⟩ := HF.out
      obtain ⟨w4, hw4⟩ : ∃ w4, (w3.setCell ⟨b + 1, 0, none⟩ (.int .i64 0)).setCell ⟨b + 1, 1, none⟩ (.bool false) = w4 := ⟨_, rfl⟩
      rw [hw4] at hn hb ⊢
      have p0 := hn.c0
      have p1 := hn.c1
      refine bodyPost_ret (by simp [results, Try.results54, go_sem, p0, p1]; try rfl) rfl ?_
      exact ⟨rfl, hb⟩
    | true =>
      have hbd : 0 ≤ mi ∧ mi ≤ (D.length : Int) - 1 := by simpa [inB] using hwi
      obtain ⟨k, rfl⟩ : ∃ k : Nat, mi = (k : Int) := ⟨mi.toNat, by omega⟩
      have hk : k < D.length := by omega
      obtain ⟨d, hd⟩ : ∃ d, D[k]? = some d := ⟨_, List.getElem?_eq_getElem hk⟩
      have hz : ((getN E d.name).getD (0, false), (0 : Int)) = ((zd, zs), ze) := by
        have := HZ.out
        unfold natInR at this
        rw [hwi] at this
        simp only [Option.isSome_none, Bool.false_eq_true, if_false, if_true, Int.toNat_natCast, hd, Option.elim] at this
        exact this
      simp only [Prod.mk.injEq] at hz
      obtain ⟨hz1, rfl⟩ := hz
      rw [hwi] at HWI
      obtain ⟨g, o, rfl, hx⟩ := HS3.out.at_ hd
      have x0 : w3.cell? ⟨g, o + k * 2, none⟩ = some (.string (strL d.name)) := hx 0 _ rfl
      have hrun := run_look (P := Try.prog) Try.underlying108 Try.ustr (Try.zeroNat w3) M3.out d.name
      rw [look_nat, hz1] at hrun
      unfold natV at hrun
      clear hwi hbd hd hx hz1
      dsimp only
      go_upto_region 2 with fail
      rw [W3.out]
      go_wp2_with (go_at_call 41; refine ((HWI _).out).mono ?_; rintro e w' ⟨rfl, hw'⟩; have hw'' := hw'.symm; clear hw'; subst hw'')
      obtain ⟨hn, hb⟩ := HF.out
      obtain ⟨w4, hw4⟩ : ∃ w4, (w3.setCell ⟨b + 1, 0, none⟩ (.int .i64 zd)).setCell ⟨b + 1, 1, none⟩ (.bool zs) = w4 := ⟨_, rfl⟩
      rw [hw4] at hn hb ⊢
      have p0 := hn.c0
      have p1 := hn.c1
      refine bodyPost_ret (by simp [results, Try.results54, go_sem, p0, p1]; try rfl) rfl ?_
      exact ⟨rfl, hb⟩
end Go.Proofs.Ytbpkppmbbpoohaa

namespace Go.Proofs.Ytbpkppmbbpoohaa
open Go.RowKit Go.Shelf

set_option maxRecDepth 100000 in
set_option maxHeartbeats 1600000 in
theorem depth_of (nm st : List UInt8) (A : Option Addr) (n c : Nat) (mi zd ze : Int) (zs : Bool) (w : World)
    (he : ∀ wx, Below w.heap.size w wx → Calls Try.prog 54 #[.agg #[.string (strL nm), .slice A n c, .string (strL st)], .int .i64 mi] wx fun e w' => e = .returned (.tuple #[natV (zd, zs), .int .i64 ze]) ∧ Below wx.heap.size wx w') :
    Calls Try.prog 27 #[.agg #[.string (strL nm), .slice A n c, .string (strL st)], .int .i64 mi] w fun e w' => e = .returned (.tuple #[.int .i64 zd, .int .i64 ze]) ∧ Below w.heap.size w w' := by
  have hal := below_alloc w (.cells #[.string (strL nm), .slice A n c, .string (strL st)] 44)
  have hxd : (w.alloc (.cells #[.string (strL nm), .slice A n c, .string (strL st)] 44)).heap[w.heap.size]? = some (.cells #[.string (strL nm), .slice A n c, .string (strL st)] 44 (0, 0)) := heap_alloc_new w _
  obtain ⟨b, eb⟩ : ∃ b, w.heap.size = b := ⟨_, rfl⟩
  obtain ⟨w1, hw1⟩ : ∃ w1, w.alloc (.cells #[.string (strL nm), .slice A n c, .string (strL st)] 44) = w1 := ⟨_, rfl⟩
  rw [hw1] at hal hxd
  rw [eb] at hxd
  have HN := he w1 hal
  unfold natV at HN
  have HN := Lib.hid HN
  have d0 : w1.cell? ⟨b, 0, none⟩ = some (.string (strL nm)) := by simp [World.cell?, hxd]
  have d1 : w1.cell? ⟨b, 1, none⟩ = some (.slice A n c) := by simp [World.cell?, hxd]
  have d2 : w1.cell? ⟨b, 2, none⟩ = some (.string (strL st)) := by simp [World.cell?, hxd]
  have HW := Lib.hid hw1
  have EB := Lib.hid eb
  have HAL := Lib.hid hal
  clear he hal hxd eb hw1
  go_enter Try.func27, Try.ntmps27
  go_upto_region 1 with fail
  rw [HW.out, EB.out]
  go_wp2_with fail
  refine HN.out.mono ?_
  rintro e w2 ⟨rfl, hb2⟩
  have hb3 := hb2.trans ((below_alloc w2 (.cells #[.int .i64 zd, .bool zs] 102)).mono hb2.size)
  have hn3 := NBox.new w2 zd zs
  obtain ⟨tb, etb⟩ : ∃ tb, w2.heap.size = tb := ⟨_, rfl⟩
  obtain ⟨w3, hw3⟩ : ∃ w3, w2.alloc (.cells #[.int .i64 zd, .bool zs] 102) = w3 := ⟨_, rfl⟩
  rw [hw3] at hb3 hn3
  rw [etb] at hn3
  have q0 := hn3.c0
  have HB := Lib.hid (HAL.out.trans (hb3.mono HAL.out.size))
  have W3 := Lib.hid hw3
  have ETB := Lib.hid etb
  clear hb2 hb3 hn3 etb hw3
  go_upto_region 2 with fail
  rw [W3.out, ETB.out]
  go_wp2_with fail
  go_ret2
  exact ⟨rfl, HB.out⟩

set_option maxRecDepth 100000 in
set_option maxHeartbeats 1600000 in
theorem flawed_of (nm st : List UInt8) (A : Option Addr) (n c : Nat) (fm ff fc : Int) (w : World)
    (he : ∀ wx, Below w.heap.size w wx → Calls Try.prog 34 #[.agg #[.string (strL nm), .slice A n c, .string (strL st)]] wx fun e w' => e = .returned (.tuple #[.agg #[.int .i64 fm, .int .i64 ff, .int .i64 fc], .bool true]) ∧ Below wx.heap.size wx w') :
    Calls Try.prog 38 #[.agg #[.string (strL nm), .slice A n c, .string (strL st)], .int .i64 fm, .int .i64 ff, .int .i64 fc] w fun e w' => e = .returned (.bool true) ∧ Below w.heap.size w w' := by
  have hal := below_alloc w (.cells #[.string (strL nm), .slice A n c, .string (strL st)] 44)
  have hxd : (w.alloc (.cells #[.string (strL nm), .slice A n c, .string (strL st)] 44)).heap[w.heap.size]? = some (.cells #[.string (strL nm), .slice A n c, .string (strL st)] 44 (0, 0)) := heap_alloc_new w _
  obtain ⟨b, eb⟩ : ∃ b, w.heap.size = b := ⟨_, rfl⟩
  obtain ⟨w1, hw1⟩ : ∃ w1, w.alloc (.cells #[.string (strL nm), .slice A n c, .string (strL st)] 44) = w1 := ⟨_, rfl⟩
  rw [hw1] at hal hxd
  rw [eb] at hxd
  have HN := Lib.hid (he w1 hal)
  have d0 : w1.cell? ⟨b, 0, none⟩ = some (.string (strL nm)) := by simp [World.cell?, hxd]
  have d1 : w1.cell? ⟨b, 1, none⟩ = some (.slice A n c) := by simp [World.cell?, hxd]
  have d2 : w1.cell? ⟨b, 2, none⟩ = some (.string (strL st)) := by simp [World.cell?, hxd]
  have HW := Lib.hid hw1
  have EB := Lib.hid eb
  have HAL := Lib.hid hal
  have hcmp : ∀ w, (binOp .eql 79 (.agg #[.int .i64 fm, .int .i64 ff, .int .i64 fc]) (.agg #[.int .i64 fm, .int .i64 ff, .int .i64 fc])).run Try.prog w = .ok (.bool true) w := fun w => by
    simp [go_sem]
  clear he hal hxd eb hw1
  go_enter Try.func38, Try.ntmps38
  go_upto_region 1 with fail
  rw [HW.out, EB.out]
  go_wp2_with fail
  refine HN.out.mono ?_
  rintro e w2 ⟨rfl, hb2⟩
  have hb3 := hb2.trans ((below_alloc w2 (.cells #[.int .i64 fm, .int .i64 ff, .int .i64 fc] 79)).mono hb2.size)
  have hn3 : (w2.alloc (.cells #[.int .i64 fm, .int .i64 ff, .int .i64 fc] 79)).heap[w2.heap.size]? = some (.cells #[.int .i64 fm, .int .i64 ff, .int .i64 fc] 79 (0, 0)) := heap_alloc_new w2 _
  obtain ⟨tb, etb⟩ : ∃ tb, w2.heap.size = tb := ⟨_, rfl⟩
  obtain ⟨w3, hw3⟩ : ∃ w3, w2.alloc (.cells #[.int .i64 fm, .int .i64 ff, .int .i64 fc] 79) = w3 := ⟨_, rfl⟩
  rw [hw3] at hb3 hn3
  rw [etb] at hn3
  have q0 : w3.cell? ⟨tb, 0, none⟩ = some (.int .i64 fm) := by simp [World.cell?, hn3]
  have q1 : w3.cell? ⟨tb, 1, none⟩ = some (.int .i64 ff) := by simp [World.cell?, hn3]
  have q2 : w3.cell? ⟨tb, 2, none⟩ = some (.int .i64 fc) := by simp [World.cell?, hn3]
  have HB := Lib.hid (HAL.out.trans (hb3.mono HAL.out.size))
  have W3 := Lib.hid hw3
  have ETB := Lib.hid etb
  clear hb2 hb3 hn3 etb hw3
  go_upto_region 2 with fail
  rw [W3.out, ETB.out]
  go_wp2_with fail
  go_ret
  exact ⟨rfl, HB.out⟩
end Go.Proofs.Ytbpkppmbbpoohaa

namespace Go.Proofs.Ytbpkppmbbpoohaa
open Go.RowKit Go.Shelf

theorem alloc4 (w : World) (A B C D : Obj) :
    ((((w.alloc A).alloc B).alloc C).alloc D).heap[w.heap.size]? = some A ∧ ((((w.alloc A).alloc B).alloc C).alloc D).heap[w.heap.size + 1]? = some B ∧
    ((((w.alloc A).alloc B).alloc C).alloc D).heap[w.heap.size + 1 + 1]? = some C ∧ ((((w.alloc A).alloc B).alloc C).alloc D).heap[w.heap.size + 1 + 1 + 1]? = some D ∧
    Below w.heap.size w ((((w.alloc A).alloc B).alloc C).alloc D) ∧ ((((w.alloc A).alloc B).alloc C).alloc D).heap.size = w.heap.size + 4 := by
  have s1 : (w.alloc A).heap.size = w.heap.size + 1 := by simp
  have s2 : ((w.alloc A).alloc B).heap.size = w.heap.size + 1 + 1 := by simp
  have s3 : (((w.alloc A).alloc B).alloc C).heap.size = w.heap.size + 1 + 1 + 1 := by simp
  have hB := World.alloc_heap_new (w.alloc A) B
  have hC := World.alloc_heap_new ((w.alloc A).alloc B) C
  have hD := World.alloc_heap_new (((w.alloc A).alloc B).alloc C) D
  rw [s1] at hB
  rw [s2] at hC
  rw [s3] at hD
  refine ⟨?_, ?_, ?_, hD, (((below_alloc w A).alloc (by omega) _).alloc (by omega) _).alloc (by omega) _, by simp⟩
  · exact (Below.heap_alloc _ D _ (by omega)).trans ((Below.heap_alloc _ C _ (by omega)).trans ((Below.heap_alloc _ B _ (by omega)).trans (World.alloc_heap_new w A)))
  · exact (Below.heap_alloc _ D _ (by omega)).trans ((Below.heap_alloc _ C _ (by omega)).trans hB)
  · exact (Below.heap_alloc _ D _ (by omega)).trans hC

/-- The blocks of the law's definition: the term, the two fields, the message. -/
structure TwoAt (W : World) (tb fb mb : Nat) : Prop where
  tm : W.heap[tb]? = some (.cells #[.string ⟨#[110]⟩, .int .i64 1] 76 (0, 0))
  fd : W.heap[fb]? = some (.cells #[.string ⟨#[110]⟩, .int .i64 1, .int .i64 8, .bool false, .bool false, .int .i64 0, .int .i64 255, .int .i64 0, .slice none 0 0, .string ⟨#[]⟩, .string ⟨#[]⟩, .string ⟨#[]⟩, .slice none 0 0, .int .i64 0, .int .i64 0,
    .string ⟨#[98]⟩, .int .i64 4, .int .i64 0, .bool false, .bool false, .int .i64 0, .int .i64 0, .int .i64 0, .slice (some ⟨tb, 0, none⟩) 1 1, .string ⟨#[]⟩, .string ⟨#[]⟩, .string ⟨#[]⟩, .slice none 0 0, .int .i64 0, .int .i64 0] 28 (0, 0))
  ms : W.heap[mb]? = some (.cells #[.string ⟨#[109]⟩, .slice (some ⟨fb, 0, none⟩) 2 2] 50 (0, 0))
theorem TwoAt.below {W W' : World} {tb fb mb n : Nat} (h : TwoAt W tb fb mb) (hb : Below n W W') (h1 : tb < n) (h2 : fb < n) (h3 : mb < n) : TwoAt W' tb fb mb :=
  ⟨(hb.block tb h1).trans h.tm, (hb.block fb h2).trans h.fd, (hb.block mb h3).trans h.ms⟩

set_option maxRecDepth 100000 in
set_option maxHeartbeats 1600000 in
theorem two_any (w : World) : Calls Try.prog 37 #[] w fun e w' => e = .returned (.agg #[.string ⟨#[100]⟩, .slice (some ⟨w.heap.size + 1 + 1 + 1, 0, none⟩) 1 1, .string ⟨#[109]⟩]) ∧ TwoAt w' (w.heap.size + 1) (w.heap.size + 1 + 1) (w.heap.size + 1 + 1 + 1) ∧ w'.heap.size = w.heap.size + 4 ∧ Below w.heap.size w w' := by
  obtain ⟨b, eb⟩ : ∃ b, w.heap.size = b := ⟨_, rfl⟩
  have H4 := alloc4 w (.cells #[.string ⟨#[100]⟩, .slice (some ⟨b + 1 + 1 + 1, 0, none⟩) 1 1, .string ⟨#[109]⟩] 44) (.cells #[.string ⟨#[110]⟩, .int .i64 1] 76) (.cells #[.string ⟨#[110]⟩, .int .i64 1, .int .i64 8, .bool false, .bool false, .int .i64 0, .int .i64 255, .int .i64 0, .slice none 0 0, .string ⟨#[]⟩, .string ⟨#[]⟩, .string ⟨#[]⟩, .slice none 0 0, .int .i64 0, .int .i64 0,
    .string ⟨#[98]⟩, .int .i64 4, .int .i64 0, .bool false, .bool false, .int .i64 0, .int .i64 0, .int .i64 0, .slice (some ⟨b + 1, 0, none⟩) 1 1, .string ⟨#[]⟩, .string ⟨#[]⟩, .string ⟨#[]⟩, .slice none 0 0, .int .i64 0, .int .i64 0] 28) (.cells #[.string ⟨#[109]⟩, .slice (some ⟨b + 1 + 1, 0, none⟩) 2 2] 50)
  have H4 := Lib.hid H4
  have EB := Lib.hid eb
  clear eb
  go_enter Try.func37, Try.ntmps37
  go_wp2_with fail
  obtain ⟨hA, hB, hC, hD, hbl, hsz⟩ := H4.out
  rw [EB.out] at hA hB hC hD hbl hsz ⊢
  generalize (((w.alloc _).alloc _).alloc _).alloc _ = w4 at hA hB hC hD hbl hsz ⊢
  have c0 : w4.cell? ⟨b, 0, none⟩ = some (.string ⟨#[100]⟩) := by simp [World.cell?, hA]
  have c1 : w4.cell? ⟨b, 1, none⟩ = some (.slice (some ⟨b + 1 + 1 + 1, 0, none⟩) 1 1) := by simp [World.cell?, hA]
  have c2 : w4.cell? ⟨b, 2, none⟩ = some (.string ⟨#[109]⟩) := by simp [World.cell?, hA]
  refine bodyPost_ret (by simp [results, Try.results37, go_sem, c0, c1, c2]; try rfl) rfl ?_
  exact ⟨rfl, ⟨hB, hC, hD⟩, hsz, hbl⟩
end Go.Proofs.Ytbpkppmbbpoohaa
