/- The flaw of the conditions of a field's kind, as the document says. Conditions: the definition lies in memory; the messages ahead and the fields ahead have passed. -/
import Derived.Test.YtbpkppmbbpoohaaGreatWh
import Derived.Test.YtbpkppmbbpoohaaGreatWi
import Derived.Test.YtbpkppmbbpoohaaGreatWj
import Derived.Test.YtbpkppmbbpoohaaGreatVj
namespace Go.Proofs.YtbpkppmbbpoohaaGreat
open Go.RowKit Go.Shelf

theorem any_cons_idx {B : List FieldD} (nm : List UInt8) (q : Int) (h : idxOf (fun e : FieldD => e.name == nm) B = q) : B.any (fun e => e.name == nm) = decide (0 ≤ q) := by
  rw [any_idx, h]

set_option maxRecDepth 100000 in
set_option maxHeartbeats 25600000 in
theorem refKinds (nm st : List UInt8) (A : Option Addr) (c : Nat) (D : List MsgD) (S : Nat → Prop) (w : World) (h : MsgsAt S w A c D) (a : Nat) (m : MsgD) (hm : D[a]? = some m) (ha60 : a ≤ 1000) (hp : msgsR mrA [] 0 (D.take a) = none)
    (i : Nat) (f : FieldD) (hf : m.fields[i]? = some f) (ho : Once (m.fields.take i)) (hal : AllowB (m.fields.take i)) (hk0 : 1 ≤ f.kind) (hk12 : f.kind ≤ 12) :
    Calls Tryz.prog 84 #[.agg #[.string (strL nm), .slice A D.length c, .string (strL st)], .int .i64 ((a : Nat) : Int), .int .i64 ((i : Nat) : Int)] w fun e w' => e = .returned (.int .i64 (codeI (condR (defE (D.take a)) (m.fields.take i) f))) ∧ Below w.heap.size w w' := by
  obtain ⟨mn, fa, fc, fs⟩ := m
  replace hf : fs[i]? = some f := hf
  replace ho : Once (fs.take i) := ho
  replace hal : AllowB (fs.take i) := hal
  show Calls _ _ _ _ fun e w' => e = .returned (.int .i64 (codeI (condR (defE (D.take a)) (fs.take i) f))) ∧ Below w.heap.size w w'
  have hl : D.length ≤ 9223372036854775807 := Nat.le_trans h.1.1 h.1.2.1
  have hmL : a < D.length := (List.getElem?_eq_some_iff.1 hm).1
  have hfL : i < fs.length := (List.getElem?_eq_some_iff.1 hf).1
  have b1 := below_alloc w (.cells #[.string (strL nm), .slice A D.length c, .string (strL st)] 24)
  have x1 : (w.alloc (.cells #[.string (strL nm), .slice A D.length c, .string (strL st)] 24)).heap[w.heap.size]? = some (.cells #[.string (strL nm), .slice A D.length c, .string (strL st)] 24 (0, 0)) := heap_alloc_new w _
  obtain ⟨b, eb⟩ : ∃ b, w.heap.size = b := ⟨_, rfl⟩
  obtain ⟨w1, hw1⟩ : ∃ w1, w.alloc (.cells #[.string (strL nm), .slice A D.length c, .string (strL st)] 24) = w1 := ⟨_, rfl⟩
  rw [hw1] at b1 x1
  have hbb : b = w.heap.size := eb.symm
  rw [eb] at x1
  have b2 := below_alloc w1 (.cells #[.string (strL mn), .slice fa fs.length fc] 36)
  have x2 := msgbox w1 (.string (strL mn)) (.slice fa fs.length fc)
  obtain ⟨mb, emb⟩ : ∃ mb, w1.heap.size = mb := ⟨_, rfl⟩
  obtain ⟨w2, hw2⟩ : ∃ w2, w1.alloc (.cells #[.string (strL mn), .slice fa fs.length fc] 36) = w2 := ⟨_, rfl⟩
  rw [hw2] at b2 x2
  rw [emb] at x2
  have b3 := below_alloc w2 (.cells #[.string (strL f.name), .int .i64 f.kind, .int .i64 f.bits, .bool f.little, .bool f.loose, .int .i64 f.low, .int .i64 f.high, .int .i64 f.base, .slice f.ta f.terms.length f.tc, .string (strL f.of_), .string (strL f.tag), .string (strL f.from_), .slice f.ca f.cases.length f.cc, .int .i64 f.check, .int .i64 f.key] 55)
  have x3 := FBox.new w2 f
  obtain ⟨fb, efb⟩ : ∃ fb, w2.heap.size = fb := ⟨_, rfl⟩
  obtain ⟨w3, hw3⟩ : ∃ w3, w2.alloc (.cells #[.string (strL f.name), .int .i64 f.kind, .int .i64 f.bits, .bool f.little, .bool f.loose, .int .i64 f.low, .int .i64 f.high, .int .i64 f.base, .slice f.ta f.terms.length f.tc, .string (strL f.of_), .string (strL f.tag), .string (strL f.from_), .slice f.ca f.cases.length f.cc, .int .i64 f.check, .int .i64 f.key] 55) = w3 := ⟨_, rfl⟩
  rw [hw3] at b3 x3
  rw [efb] at x3
  have h1 := h.below b1
  have h2 := h1.rest (Rest.below (S := fun _ => False) b2) (fun _ _ e => e.elim)
  have b13 : Below w1.heap.size w1 w3 := b2.trans (b3.mono b2.size)
  have b03 : Below w.heap.size w w3 := b1.trans (b13.mono b1.size)
  have h3 := h.below b03
  obtain ⟨g, o, rfl, hx⟩ := h1.1.at_ hm
  obtain ⟨fg, fo, eF, hy⟩ := (h2.2 _ (List.mem_of_getElem? hm)).1.at_ hf
  replace eF : fa = some ⟨fg, fo, none⟩ := eF
  subst eF
  have xd1 := (b13.block b (by have := (Array.getElem?_eq_some_iff.1 x1).1; omega)).trans x1
  have xm1 := (b3.block mb (by have := (Array.getElem?_eq_some_iff.1 x2).1; omega)).trans x2
  have KK : Hid (∀ wx, Below w3.heap.size w3 wx → (wx.cell? ⟨b, 0, none⟩ = some (.string (strL nm)) ∧ wx.cell? ⟨b, 1, none⟩ = some (.slice (some ⟨g, o, none⟩) D.length c) ∧ wx.cell? ⟨b, 2, none⟩ = some (.string (strL st))) ∧ (wx.cell? ⟨mb, 0, none⟩ = some (.string (strL mn)) ∧ wx.cell? ⟨mb, 1, none⟩ = some (.slice (some ⟨fg, fo, none⟩) fs.length fc)) ∧ FBox wx fb f) := Lib.hid (fun wx hb => by
    have e1 := (hb.block b (Array.getElem?_eq_some_iff.1 xd1).1).trans xd1
    have e2 := (hb.block mb (Array.getElem?_eq_some_iff.1 xm1).1).trans xm1
    exact ⟨⟨by simp [World.cell?, e1], by simp [World.cell?, e1], by simp [World.cell?, e1]⟩, ⟨by simp [World.cell?, e2], by simp [World.cell?, e2]⟩, x3.below hb x3.lt⟩)
  have H3 : Hid (∀ wx, Below w3.heap.size w3 wx → MsgsAt S wx (some ⟨g, o, none⟩) c D) := Lib.hid (fun wx hb => h3.rest (Rest.below (S := fun _ => False) hb) (fun _ _ e => e.elim))
  have HF3 : Hid (∀ wx, Below w3.heap.size w3 wx → FieldsAt S wx (some ⟨fg, fo, none⟩) fc fs) := Lib.hid (fun wx hb => (H3.out wx hb).2 _ (List.mem_of_getElem? hm))
  have FND : Hid (∀ s wx, Below w3.heap.size w3 wx → Calls Tryz.prog 50 #[.agg #[.string (strL nm), .slice (some ⟨g, o, none⟩) D.length c, .string (strL st)], .string (strL s), .int .i64 ((a : Nat) : Int)] wx fun e w' => e = .returned (.int .i64 (idxOf (fun d : MsgD => d.name == s) (D.take a))) ∧ Below wx.heap.size wx w') := Lib.hid (fun s wx hb => refFind_any nm st _ c D s a (by omega) S wx (H3.out wx hb).1)
  have FLD : Hid (∀ s wx, Below w3.heap.size w3 wx → Calls Tryz.prog 59 #[.agg #[.string (strL mn), .slice (some ⟨fg, fo, none⟩) fs.length fc], .string (strL s), .int .i64 ((i : Nat) : Int)] wx fun e w' => e = .returned (.int .i64 (idxOf (fun d : FieldD => d.name == s) (fs.take i))) ∧ Below wx.heap.size wx w') := Lib.hid (fun s wx hb => refField_any mn _ fc fs s i (by omega) S wx (HF3.out wx hb).1)
  have SZD : Hid (∀ wx, Below w3.heap.size w3 wx → Calls Tryz.prog 123 #[.agg #[.string (strL mn), .slice (some ⟨fg, fo, none⟩) fs.length fc], .int .i64 ((i : Nat) : Int)] wx fun e w' => e = .returned (.int .i64 (codeI (sizeAllR (fs.take i) f))) ∧ Below wx.heap.size wx w') := Lib.hid (fun wx hb => refSized mn _ fc fs S wx (HF3.out wx hb) i f hf ho hal)
  have HPs := Lib.hid hp
  have HOn := Lib.hid ho
  have HAl := Lib.hid hal
  have HFi := Lib.hid hf
  obtain ⟨R, hR⟩ : ∃ R, codeI (condR (defE (D.take a)) (fs.take i) f) = R := ⟨_, rfl⟩
  rw [hR]
  have HR := Lib.hid hR
  have HW := Lib.hid hw1
  have EB := Lib.hid eb
  have W2 := Lib.hid hw2
  have EMB := Lib.hid emb
  have W3 := Lib.hid hw3
  have EFB := Lib.hid efb
  have HB0 := Lib.hid b03
  have d1 : w1.cell? ⟨b, 1, none⟩ = some (.slice (some ⟨g, o, none⟩) D.length c) := by simp [World.cell?, x1]
  have m0 : w1.cell? ⟨g, o + a * 2, none⟩ = some (.string (strL mn)) := hx 0 _ rfl
  have m1 : w1.cell? ⟨g, o + a * 2 + 1, none⟩ = some (.slice (some ⟨fg, fo, none⟩) fs.length fc) := hx 1 _ rfl
  have n1 : w2.cell? ⟨mb, 1, none⟩ = some (.slice (some ⟨fg, fo, none⟩) fs.length fc) := by simp [World.cell?, x2]
  have u0 : w2.cell? ⟨fg, fo + i * 15, none⟩ = some (.string (strL f.name)) := hy 0 _ rfl
  have u1 : w2.cell? ⟨fg, fo + i * 15 + 1, none⟩ = some (.int .i64 f.kind) := hy 1 _ rfl
  have u2 : w2.cell? ⟨fg, fo + i * 15 + 2, none⟩ = some (.int .i64 f.bits) := hy 2 _ rfl
  have u3 : w2.cell? ⟨fg, fo + i * 15 + 3, none⟩ = some (.bool f.little) := hy 3 _ rfl
  have u4 : w2.cell? ⟨fg, fo + i * 15 + 4, none⟩ = some (.bool f.loose) := hy 4 _ rfl
  have u5 : w2.cell? ⟨fg, fo + i * 15 + 5, none⟩ = some (.int .i64 f.low) := hy 5 _ rfl
  have u6 : w2.cell? ⟨fg, fo + i * 15 + 6, none⟩ = some (.int .i64 f.high) := hy 6 _ rfl
  have u7 : w2.cell? ⟨fg, fo + i * 15 + 7, none⟩ = some (.int .i64 f.base) := hy 7 _ rfl
  have u8 : w2.cell? ⟨fg, fo + i * 15 + 8, none⟩ = some (.slice f.ta f.terms.length f.tc) := hy 8 _ rfl
  have u9 : w2.cell? ⟨fg, fo + i * 15 + 9, none⟩ = some (.string (strL f.of_)) := hy 9 _ rfl
  have u10 : w2.cell? ⟨fg, fo + i * 15 + 10, none⟩ = some (.string (strL f.tag)) := hy 10 _ rfl
  have u11 : w2.cell? ⟨fg, fo + i * 15 + 11, none⟩ = some (.string (strL f.from_)) := hy 11 _ rfl
  have u12 : w2.cell? ⟨fg, fo + i * 15 + 12, none⟩ = some (.slice f.ca f.cases.length f.cc) := hy 12 _ rfl
  have u13 : w2.cell? ⟨fg, fo + i * 15 + 13, none⟩ = some (.int .i64 f.check) := hy 13 _ rfl
  have u14 : w2.cell? ⟨fg, fo + i * 15 + 14, none⟩ = some (.int .i64 f.key) := hy 14 _ rfl
  have ha0 : (0 : Int) ≤ ((a : Nat) : Int) := by omega
  have ha1 : ((a : Nat) : Int) < ((D.length : Nat) : Int) := by omega
  have hi0 : (0 : Int) ≤ ((i : Nat) : Int) := by omega
  have hi1 : ((i : Nat) : Int) < ((fs.length : Nat) : Int) := by omega
  have HHAS := fun s => Lib.hid (has_idx D a s)
  clear h hm hp hf ho hal b1 x1 eb hw1 b2 x2 emb hw2 b3 x3 efb hw3 h1 h2 b13 b03 h3 hx hy xd1 xm1 hR hbb
  go_enter Tryz.func84, Tryz.ntmps84
  go_upto_region 1 with fail
  rw [HW.out, EB.out]
  go_upto_region 2 with fail
  rw [W2.out, EMB.out]
  go_upto_region 3 with fail
  rw [W3.out, EFB.out]
  clear d1 m0 m1 n1 u0 u1 u2 u3 u4 u5 u6 u7 u8 u9 u10 u11 u12 u13 u14 ha0 ha1
  obtain ⟨⟨d0, d1, d2⟩, ⟨n0, n1⟩, hfb⟩ := KK.out w3 (Below.refl _ _)
  have y1 := hfb.c1
  have HFB := Lib.hid hfb
  clear hfb
  have hcase : f.kind = 1 ∨ f.kind = 2 ∨ f.kind = 3 ∨ f.kind = 4 ∨ f.kind = 5 ∨ f.kind = 6 ∨ f.kind = 7 ∨ f.kind = 8 ∨ f.kind = 9 ∨ f.kind = 10 ∨ f.kind = 11 ∨ f.kind = 12 := by omega
  clear hk0 hk12
  rcases hcase with hk | hk | hk | hk | hk | hk | hk | hk | hk | hk | hk | hk

  · -- kind 1
    have k1 : (f.kind == 1) = true := by rw [hk]; rfl
    have k2 : (f.kind == 2) = false := by rw [hk]; rfl
    have k3 : (f.kind == 3) = false := by rw [hk]; rfl
    have k4 : (f.kind == 4) = false := by rw [hk]; rfl
    have k5 : (f.kind == 5) = false := by rw [hk]; rfl
    have k6 : (f.kind == 6) = false := by rw [hk]; rfl
    have k7 : (f.kind == 7) = false := by rw [hk]; rfl
    have k8 : (f.kind == 8) = false := by rw [hk]; rfl
    have k9 : (f.kind == 9) = false := by rw [hk]; rfl
    have k10 : (f.kind == 10) = false := by rw [hk]; rfl
    have k11 : (f.kind == 11) = false := by rw [hk]; rfl
    have k12 : (f.kind == 12) = false := by rw [hk]; rfl
    have hRc : R = codeI (unsR f) := by
      rw [← HR.out]
      unfold condR
      simp [hk]
    have HRc := Lib.hid hRc
    clear hRc hk
    have HN := fun w => Lib.hid (refNum_any f w)
    rw [k2] at HN

    have hx : codeI (unsR (if false = true then conD f else f)) = R := HRc.out.symm
    rw [hx] at HN
    unfold FieldD.agg at HN
    clear hx
    have y0 := HFB.out.c0
    have y2 := HFB.out.c2
    have y3 := HFB.out.c3
    have y4 := HFB.out.c4
    have y5 := HFB.out.c5
    have y6 := HFB.out.c6
    have y7 := HFB.out.c7
    have y8 := HFB.out.c8
    have y9 := HFB.out.c9
    have y10 := HFB.out.c10
    have y11 := HFB.out.c11
    have y12 := HFB.out.c12
    have y13 := HFB.out.c13
    have y14 := HFB.out.c14
    go_wp2_with (go_at_call 121; refine ((HN _).out).mono ?_; rintro e w4 ⟨rfl, hb4⟩)
    go_ret
    exact ⟨rfl, HB0.out.trans (hb4.mono HB0.out.size)⟩
  · -- kind 2
    have k1 : (f.kind == 1) = false := by rw [hk]; rfl
    have k2 : (f.kind == 2) = true := by rw [hk]; rfl
    have k3 : (f.kind == 3) = false := by rw [hk]; rfl
    have k4 : (f.kind == 4) = false := by rw [hk]; rfl
    have k5 : (f.kind == 5) = false := by rw [hk]; rfl
    have k6 : (f.kind == 6) = false := by rw [hk]; rfl
    have k7 : (f.kind == 7) = false := by rw [hk]; rfl
    have k8 : (f.kind == 8) = false := by rw [hk]; rfl
    have k9 : (f.kind == 9) = false := by rw [hk]; rfl
    have k10 : (f.kind == 10) = false := by rw [hk]; rfl
    have k11 : (f.kind == 11) = false := by rw [hk]; rfl
    have k12 : (f.kind == 12) = false := by rw [hk]; rfl
    have hRc : R = codeI (unsR (conD f)) := by
      rw [← HR.out]
      unfold condR
      simp [hk]
    have HRc := Lib.hid hRc
    clear hRc hk
    have HN := fun w => Lib.hid (refNum_any f w)
    rw [k2] at HN

    have hx : codeI (unsR (if true = true then conD f else f)) = R := HRc.out.symm
    rw [hx] at HN
    unfold FieldD.agg at HN
    clear hx
    have y0 := HFB.out.c0
    have y2 := HFB.out.c2
    have y3 := HFB.out.c3
    have y4 := HFB.out.c4
    have y5 := HFB.out.c5
    have y6 := HFB.out.c6
    have y7 := HFB.out.c7
    have y8 := HFB.out.c8
    have y9 := HFB.out.c9
    have y10 := HFB.out.c10
    have y11 := HFB.out.c11
    have y12 := HFB.out.c12
    have y13 := HFB.out.c13
    have y14 := HFB.out.c14
    go_wp2_with (go_at_call 121; refine ((HN _).out).mono ?_; rintro e w4 ⟨rfl, hb4⟩)
    go_ret
    exact ⟨rfl, HB0.out.trans (hb4.mono HB0.out.size)⟩
  · -- kind 3
    have k1 : (f.kind == 1) = false := by rw [hk]; rfl
    have k2 : (f.kind == 2) = false := by rw [hk]; rfl
    have k3 : (f.kind == 3) = true := by rw [hk]; rfl
    have k4 : (f.kind == 4) = false := by rw [hk]; rfl
    have k5 : (f.kind == 5) = false := by rw [hk]; rfl
    have k6 : (f.kind == 6) = false := by rw [hk]; rfl
    have k7 : (f.kind == 7) = false := by rw [hk]; rfl
    have k8 : (f.kind == 8) = false := by rw [hk]; rfl
    have k9 : (f.kind == 9) = false := by rw [hk]; rfl
    have k10 : (f.kind == 10) = false := by rw [hk]; rfl
    have k11 : (f.kind == 11) = false := by rw [hk]; rfl
    have k12 : (f.kind == 12) = false := by rw [hk]; rfl
    have hRc : R = codeI (belowR 34359738368 f) := by
      rw [← HR.out]
      unfold condR
      simp [hk]
    have HRc := Lib.hid hRc
    clear hRc hk
    have HWD := fun w => Lib.hid (refWide f.low f.high w)
    obtain ⟨sw, hsw⟩ : ∃ s, (decide (0 ≤ f.low) && decide (f.low ≤ f.high) && decide (f.high < 34359738368)) = s := ⟨_, rfl⟩
    rw [hsw] at HWD
    have hRs : R = codeI (ifR sw 7) := by rw [HRc.out, ← hsw]; rfl
    have HRS := Lib.hid hRs
    clear hsw hRs
    have y5 := HFB.out.c5
    have y6 := HFB.out.c6
    cases sw
    all_goals
      go_wp2_with (go_at_call 122; refine ((HWD _).out).mono ?_; rintro e w4 ⟨rfl, hw'⟩; have hw'' := hw'.symm; clear hw'; subst hw'')
      go_ret
      exact ⟨ret_int (by rw [HRS.out]; rfl), HB0.out⟩
  · -- kind 4
    have k1 : (f.kind == 1) = false := by rw [hk]; rfl
    have k2 : (f.kind == 2) = false := by rw [hk]; rfl
    have k3 : (f.kind == 3) = false := by rw [hk]; rfl
    have k4 : (f.kind == 4) = true := by rw [hk]; rfl
    have k5 : (f.kind == 5) = false := by rw [hk]; rfl
    have k6 : (f.kind == 6) = false := by rw [hk]; rfl
    have k7 : (f.kind == 7) = false := by rw [hk]; rfl
    have k8 : (f.kind == 8) = false := by rw [hk]; rfl
    have k9 : (f.kind == 9) = false := by rw [hk]; rfl
    have k10 : (f.kind == 10) = false := by rw [hk]; rfl
    have k11 : (f.kind == 11) = false := by rw [hk]; rfl
    have k12 : (f.kind == 12) = false := by rw [hk]; rfl
    have hRc : R = codeI (sizeAllR (fs.take i) f) := by
      rw [← HR.out]
      unfold condR
      simp [hk]
    have HRc := Lib.hid hRc
    clear hRc hk
    go_wp2_with (go_at_call 123; refine (SZD.out _ (Below.refl _ _)).mono ?_; rintro e w4 ⟨rfl, hb4⟩)
    go_ret
    exact ⟨ret_int HRc.out.symm, HB0.out.trans (hb4.mono HB0.out.size)⟩
  · -- kind 5
    have k1 : (f.kind == 1) = false := by rw [hk]; rfl
    have k2 : (f.kind == 2) = false := by rw [hk]; rfl
    have k3 : (f.kind == 3) = false := by rw [hk]; rfl
    have k4 : (f.kind == 4) = false := by rw [hk]; rfl
    have k5 : (f.kind == 5) = true := by rw [hk]; rfl
    have k6 : (f.kind == 6) = false := by rw [hk]; rfl
    have k7 : (f.kind == 7) = false := by rw [hk]; rfl
    have k8 : (f.kind == 8) = false := by rw [hk]; rfl
    have k9 : (f.kind == 9) = false := by rw [hk]; rfl
    have k10 : (f.kind == 10) = false := by rw [hk]; rfl
    have k11 : (f.kind == 11) = false := by rw [hk]; rfl
    have k12 : (f.kind == 12) = false := by rw [hk]; rfl
    have hRc : R = codeI (untilR f) := by
      rw [← HR.out]
      unfold condR
      simp [hk]
    have HRc := Lib.hid hRc
    clear hRc hk
    have y5 := HFB.out.c5
    have y6 := HFB.out.c6
    by_cases c1 : f.low < 0
    · have hRf := Lib.hid (show R = 7 by rw [HRc.out]; unfold untilR inB; rw [decide_eq_false (show ¬ 0 ≤ f.low by omega)]; rfl)
      go_wp2_with fail
      go_ret
      exact ⟨ret_int hRf.out.symm, HB0.out⟩
    by_cases c2 : 255 < f.low
    · have hRf := Lib.hid (show R = 7 by rw [HRc.out]; unfold untilR inB; rw [decide_eq_false (show ¬ f.low ≤ 255 by omega), Bool.and_false]; rfl)
      go_wp2_with fail
      go_ret
      exact ⟨ret_int hRf.out.symm, HB0.out⟩
    by_cases c3 : f.high < 0
    · have hRf := Lib.hid (show R = 7 by rw [HRc.out]; unfold untilR inB; rw [decide_eq_false (show ¬ 0 ≤ f.high by omega), Bool.false_and, Bool.and_false]; rfl)
      go_wp2_with fail
      go_ret
      exact ⟨ret_int hRf.out.symm, HB0.out⟩
    by_cases c4 : 1048576 < f.high
    · have hRf := Lib.hid (show R = 7 by rw [HRc.out]; unfold untilR inB; rw [decide_eq_false (show ¬ f.high ≤ 1048576 by omega), Bool.and_false, Bool.and_false]; rfl)
      go_wp2_with fail
      go_ret
      exact ⟨ret_int hRf.out.symm, HB0.out⟩
    have hRf := Lib.hid (show R = 0 by rw [HRc.out]; unfold untilR inB; rw [decide_eq_true (show 0 ≤ f.low by omega), decide_eq_true (show f.low ≤ 255 by omega), decide_eq_true (show 0 ≤ f.high by omega), decide_eq_true (show f.high ≤ 1048576 by omega)]; rfl)
    go_wp2_with fail
    go_ret
    exact ⟨ret_int hRf.out.symm, HB0.out⟩
  · -- kind 6
    have k1 : (f.kind == 1) = false := by rw [hk]; rfl
    have k2 : (f.kind == 2) = false := by rw [hk]; rfl
    have k3 : (f.kind == 3) = false := by rw [hk]; rfl
    have k4 : (f.kind == 4) = false := by rw [hk]; rfl
    have k5 : (f.kind == 5) = false := by rw [hk]; rfl
    have k6 : (f.kind == 6) = true := by rw [hk]; rfl
    have k7 : (f.kind == 7) = false := by rw [hk]; rfl
    have k8 : (f.kind == 8) = false := by rw [hk]; rfl
    have k9 : (f.kind == 9) = false := by rw [hk]; rfl
    have k10 : (f.kind == 10) = false := by rw [hk]; rfl
    have k11 : (f.kind == 11) = false := by rw [hk]; rfl
    have k12 : (f.kind == 12) = false := by rw [hk]; rfl
    have hRc : R = codeI (headersR f) := by
      rw [← HR.out]
      unfold condR
      simp [hk]
    have HRc := Lib.hid hRc
    clear hRc hk
    have y6 := HFB.out.c6
    by_cases c1 : f.high < 2
    · have hRf := Lib.hid (show R = 7 by rw [HRc.out]; unfold headersR inB; rw [decide_eq_false (show ¬ 2 ≤ f.high by omega)]; rfl)
      go_wp2_with fail
      go_ret
      exact ⟨ret_int hRf.out.symm, HB0.out⟩
    by_cases c2 : 1048576 < f.high
    · have hRf := Lib.hid (show R = 7 by rw [HRc.out]; unfold headersR inB; rw [decide_eq_false (show ¬ f.high ≤ 1048576 by omega), Bool.and_false]; rfl)
      go_wp2_with fail
      go_ret
      exact ⟨ret_int hRf.out.symm, HB0.out⟩
    have hRf := Lib.hid (show R = 0 by rw [HRc.out]; unfold headersR inB; rw [decide_eq_true (show 2 ≤ f.high by omega), decide_eq_true (show f.high ≤ 1048576 by omega)]; rfl)
    go_wp2_with fail
    go_ret
    exact ⟨ret_int hRf.out.symm, HB0.out⟩
  · -- kind 7
    have k1 : (f.kind == 1) = false := by rw [hk]; rfl
    have k2 : (f.kind == 2) = false := by rw [hk]; rfl
    have k3 : (f.kind == 3) = false := by rw [hk]; rfl
    have k4 : (f.kind == 4) = false := by rw [hk]; rfl
    have k5 : (f.kind == 5) = false := by rw [hk]; rfl
    have k6 : (f.kind == 6) = false := by rw [hk]; rfl
    have k7 : (f.kind == 7) = true := by rw [hk]; rfl
    have k8 : (f.kind == 8) = false := by rw [hk]; rfl
    have k9 : (f.kind == 9) = false := by rw [hk]; rfl
    have k10 : (f.kind == 10) = false := by rw [hk]; rfl
    have k11 : (f.kind == 11) = false := by rw [hk]; rfl
    have k12 : (f.kind == 12) = false := by rw [hk]; rfl
    have hRc : R = codeI (orR (nestedR (defE (D.take a)) f) (sizeAllR (fs.take i) f)) := by
      rw [← HR.out]
      unfold condR
      simp [hk]
    have HRc := Lib.hid hRc
    clear hRc hk
    have y9 := HFB.out.c9
    obtain ⟨q, hq⟩ : ∃ q, idxOf (fun d : MsgD => d.name == f.of_) (D.take a) = q := ⟨_, rfl⟩
    have hhas : hasN (defE (D.take a)) f.of_ = decide (0 ≤ q) := by rw [(HHAS _).out, hq]
    have FQ : Hid (∀ wx, Below w3.heap.size w3 wx → Calls Tryz.prog 50 #[.agg #[.string (strL nm), .slice (some ⟨g, o, none⟩) D.length c, .string (strL st)], .string (strL f.of_), .int .i64 ((a : Nat) : Int)] wx fun e w' => e = .returned (.int .i64 q) ∧ Below wx.heap.size wx w') := Lib.hid (fun wx hb => by
      have := FND.out f.of_ wx hb
      rwa [hq] at this)
    have HHQ := Lib.hid hhas
    clear hq hhas
    by_cases c1 : q < 0
    · have hRf := Lib.hid (show R = 8 by rw [HRc.out]; unfold nestedR; rw [HHQ.out, decide_eq_false (by omega)]; rfl)
      go_wp2_with (go_at_call 50; refine (FQ.out _ (Below.refl _ _)).mono ?_; rintro e w4 ⟨rfl, hb4⟩)
      go_ret
      exact ⟨ret_int hRf.out.symm, HB0.out.trans (hb4.mono HB0.out.size)⟩
    have hRf := Lib.hid (show R = codeI (sizeAllR (fs.take i) f) by rw [HRc.out]; unfold nestedR; rw [HHQ.out, decide_eq_true (show 0 ≤ q by omega)]; rfl)
    go_upto_region 21 with (go_at_call 50; refine (FQ.out _ (Below.refl _ _)).mono ?_; rintro e w4 ⟨rfl, hb4⟩)
    obtain ⟨_, ⟨n0', n1'⟩, _⟩ := KK.out w4 hb4
    have HB4 := Lib.hid hb4
    clear hb4 n0 n1
    go_wp2_with (go_at_call 123; refine (SZD.out _ HB4.out).mono ?_; rintro e w5 ⟨rfl, hb5⟩)
    go_ret
    exact ⟨ret_int hRf.out.symm, HB0.out.trans ((HB4.out.trans (hb5.mono HB4.out.size)).mono HB0.out.size)⟩
  · -- kind 8
    have k1 : (f.kind == 1) = false := by rw [hk]; rfl
    have k2 : (f.kind == 2) = false := by rw [hk]; rfl
    have k3 : (f.kind == 3) = false := by rw [hk]; rfl
    have k4 : (f.kind == 4) = false := by rw [hk]; rfl
    have k5 : (f.kind == 5) = false := by rw [hk]; rfl
    have k6 : (f.kind == 6) = false := by rw [hk]; rfl
    have k7 : (f.kind == 7) = false := by rw [hk]; rfl
    have k8 : (f.kind == 8) = true := by rw [hk]; rfl
    have k9 : (f.kind == 9) = false := by rw [hk]; rfl
    have k10 : (f.kind == 10) = false := by rw [hk]; rfl
    have k11 : (f.kind == 11) = false := by rw [hk]; rfl
    have k12 : (f.kind == 12) = false := by rw [hk]; rfl
    have hRc : R = codeI (nestedR (defE (D.take a)) f) := by
      rw [← HR.out]
      unfold condR
      simp [hk]
    have HRc := Lib.hid hRc
    clear hRc hk
    have y9 := HFB.out.c9
    obtain ⟨q, hq⟩ : ∃ q, idxOf (fun d : MsgD => d.name == f.of_) (D.take a) = q := ⟨_, rfl⟩
    have hhas : hasN (defE (D.take a)) f.of_ = decide (0 ≤ q) := by rw [(HHAS _).out, hq]
    have FQ : Hid (∀ wx, Below w3.heap.size w3 wx → Calls Tryz.prog 50 #[.agg #[.string (strL nm), .slice (some ⟨g, o, none⟩) D.length c, .string (strL st)], .string (strL f.of_), .int .i64 ((a : Nat) : Int)] wx fun e w' => e = .returned (.int .i64 q) ∧ Below wx.heap.size wx w') := Lib.hid (fun wx hb => by
      have := FND.out f.of_ wx hb
      rwa [hq] at this)
    have HHQ := Lib.hid hhas
    clear hq hhas
    by_cases c1 : q < 0
    · have hRf := Lib.hid (show R = 8 by rw [HRc.out]; unfold nestedR; rw [HHQ.out, decide_eq_false (by omega)]; rfl)
      go_wp2_with (go_at_call 50; refine (FQ.out _ (Below.refl _ _)).mono ?_; rintro e w4 ⟨rfl, hb4⟩)
      go_ret
      exact ⟨ret_int hRf.out.symm, HB0.out.trans (hb4.mono HB0.out.size)⟩
    have hRf := Lib.hid (show R = 0 by rw [HRc.out]; unfold nestedR; rw [HHQ.out, decide_eq_true (show 0 ≤ q by omega)]; rfl)
    go_wp2_with (go_at_call 50; refine (FQ.out _ (Below.refl _ _)).mono ?_; rintro e w4 ⟨rfl, hb4⟩)
    go_ret
    exact ⟨ret_int hRf.out.symm, HB0.out.trans (hb4.mono HB0.out.size)⟩
  · -- kind 9
    have k1 : (f.kind == 1) = false := by rw [hk]; rfl
    have k2 : (f.kind == 2) = false := by rw [hk]; rfl
    have k3 : (f.kind == 3) = false := by rw [hk]; rfl
    have k4 : (f.kind == 4) = false := by rw [hk]; rfl
    have k5 : (f.kind == 5) = false := by rw [hk]; rfl
    have k6 : (f.kind == 6) = false := by rw [hk]; rfl
    have k7 : (f.kind == 7) = false := by rw [hk]; rfl
    have k8 : (f.kind == 8) = false := by rw [hk]; rfl
    have k9 : (f.kind == 9) = true := by rw [hk]; rfl
    have k10 : (f.kind == 10) = false := by rw [hk]; rfl
    have k11 : (f.kind == 11) = false := by rw [hk]; rfl
    have k12 : (f.kind == 12) = false := by rw [hk]; rfl
    have hRc : R = codeI (choiceR (defE (D.take a)) (fs.take i) f) := by
      rw [← HR.out]
      unfold condR
      simp [hk]
    have HRc := Lib.hid hRc
    clear hRc hk
    have y10 := HFB.out.c10
    obtain ⟨q, hq⟩ : ∃ q, idxOf (fun e : FieldD => e.name == f.tag) (fs.take i) = q := ⟨_, rfl⟩
    have FQ : Hid (∀ wx, Below w3.heap.size w3 wx → Calls Tryz.prog 59 #[.agg #[.string (strL mn), .slice (some ⟨fg, fo, none⟩) fs.length fc], .string (strL f.tag), .int .i64 ((i : Nat) : Int)] wx fun e w' => e = .returned (.int .i64 q) ∧ Below wx.heap.size wx w') := Lib.hid (fun wx hb => by
      have := FLD.out f.tag wx hb
      rwa [hq] at this)
    obtain ⟨tk, htk⟩ : ∃ t, (fs.take i).any (fun b => b.kind == 9 && b.tag == f.tag) = t := ⟨_, rfl⟩
    have TQ : Hid (∀ wx, Below w3.heap.size w3 wx → Calls Tryz.prog 124 #[.agg #[.string (strL mn), .slice (some ⟨fg, fo, none⟩) fs.length fc], .string (strL f.tag), .int .i64 ((i : Nat) : Int)] wx fun e w' => e = .returned (.bool tk) ∧ Below wx.heap.size wx w') := Lib.hid (fun wx hb => by
      have := refTagged mn _ fc fs f.tag i (by omega) S wx (HF3.out wx hb).1
      rwa [htk] at this)
    have hri := ran_idx HOn.out f.tag
    rw [hq] at hri
    have HTK := Lib.hid (show (fs.take i).any (takenB f) = tk from htk)
    have hRg : Hid (∀ op, getP (ransP (fs.take i)) f.tag = op → R = codeI (orR (ifR (op.isSome && !tk) 8) (orR (ifR (inB f.cases.length 1 40) 3) (casesR (defE (D.take a)) (op.getD (0, 0)).2 (op.getD (0, 0)).1 f.cases)))) := Lib.hid (fun op h => by
      rw [HRc.out]
      unfold choiceR
      rw [h, HTK.out])
    clear hq htk
    go_upto_region 27 with (go_at_call 59; refine (FQ.out _ (Below.refl _ _)).mono ?_; rintro e w4 ⟨rfl, hb4⟩)
    have HB4 := Lib.hid hb4
    clear hb4 d0 d1 d2 n0 n1 y10
    rcases hri with ⟨rfl, hg⟩ | ⟨j, e, hj, rfl, hg⟩
    · have hRf := Lib.hid (show R = 8 by rw [hRg.out _ hg]; rfl)
      go_wp2_with fail
      go_ret
      exact ⟨ret_int hRf.out.symm, HB0.out.trans (HB4.out.mono HB0.out.size)⟩
    have hji : j < i := by
      have := (List.getElem?_eq_some_iff.1 hj).1
      rw [List.length_take] at this
      omega
    rw [List.getElem?_take, if_pos hji] at hj
    have HJ := Lib.hid hj
    obtain ⟨_, ⟨n0, n1⟩, hfb⟩ := KK.out w4 HB4.out
    obtain ⟨fg', fo', eg, hxe⟩ := (HF3.out w4 HB4.out).1.at_ hj
    cases eg
    have x0 : w4.cell? ⟨fg, fo + j * 15, none⟩ = some (.string (strL e.name)) := hxe 0 _ rfl
    have x1 : w4.cell? ⟨fg, fo + j * 15 + 1, none⟩ = some (.int .i64 e.kind) := hxe 1 _ rfl
    have x2 : w4.cell? ⟨fg, fo + j * 15 + 2, none⟩ = some (.int .i64 e.bits) := hxe 2 _ rfl
    have x3 : w4.cell? ⟨fg, fo + j * 15 + 3, none⟩ = some (.bool e.little) := hxe 3 _ rfl
    have x4 : w4.cell? ⟨fg, fo + j * 15 + 4, none⟩ = some (.bool e.loose) := hxe 4 _ rfl
    have x5 : w4.cell? ⟨fg, fo + j * 15 + 5, none⟩ = some (.int .i64 e.low) := hxe 5 _ rfl
    have x6 : w4.cell? ⟨fg, fo + j * 15 + 6, none⟩ = some (.int .i64 e.high) := hxe 6 _ rfl
    have x7 : w4.cell? ⟨fg, fo + j * 15 + 7, none⟩ = some (.int .i64 e.base) := hxe 7 _ rfl
    have x8 : w4.cell? ⟨fg, fo + j * 15 + 8, none⟩ = some (.slice e.ta e.terms.length e.tc) := hxe 8 _ rfl
    have x9 : w4.cell? ⟨fg, fo + j * 15 + 9, none⟩ = some (.string (strL e.of_)) := hxe 9 _ rfl
    have x10 : w4.cell? ⟨fg, fo + j * 15 + 10, none⟩ = some (.string (strL e.tag)) := hxe 10 _ rfl
    have x11 : w4.cell? ⟨fg, fo + j * 15 + 11, none⟩ = some (.string (strL e.from_)) := hxe 11 _ rfl
    have x12 : w4.cell? ⟨fg, fo + j * 15 + 12, none⟩ = some (.slice e.ca e.cases.length e.cc) := hxe 12 _ rfl
    have x13 : w4.cell? ⟨fg, fo + j * 15 + 13, none⟩ = some (.int .i64 e.check) := hxe 13 _ rfl
    have x14 : w4.cell? ⟨fg, fo + j * 15 + 14, none⟩ = some (.int .i64 e.key) := hxe 14 _ rfl
    have y10 := hfb.c10
    have hj0 : (0 : Int) ≤ ((j : Nat) : Int) := by omega
    have hj1 : ((j : Nat) : Int) < ((fs.length : Nat) : Int) := by omega
    have HNU := fun w => Lib.hid (refNumber_any e w)
    have HRN := fun w => Lib.hid (refRange_any e w)
    unfold FieldD.agg at HNU HRN
    obtain ⟨nb, hnb⟩ : ∃ nb, numB e = nb := ⟨_, rfl⟩
    rw [hnb] at hg
    simp only [hnb] at HNU
    have HG := Lib.hid hg
    clear hxe hj hg hnb hfb
    cases nb with
    | false =>
      have hRf := Lib.hid (show R = 8 by rw [hRg.out _ HG.out]; rfl)
      go_wp2_with (go_at_call 61; refine ((HNU _).out).mono ?_; rintro e w5 ⟨rfl, hb5⟩)
      go_ret
      exact ⟨ret_int hRf.out.symm, HB0.out.trans ((HB4.out.trans (hb5.mono HB4.out.size)).mono HB0.out.size)⟩
    | true =>
    obtain ⟨⟨lo, hi⟩, hlh⟩ : ∃ p, ranP e = p := ⟨_, rfl⟩
    simp only [hlh] at HRN
    have hgp := HG.out
    rw [if_pos rfl, hlh] at hgp
    have HGP := Lib.hid hgp
    clear hlh hgp HG
    have KT : Hid (∀ wx, Below w4.heap.size w4 wx → (wx.cell? ⟨mb, 0, none⟩ = some (.string (strL mn)) ∧ wx.cell? ⟨mb, 1, none⟩ = some (.slice (some ⟨fg, fo, none⟩) fs.length fc)) ∧ wx.cell? ⟨fb, 10, none⟩ = some (.string (strL f.tag))) := Lib.hid (fun wx hb => by
      obtain ⟨_, h2, h3⟩ := KK.out wx (HB4.out.trans (hb.mono HB4.out.size))
      exact ⟨h2, h3.c10⟩)
    cases tk with
    | true =>
      have hRf := Lib.hid (show R = 8 by rw [hRg.out _ HGP.out]; rfl)
      go_wp2_with (first | (go_at_call 61; refine ((HNU _).out).mono ?_; rintro e5 w5 ⟨rfl, hb5⟩; obtain ⟨⟨n0', n1'⟩, y10'⟩ := KT.out w5 hb5; clear n0 n1 y10) | (go_at_call 124; refine (TQ.out _ (HB4.out.trans (hb5.mono HB4.out.size))).mono ?_; rintro e6 w6 ⟨rfl, hb6⟩))
      go_ret
      exact ⟨ret_int hRf.out.symm, HB0.out.trans ((HB4.out.trans ((hb5.trans (hb6.mono hb5.size)).mono HB4.out.size)).mono HB0.out.size)⟩
    | false =>
    have hRf := Lib.hid (show R = codeI (orR (ifR (inB f.cases.length 1 40) 3) (casesR (defE (D.take a)) hi lo f.cases)) by rw [hRg.out _ HGP.out]; rfl)
    go_upto_region 29 with (first | (go_at_call 61; refine ((HNU _).out).mono ?_; rintro e5 w5 ⟨rfl, hb5⟩; obtain ⟨⟨n0', n1'⟩, y10'⟩ := KT.out w5 hb5; clear n0 n1 y10) | (go_at_call 124; refine (TQ.out _ (HB4.out.trans (hb5.mono HB4.out.size))).mono ?_; rintro e6 w6 ⟨rfl, hb6⟩))
    have HB6 := Lib.hid (HB4.out.trans ((hb5.trans (hb6.mono hb5.size)).mono HB4.out.size))
    clear hb5 hb6 n0' n1' y10' x0 x1 x2 x3 x4 x5 x6 x7 x8 x9 x10 x11 x12 x13 x14
    obtain ⟨_, ⟨n0, n1⟩, _⟩ := KK.out w6 HB6.out
    obtain ⟨fg', fo', eg, hxe⟩ := (HF3.out w6 HB6.out).1.at_ HJ.out
    cases eg
    have x0 : w6.cell? ⟨fg, fo + j * 15, none⟩ = some (.string (strL e.name)) := hxe 0 _ rfl
    have x1 : w6.cell? ⟨fg, fo + j * 15 + 1, none⟩ = some (.int .i64 e.kind) := hxe 1 _ rfl
    have x2 : w6.cell? ⟨fg, fo + j * 15 + 2, none⟩ = some (.int .i64 e.bits) := hxe 2 _ rfl
    have x3 : w6.cell? ⟨fg, fo + j * 15 + 3, none⟩ = some (.bool e.little) := hxe 3 _ rfl
    have x4 : w6.cell? ⟨fg, fo + j * 15 + 4, none⟩ = some (.bool e.loose) := hxe 4 _ rfl
    have x5 : w6.cell? ⟨fg, fo + j * 15 + 5, none⟩ = some (.int .i64 e.low) := hxe 5 _ rfl
    have x6 : w6.cell? ⟨fg, fo + j * 15 + 6, none⟩ = some (.int .i64 e.high) := hxe 6 _ rfl
    have x7 : w6.cell? ⟨fg, fo + j * 15 + 7, none⟩ = some (.int .i64 e.base) := hxe 7 _ rfl
    have x8 : w6.cell? ⟨fg, fo + j * 15 + 8, none⟩ = some (.slice e.ta e.terms.length e.tc) := hxe 8 _ rfl
    have x9 : w6.cell? ⟨fg, fo + j * 15 + 9, none⟩ = some (.string (strL e.of_)) := hxe 9 _ rfl
    have x10 : w6.cell? ⟨fg, fo + j * 15 + 10, none⟩ = some (.string (strL e.tag)) := hxe 10 _ rfl
    have x11 : w6.cell? ⟨fg, fo + j * 15 + 11, none⟩ = some (.string (strL e.from_)) := hxe 11 _ rfl
    have x12 : w6.cell? ⟨fg, fo + j * 15 + 12, none⟩ = some (.slice e.ca e.cases.length e.cc) := hxe 12 _ rfl
    have x13 : w6.cell? ⟨fg, fo + j * 15 + 13, none⟩ = some (.int .i64 e.check) := hxe 13 _ rfl
    have x14 : w6.cell? ⟨fg, fo + j * 15 + 14, none⟩ = some (.int .i64 e.key) := hxe 14 _ rfl
    clear hxe
    go_upto_region 30 with (go_at_call 125; refine ((HRN _).out).mono ?_; rintro e7 w7 ⟨rfl, hb7⟩)
    have HB7 := Lib.hid (HB6.out.trans (hb7.mono HB6.out.size))
    clear hb7 n0 n1 x0 x1 x2 x3 x4 x5 x6 x7 x8 x9 x10 x11 x12 x13 x14
    obtain ⟨⟨d0, d1, d2⟩, _, hfb⟩ := KK.out w7 HB7.out
    have z0 := hfb.c0
    have z1 := hfb.c1
    have z2 := hfb.c2
    have z3 := hfb.c3
    have z4 := hfb.c4
    have z5 := hfb.c5
    have z6 := hfb.c6
    have z7 := hfb.c7
    have z8 := hfb.c8
    have z9 := hfb.c9
    have z10 := hfb.c10
    have z11 := hfb.c11
    have z12 := hfb.c12
    have z13 := hfb.c13
    have z14 := hfb.c14
    clear hfb
    have CSD := Lib.hid (refCased nm st _ c D a (by omega) f lo hi S w7 (H3.out w7 HB7.out).1 ((HF3.out w7 HB7.out).2 f (List.mem_of_getElem? HFi.out)).2)
    unfold FieldD.agg at CSD
    go_wp2_with (go_at_call 126; refine (CSD.out).mono ?_; rintro e8 w8 ⟨rfl, hb8⟩)
    go_ret
    exact ⟨ret_int hRf.out.symm, HB0.out.trans ((HB7.out.trans (hb8.mono HB7.out.size)).mono HB0.out.size)⟩
  · -- kind 10
    have k1 : (f.kind == 1) = false := by rw [hk]; rfl
    have k2 : (f.kind == 2) = false := by rw [hk]; rfl
    have k3 : (f.kind == 3) = false := by rw [hk]; rfl
    have k4 : (f.kind == 4) = false := by rw [hk]; rfl
    have k5 : (f.kind == 5) = false := by rw [hk]; rfl
    have k6 : (f.kind == 6) = false := by rw [hk]; rfl
    have k7 : (f.kind == 7) = false := by rw [hk]; rfl
    have k8 : (f.kind == 8) = false := by rw [hk]; rfl
    have k9 : (f.kind == 9) = false := by rw [hk]; rfl
    have k10 : (f.kind == 10) = true := by rw [hk]; rfl
    have k11 : (f.kind == 11) = false := by rw [hk]; rfl
    have k12 : (f.kind == 12) = false := by rw [hk]; rfl
    have hRc : R = codeI (padR f) := by
      rw [← HR.out]
      unfold condR
      simp [hk]
    have HRc := Lib.hid hRc
    clear hRc hk
    have y2 := HFB.out.c2
    have HPD := Lib.hid (show ∀ r, (f.bits == 2 || f.bits == 4 || inB f.bits 8 512 && f.bits % 8 == 0) = r → R = codeI (ifR r 6) from fun r h => by rw [HRc.out, ← h]; rfl)
    by_cases c1 : f.bits = 2
    · have hRf := Lib.hid (show R = 0 by rw [HPD.out true (by rw [c1]; rfl)]; rfl)
      have c2 : (f.bits != 2) = false := by rw [c1]; rfl
      clear c1
      go_wp2_with fail
      go_ret
      exact ⟨ret_int hRf.out.symm, HB0.out⟩
    have e1 : (f.bits != 2) = true := bne_iff_ne.2 c1
    have g1 : (f.bits == 2) = false := beq_eq_false_iff_ne.2 c1
    by_cases c2 : f.bits = 4
    · have hRf := Lib.hid (show R = 0 by rw [HPD.out true (by rw [c2]; rfl)]; rfl)
      have c3 : (f.bits != 4) = false := by rw [c2]; rfl
      clear c1 c2
      go_wp2_with fail
      go_ret
      exact ⟨ret_int hRf.out.symm, HB0.out⟩
    have e2 : (f.bits != 4) = true := bne_iff_ne.2 c2
    have g2 : (f.bits == 4) = false := beq_eq_false_iff_ne.2 c2
    by_cases c3 : f.bits < 8
    · have hRf := Lib.hid (show R = 6 by rw [HPD.out false (by rw [g1, g2]; unfold inB; rw [decide_eq_false (show ¬ 8 ≤ f.bits by omega)]; rfl)]; rfl)
      go_wp2_with fail
      go_ret
      exact ⟨ret_int hRf.out.symm, HB0.out⟩
    by_cases c4 : 512 < f.bits
    · have hRf := Lib.hid (show R = 6 by rw [HPD.out false (by rw [g1, g2]; unfold inB; rw [decide_eq_false (show ¬ f.bits ≤ 512 by omega), Bool.and_false]; rfl)]; rfl)
      go_wp2_with fail
      go_ret
      exact ⟨ret_int hRf.out.symm, HB0.out⟩
    have hin : inB f.bits 8 512 = true := by unfold inB; rw [decide_eq_true (show 8 ≤ f.bits by omega), decide_eq_true (show f.bits ≤ 512 by omega)]; rfl
    obtain ⟨sm, hsm⟩ : ∃ s, (f.bits % 8 == 0) = s := ⟨_, rfl⟩
    have e3 : (f.bits % 8 != 0) = !sm := by rw [← hsm]; rfl
    have hRf := Lib.hid (show R = codeI (ifR sm 6) from HPD.out sm (by rw [g1, g2, hin, hsm]; simp))
    clear hin hsm
    cases sm
    all_goals
      simp only [Bool.not_true, Bool.not_false] at e3
      go_wp2_with fail
      go_ret
      exact ⟨ret_int hRf.out.symm, HB0.out⟩
  · -- kind 11
    have k1 : (f.kind == 1) = false := by rw [hk]; rfl
    have k2 : (f.kind == 2) = false := by rw [hk]; rfl
    have k3 : (f.kind == 3) = false := by rw [hk]; rfl
    have k4 : (f.kind == 4) = false := by rw [hk]; rfl
    have k5 : (f.kind == 5) = false := by rw [hk]; rfl
    have k6 : (f.kind == 6) = false := by rw [hk]; rfl
    have k7 : (f.kind == 7) = false := by rw [hk]; rfl
    have k8 : (f.kind == 8) = false := by rw [hk]; rfl
    have k9 : (f.kind == 9) = false := by rw [hk]; rfl
    have k10 : (f.kind == 10) = false := by rw [hk]; rfl
    have k11 : (f.kind == 11) = true := by rw [hk]; rfl
    have k12 : (f.kind == 12) = false := by rw [hk]; rfl
    have hRc : R = codeI (checkR (fs.take i) f) := by
      rw [← HR.out]
      unfold condR
      simp [hk]
    have HRc := Lib.hid hRc
    clear hRc hk
    have y11 := HFB.out.c11
    have y13 := HFB.out.c13
    by_cases c1 : f.check < 1
    · have hRf := Lib.hid (show R = 7 by rw [HRc.out]; unfold checkR inB; rw [decide_eq_false (show ¬ 1 ≤ f.check by omega)]; rfl)
      go_wp2_with fail
      go_ret
      exact ⟨ret_int hRf.out.symm, HB0.out⟩
    by_cases c2 : 3 < f.check
    · have hRf := Lib.hid (show R = 7 by rw [HRc.out]; unfold checkR inB; rw [decide_eq_false (show ¬ f.check ≤ 3 by omega), Bool.and_false]; rfl)
      go_wp2_with fail
      go_ret
      exact ⟨ret_int hRf.out.symm, HB0.out⟩
    obtain ⟨q, hq⟩ : ∃ q, idxOf (fun e : FieldD => e.name == f.from_) (fs.take i) = q := ⟨_, rfl⟩
    have FQ : Hid (∀ wx, Below w3.heap.size w3 wx → Calls Tryz.prog 59 #[.agg #[.string (strL mn), .slice (some ⟨fg, fo, none⟩) fs.length fc], .string (strL f.from_), .int .i64 ((i : Nat) : Int)] wx fun e w' => e = .returned (.int .i64 q) ∧ Below wx.heap.size wx w') := Lib.hid (fun wx hb => by
      have := FLD.out f.from_ wx hb
      rwa [hq] at this)
    have HCR := Lib.hid (show R = codeI (ifR (decide (0 ≤ q)) 8) by
      rw [HRc.out]
      unfold checkR inB
      rw [decide_eq_true (show 1 ≤ f.check by omega), decide_eq_true (show f.check ≤ 3 by omega), any_cons_idx _ q hq]
      rfl)
    clear hq
    by_cases c3 : q < 0
    · have hRf := Lib.hid (show R = 8 by rw [HCR.out, decide_eq_false (by omega)]; rfl)
      go_wp2_with (go_at_call 59; refine (FQ.out _ (Below.refl _ _)).mono ?_; rintro e w4 ⟨rfl, hb4⟩)
      go_ret
      exact ⟨ret_int hRf.out.symm, HB0.out.trans (hb4.mono HB0.out.size)⟩
    · have hRf := Lib.hid (show R = 0 by rw [HCR.out, decide_eq_true (by omega)]; rfl)
      go_wp2_with (go_at_call 59; refine (FQ.out _ (Below.refl _ _)).mono ?_; rintro e w4 ⟨rfl, hb4⟩)
      go_ret
      exact ⟨ret_int hRf.out.symm, HB0.out.trans (hb4.mono HB0.out.size)⟩
  · -- kind 12
    have k1 : (f.kind == 1) = false := by rw [hk]; rfl
    have k2 : (f.kind == 2) = false := by rw [hk]; rfl
    have k3 : (f.kind == 3) = false := by rw [hk]; rfl
    have k4 : (f.kind == 4) = false := by rw [hk]; rfl
    have k5 : (f.kind == 5) = false := by rw [hk]; rfl
    have k6 : (f.kind == 6) = false := by rw [hk]; rfl
    have k7 : (f.kind == 7) = false := by rw [hk]; rfl
    have k8 : (f.kind == 8) = false := by rw [hk]; rfl
    have k9 : (f.kind == 9) = false := by rw [hk]; rfl
    have k10 : (f.kind == 10) = false := by rw [hk]; rfl
    have k11 : (f.kind == 11) = false := by rw [hk]; rfl
    have k12 : (f.kind == 12) = true := by rw [hk]; rfl
    have hRc : R = codeI (viewR (defE (D.take a)) f (sizeAllR (fs.take i) f)) := by
      rw [← HR.out]
      unfold condR
      simp [hk]
    have HRc := Lib.hid hRc
    clear hRc hk
    have y9 := HFB.out.c9
    have y14 := HFB.out.c14
    by_cases c1 : f.key < 0
    · have hRf := Lib.hid (show R = 7 by rw [HRc.out]; unfold viewR inB; rw [decide_eq_false (show ¬ 0 ≤ f.key by omega)]; rfl)
      go_wp2_with fail
      go_ret
      exact ⟨ret_int hRf.out.symm, HB0.out⟩
    by_cases c2 : 4294967295 < f.key
    · have hRf := Lib.hid (show R = 7 by rw [HRc.out]; unfold viewR inB; rw [decide_eq_false (show ¬ f.key ≤ 4294967295 by omega), Bool.and_false]; rfl)
      go_wp2_with fail
      go_ret
      exact ⟨ret_int hRf.out.symm, HB0.out⟩
    obtain ⟨q, hq⟩ : ∃ q, idxOf (fun d : MsgD => d.name == f.of_) (D.take a) = q := ⟨_, rfl⟩
    have FQ : Hid (∀ wx, Below w3.heap.size w3 wx → Calls Tryz.prog 50 #[.agg #[.string (strL nm), .slice (some ⟨g, o, none⟩) D.length c, .string (strL st)], .string (strL f.of_), .int .i64 ((a : Nat) : Int)] wx fun e w' => e = .returned (.int .i64 q) ∧ Below wx.heap.size wx w') := Lib.hid (fun wx hb => by
      have := FND.out f.of_ wx hb
      rwa [hq] at this)
    have HVR := Lib.hid (show ∀ v, ((getN (defE (D.take a)) f.of_).getD (0, false)).2 = v → R = codeI (orR (ifR v 8) (sizeAllR (fs.take i) f)) from fun v h => by
      rw [HRc.out]
      unfold viewR inB
      rw [decide_eq_true (show 0 ≤ f.key by omega), decide_eq_true (show f.key ≤ 4294967295 by omega), h]
      rfl)
    have hni := nat_idx HPs.out f.of_
    rw [hq] at hni
    clear hq
    go_upto_region 43 with (go_at_call 50; refine (FQ.out _ (Below.refl _ _)).mono ?_; rintro e w4 ⟨rfl, hb4⟩)
    have HB4 := Lib.hid hb4
    clear hb4 d0 d1 d2 n0 n1 y9 y14
    rcases hni with ⟨rfl, hg⟩ | ⟨j, mj, hj, hja, hnm, rfl, hg⟩
    · have hRf := Lib.hid (show R = 8 by rw [HVR.out false (by rw [hg]; rfl)]; rfl)
      go_wp2_with fail
      go_ret
      exact ⟨ret_int hRf.out.symm, HB0.out.trans (HB4.out.mono HB0.out.size)⟩
    obtain ⟨v, hv⟩ : ∃ v, (natS (defE (D.take j)) mj.fields).2 = v := ⟨_, rfl⟩
    have hsv : sV (defE (D.take a)) mj = v := by
      unfold sV
      rw [hnm, hg]
      exact hv
    have HRV := Lib.hid (HVR.out v (by rw [hg]; exact hv))
    obtain ⟨⟨d0, d1, d2⟩, _, _⟩ := KK.out w4 HB4.out
    have STC := Lib.hid (refStricts nm st _ c D a (by omega) ha60 S w4 (H3.out w4 HB4.out) HPs.out)
    have hjm : ((D.take a).map (sV (defE (D.take a))))[j]? = some v := by rw [List.getElem?_map, List.getElem?_take, if_pos hja, hj]; simp [hsv]
    have HJM := Lib.hid hjm
    have KR : Hid (∀ (A' : Option Addr) (c' : Nat) (w5 : World), w5.ownsRow w4.heap.size 4 1 (.slice A' a c') a (((D.take a).map (sV (defE (D.take a)))).flatMap boolCell) → ∃ bg bo, A' = some ⟨bg, bo, none⟩ ∧ w5.cell? ⟨bg, bo + j, none⟩ = some (.bool v)) := Lib.hid (fun A' c' w5 h => by
      obtain ⟨bg, bo, e, hxb⟩ := (slAt_bool (by simp; omega) h).at_ HJM.out
      exact ⟨bg, bo, e, by have := hxb 0 _ rfl; simpa using this⟩)
    have hj0 : (0 : Int) ≤ ((j : Nat) : Int) := by omega
    have hj1 : ((j : Nat) : Int) < ((a : Nat) : Int) := by omega
    clear hj hja hnm hg hv hsv hjm
    cases v with
    | false =>
      have hRf := Lib.hid (show R = 8 by rw [HRV.out]; rfl)
      go_wp2_with (go_at_call 127; refine (STC.out).mono ?_; rintro e w5 ⟨A', c', rfl, hrow, hb5⟩; obtain ⟨bg, bo, rfl, hcell⟩ := KR.out A' c' w5 hrow; clear hrow)
      go_ret
      exact ⟨ret_int hRf.out.symm, HB0.out.trans ((HB4.out.trans (hb5.mono HB4.out.size)).mono HB0.out.size)⟩
    | true =>
      have hRf := Lib.hid (show R = codeI (sizeAllR (fs.take i) f) by rw [HRV.out]; rfl)
      go_upto_region 45 with (go_at_call 127; refine (STC.out).mono ?_; rintro e w5 ⟨A', c', rfl, hrow, hb5⟩; obtain ⟨bg, bo, rfl, hcell⟩ := KR.out A' c' w5 hrow; clear hrow)
      have HB5 := Lib.hid (HB4.out.trans (hb5.mono HB4.out.size))
      obtain ⟨_, ⟨n0, n1⟩, _⟩ := KK.out w5 HB5.out
      clear hb5 d0 d1 d2 hcell
      go_wp2_with (go_at_call 123; refine (SZD.out _ HB5.out).mono ?_; rintro e w6 ⟨rfl, hb6⟩)
      go_ret
      exact ⟨ret_int hRf.out.symm, HB0.out.trans ((HB5.out.trans (hb6.mono HB5.out.size)).mono HB0.out.size)⟩
end Go.Proofs.YtbpkppmbbpoohaaGreat
