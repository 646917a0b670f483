/- The flaw of a field, as the document says. Conditions: the definition lies in memory; the messages ahead and the fields ahead have passed. -/
import Derived.Test.YtbpkppmbbpoohaaWl
import Derived.Test.YtbpkppmbbpoohaaWd
import Derived.Test.YtbpkppmbbpoohaaWda
import Derived.Test.YtbpkppmbbpoohaaWdb
import Derived.Test.YtbpkppmbbpoohaaWdc
namespace Go.Proofs.Ytbpkppmbbpoohaa
open Go.RowKit Go.Shelf

theorem refZero (d : FieldD) (h : 1 ≤ d.kind) (h2 : d.kind ≤ 12) (w : World) : Calls Try.prog 76 #[d.agg] w fun e w' => e = .returned (.bool (!spareB d)) ∧ Below w.heap.size w w' := by
  have hc : d.kind = 1 ∨ d.kind = 2 ∨ d.kind = 3 ∨ d.kind = 4 ∨ d.kind = 5 ∨ d.kind = 6 ∨ d.kind = 7 ∨ d.kind = 8 ∨ d.kind = 9 ∨ d.kind = 10 ∨ d.kind = 11 ∨ d.kind = 12 := by omega
  rcases hc with hk | hk | hk | hk | hk | hk | hk | hk | hk | hk | hk | hk
  · exact zero_1 d hk w
  · exact zero_2 d hk w
  · exact zero_3 d hk w
  · exact zero_4 d hk w
  · exact zero_5 d hk w
  · exact zero_6 d hk w
  · exact zero_7 d hk w
  · exact zero_8 d hk w
  · exact zero_9 d hk w
  · exact zero_10 d hk w
  · exact zero_11 d hk w
  · exact zero_12 d hk w

set_option maxRecDepth 100000 in
set_option maxHeartbeats 12800000 in
theorem refField1 (nm st : List UInt8) (A : Option Addr) (c : Nat) (D : List MsgD) (S : Nat → Prop) (w : World) (h : MsgsAt S w A c D) (a : Nat) (m : MsgD) (hm : D[a]? = some m) (ha60 : a ≤ 1000) (hp : msgsR mrA [] 0 (D.take a) = none)
    (i : Nat) (f : FieldD) (hf : m.fields[i]? = some f) (hfs : fieldsR (frA (defE (D.take a)) m.fields) 0 (m.fields.take i) = none) :
    Calls Try.prog 68 #[.agg #[.string (strL nm), .slice A D.length c, .string (strL st)], .int .i64 ((a : Nat) : Int), .int .i64 ((i : Nat) : Int)] w fun e w' => e = .returned (.int .i64 (codeI (frA (defE (D.take a)) m.fields i f))) ∧ Below w.heap.size w w' := by
  obtain ⟨mn, fa, fc, fs⟩ := m
  have ho : Once (fs.take i) := once_of hfs
  have hal : AllowB (fs.take i) := allow_of hfs
  replace hf : fs[i]? = some f := hf
  show Calls _ _ _ _ fun e w' => e = .returned (.int .i64 (codeI (fieldAllR (defE (D.take a)) (fs.take i) f))) ∧ Below w.heap.size w w'
  have hl : D.length ≤ 9223372036854775807 := Nat.le_trans h.1.1 h.1.2.1
  have hmL : a < D.length := (List.getElem?_eq_some_iff.1 hm).1
  have hfL : i < fs.length := (List.getElem?_eq_some_iff.1 hf).1
  have hfl : fs.length ≤ 9223372036854775807 := by
    have := (h.2 _ (List.mem_of_getElem? hm)).1
    exact Nat.le_trans this.1 this.2.1
  have b1 := below_alloc w (.cells #[.string (strL nm), .slice A D.length c, .string (strL st)] 44)
  have x1 : (w.alloc (.cells #[.string (strL nm), .slice A D.length c, .string (strL st)] 44)).heap[w.heap.size]? = some (.cells #[.string (strL nm), .slice A D.length c, .string (strL st)] 44 (0, 0)) := heap_alloc_new w _
  obtain ⟨b, eb⟩ : ∃ b, w.heap.size = b := ⟨_, rfl⟩
  obtain ⟨w1, hw1⟩ : ∃ w1, w.alloc (.cells #[.string (strL nm), .slice A D.length c, .string (strL st)] 44) = w1 := ⟨_, rfl⟩
  rw [hw1] at b1 x1
  rw [eb] at x1
  have b3 := below_alloc w1 (.cells #[.string (strL f.name), .int .i64 f.kind, .int .i64 f.bits, .bool f.little, .bool f.loose, .int .i64 f.low, .int .i64 f.high, .int .i64 f.base, .slice f.ta f.terms.length f.tc, .string (strL f.of_), .string (strL f.tag), .string (strL f.from_), .slice f.ca f.cases.length f.cc, .int .i64 f.check, .int .i64 f.key] 28)
  have x3 := FBox.new w1 f
  obtain ⟨fb, efb⟩ : ∃ fb, w1.heap.size = fb := ⟨_, rfl⟩
  obtain ⟨w3, hw3⟩ : ∃ w3, w1.alloc (.cells #[.string (strL f.name), .int .i64 f.kind, .int .i64 f.bits, .bool f.little, .bool f.loose, .int .i64 f.low, .int .i64 f.high, .int .i64 f.base, .slice f.ta f.terms.length f.tc, .string (strL f.of_), .string (strL f.tag), .string (strL f.from_), .slice f.ca f.cases.length f.cc, .int .i64 f.check, .int .i64 f.key] 28) = w3 := ⟨_, rfl⟩
  rw [hw3] at b3 x3
  rw [efb] at x3
  have h1 := h.below b1
  have b03 : Below w.heap.size w w3 := b1.trans (b3.mono b1.size)
  have h3 := h.below b03
  obtain ⟨g, o, rfl, hx⟩ := h1.1.at_ hm
  obtain ⟨fg, fo, eF, hy⟩ := (h1.2 _ (List.mem_of_getElem? hm)).1.at_ hf
  replace eF : fa = some ⟨fg, fo, none⟩ := eF
  subst eF
  have xd1 := (b3.block b (Array.getElem?_eq_some_iff.1 x1).1).trans x1
  have KK : Hid (∀ wx, Below w3.heap.size w3 wx → (wx.cell? ⟨b, 0, none⟩ = some (.string (strL nm)) ∧ wx.cell? ⟨b, 1, none⟩ = some (.slice (some ⟨g, o, none⟩) D.length c) ∧ wx.cell? ⟨b, 2, none⟩ = some (.string (strL st))) ∧ (wx.cell? ⟨g, o + a * 2, none⟩ = some (.string (strL mn)) ∧ wx.cell? ⟨g, o + a * 2 + 1, none⟩ = some (.slice (some ⟨fg, fo, none⟩) fs.length fc)) ∧ FBox wx fb f) := Lib.hid (fun wx hb => by
    have e1 := (hb.block b (Array.getElem?_eq_some_iff.1 xd1).1).trans xd1
    have hmx := h3.rest (Rest.below (S := fun _ => False) hb) (fun _ _ e => e.elim)
    obtain ⟨g', o', eg, hx'⟩ := hmx.1.at_ hm
    cases eg
    exact ⟨⟨by simp [World.cell?, e1], by simp [World.cell?, e1], by simp [World.cell?, e1]⟩, ⟨hx' 0 _ rfl, hx' 1 _ rfl⟩, x3.below hb x3.lt⟩)
  have H3 : Hid (∀ wx, Below w3.heap.size w3 wx → MsgsAt S wx (some ⟨g, o, none⟩) c D) := Lib.hid (fun wx hb => h3.rest (Rest.below (S := fun _ => False) hb) (fun _ _ e => e.elim))
  have HM := Lib.hid hm
  obtain ⟨q, hq⟩ : ∃ q, idxOf (fun d : FieldD => d.name == f.name) (fs.take i) = q := ⟨_, rfl⟩
  have FQ : Hid (∀ wx, Below w3.heap.size w3 wx → Calls Try.prog 22 #[.agg #[.string (strL mn), .slice (some ⟨fg, fo, none⟩) fs.length fc], .string (strL f.name), .int .i64 ((i : Nat) : Int)] wx fun e w' => e = .returned (.int .i64 q) ∧ Below wx.heap.size wx w') := Lib.hid (fun wx hb => by
    have := refField_any mn (some ⟨fg, fo, none⟩) fc fs f.name i (by omega) S wx ((H3.out wx hb).2 _ (List.mem_of_getElem? hm)).1
    rwa [hq] at this)
  have KND : Hid (1 ≤ f.kind → f.kind ≤ 12 → ∀ wx, Below w3.heap.size w3 wx → Calls Try.prog 77 #[.agg #[.string (strL nm), .slice (some ⟨g, o, none⟩) D.length c, .string (strL st)], .int .i64 ((a : Nat) : Int), .int .i64 ((i : Nat) : Int)] wx fun e w' => e = .returned (.int .i64 (codeI (condR (defE (D.take a)) (fs.take i) f))) ∧ Below wx.heap.size wx w') := Lib.hid (fun hk1 hk2 wx hb => refKinds nm st _ c D S wx (H3.out wx hb) a _ hm ha60 hp i f hf ho hal hk1 hk2)
  have HN := fun w => Lib.hid (refName f.name w)
  obtain ⟨nb, hnb⟩ : ∃ n, nameB f.name = n := ⟨_, rfl⟩
  simp only [hnb] at HN
  obtain ⟨R, hR⟩ : ∃ R, codeI (fieldAllR (defE (D.take a)) (fs.take i) f) = R := ⟨_, rfl⟩
  rw [hR]
  have hR2 : R = codeI (orR (ifR nb 1) (orR (ifR (!decide (0 ≤ q)) 2) (orR (ifR (inB f.kind 1 12) 4) (orR (ifR (!spareB f) 5) (condR (defE (D.take a)) (fs.take i) f))))) := by
    rw [← hR]
    unfold fieldAllR
    rw [hnb, any_cons_idx _ q hq]
  have HR := Lib.hid hR2
  have HW := Lib.hid hw1
  have EB := Lib.hid eb
  have W3 := Lib.hid hw3
  have EFB := Lib.hid efb
  have HB0 := Lib.hid b03
  have d1 : w1.cell? ⟨b, 1, none⟩ = some (.slice (some ⟨g, o, none⟩) D.length c) := by simp [World.cell?, x1]
  have m1 : w1.cell? ⟨g, o + a * 2 + 1, none⟩ = some (.slice (some ⟨fg, fo, none⟩) fs.length fc) := hx 1 _ rfl
  have u0 : w1.cell? ⟨fg, fo + i * 15, none⟩ = some (.string (strL f.name)) := hy 0 _ rfl
  have u1 : w1.cell? ⟨fg, fo + i * 15 + 1, none⟩ = some (.int .i64 f.kind) := hy 1 _ rfl
  have u2 : w1.cell? ⟨fg, fo + i * 15 + 2, none⟩ = some (.int .i64 f.bits) := hy 2 _ rfl
  have u3 : w1.cell? ⟨fg, fo + i * 15 + 3, none⟩ = some (.bool f.little) := hy 3 _ rfl
  have u4 : w1.cell? ⟨fg, fo + i * 15 + 4, none⟩ = some (.bool f.loose) := hy 4 _ rfl
  have u5 : w1.cell? ⟨fg, fo + i * 15 + 5, none⟩ = some (.int .i64 f.low) := hy 5 _ rfl
  have u6 : w1.cell? ⟨fg, fo + i * 15 + 6, none⟩ = some (.int .i64 f.high) := hy 6 _ rfl
  have u7 : w1.cell? ⟨fg, fo + i * 15 + 7, none⟩ = some (.int .i64 f.base) := hy 7 _ rfl
  have u8 : w1.cell? ⟨fg, fo + i * 15 + 8, none⟩ = some (.slice f.ta f.terms.length f.tc) := hy 8 _ rfl
  have u9 : w1.cell? ⟨fg, fo + i * 15 + 9, none⟩ = some (.string (strL f.of_)) := hy 9 _ rfl
  have u10 : w1.cell? ⟨fg, fo + i * 15 + 10, none⟩ = some (.string (strL f.tag)) := hy 10 _ rfl
  have u11 : w1.cell? ⟨fg, fo + i * 15 + 11, none⟩ = some (.string (strL f.from_)) := hy 11 _ rfl
  have u12 : w1.cell? ⟨fg, fo + i * 15 + 12, none⟩ = some (.slice f.ca f.cases.length f.cc) := hy 12 _ rfl
  have u13 : w1.cell? ⟨fg, fo + i * 15 + 13, none⟩ = some (.int .i64 f.check) := hy 13 _ rfl
  have u14 : w1.cell? ⟨fg, fo + i * 15 + 14, none⟩ = some (.int .i64 f.key) := hy 14 _ rfl
  have ha0 : (0 : Int) ≤ ((a : Nat) : Int) := by omega
  have ha1 : ((a : Nat) : Int) < ((D.length : Nat) : Int) := by omega
  have hi0 : (0 : Int) ≤ ((i : Nat) : Int) := by omega
  have hi1 : ((i : Nat) : Int) < ((fs.length : Nat) : Int) := by omega
  clear h hm hp hf hfs ho hal b1 x1 eb hw1 b3 x3 efb hw3 h1 b03 h3 hx hy xd1 hR hR2 hq hnb
  go_enter Try.func68, Try.ntmps68
  go_upto_region 1 with fail
  rw [HW.out, EB.out]
  go_upto_region 2 with fail
  rw [W3.out, EFB.out]
  clear d1 m1 u0 u1 u2 u3 u4 u5 u6 u7 u8 u9 u10 u11 u12 u13 u14
  obtain ⟨⟨d0, d1, d2⟩, ⟨m0, m1⟩, hfb⟩ := KK.out w3 (Below.refl _ _)
  have y0 := hfb.c0
  clear hfb
  cases nb with
  | false =>
    have hRf := Lib.hid (show R = 1 by rw [HR.out]; rfl)
    go_wp2_with (go_at_call 36; refine ((HN _).out).mono ?_; rintro e w' ⟨rfl, rfl⟩)
    go_ret
    exact ⟨ret_int hRf.out.symm, HB0.out⟩
  | true =>
  go_upto_region 4 with (go_at_call 36; refine ((HN _).out).mono ?_; rintro e w' ⟨rfl, hw'⟩; have hw'' := hw'.symm; clear hw'; subst hw'')
  have kd0 := cell_regrown d0
  have kd1 := cell_regrown d1
  have kd2 := cell_regrown d2
  have km0 := cell_regrown m0
  have km1 := cell_regrown m1
  have ky0 := cell_regrown y0
  clear d0 d1 d2 m0 m1 y0
  refine wp_region_quiet_below (by kernel_rfl) (by kernel_rfl) ?_
  repeat (go_big_quiet_step ((first | (go_at_call 22; exact Calls.regrown_of (FQ.out _ (below_regrown _ _ _))))))
  refine wpQuiet_nil ?_
  rintro _ ⟨p, rfl⟩
  have hb4 := below_regrown w3 p.d p.os
  obtain ⟨w4, hw4⟩ : ∃ w4, Go.Sort.grow (redrawn w3 p.d) p.os = w4 := ⟨_, rfl⟩
  rw [hw4] at hb4 ⊢
  have HB4 := Lib.hid hb4
  obtain ⟨⟨d0, d1, d2⟩, _, hfb⟩ := KK.out w4 hb4
  have HFB := Lib.hid hfb
  have y1 := hfb.c1
  clear kd0 kd1 kd2 km0 km1 ky0 hw4 hb4 hfb
  by_cases hq0 : 0 ≤ q
  · have hRf := Lib.hid (show R = 2 by rw [HR.out, decide_eq_true hq0]; rfl)
    go_wp2_with fail
    go_ret
    exact ⟨ret_int hRf.out.symm, HB0.out.trans (HB4.out.mono HB0.out.size)⟩
  have HRq := Lib.hid (show R = codeI (orR (ifR (inB f.kind 1 12) 4) (orR (ifR (!spareB f) 5) (condR (defE (D.take a)) (fs.take i) f))) by rw [HR.out, decide_eq_false hq0]; rfl)
  by_cases hk1 : f.kind < 1
  · have hRf := Lib.hid (show R = 4 by rw [HRq.out]; unfold inB; rw [decide_eq_false (show ¬ 1 ≤ f.kind by omega)]; rfl)
    go_wp2_with fail
    go_ret
    exact ⟨ret_int hRf.out.symm, HB0.out.trans (HB4.out.mono HB0.out.size)⟩
  by_cases hk2 : 12 < f.kind
  · have hRf := Lib.hid (show R = 4 by rw [HRq.out]; unfold inB; rw [decide_eq_false (show ¬ f.kind ≤ 12 by omega), Bool.and_false]; rfl)
    go_wp2_with fail
    go_ret
    exact ⟨ret_int hRf.out.symm, HB0.out.trans (HB4.out.mono HB0.out.size)⟩
  have HZ := fun w => Lib.hid (refZero f (by omega) (by omega) w)
  have HK := Lib.hid (KND.out (by omega) (by omega))
  have HRk := Lib.hid (show R = codeI (orR (ifR (!spareB f) 5) (condR (defE (D.take a)) (fs.take i) f)) by rw [HRq.out]; unfold inB; rw [decide_eq_true (show 1 ≤ f.kind by omega), decide_eq_true (show f.kind ≤ 12 by omega)]; rfl)
  obtain ⟨sp, hsp⟩ : ∃ s, (!spareB f) = s := ⟨_, rfl⟩
  simp only [hsp] at HZ
  unfold FieldD.agg at HZ
  rw [hsp] at HRk
  clear hsp KND
  have y0 := HFB.out.c0
  have y2 := HFB.out.c2
  have y3 := HFB.out.c3
  have y4 := HFB.out.c4
  have y5 := HFB.out.c5
  have y6 := HFB.out.c6
  have y7 := HFB.out.c7
  have y8 := HFB.out.c8
  have y9 := HFB.out.c9
  have y10 := HFB.out.c10
  have y11 := HFB.out.c11
  have y12 := HFB.out.c12
  have y13 := HFB.out.c13
  have y14 := HFB.out.c14
  cases sp with
  | false =>
    have hRf := Lib.hid (show R = 5 by rw [HRk.out]; rfl)
    go_wp2_with (go_at_call 76; refine ((HZ _).out).mono ?_; rintro e w5 ⟨rfl, hb5⟩)
    go_ret
    exact ⟨ret_int hRf.out.symm, HB0.out.trans ((HB4.out.trans (hb5.mono HB4.out.size)).mono HB0.out.size)⟩
  | true =>
    have hRf := Lib.hid (show R = codeI (condR (defE (D.take a)) (fs.take i) f) by rw [HRk.out]; rfl)
    go_upto_region 10 with (go_at_call 76; refine ((HZ _).out).mono ?_; rintro e w5 ⟨rfl, hb5⟩)
    have HB5 := Lib.hid (HB4.out.trans (hb5.mono HB4.out.size))
    clear hb5 d0 d1 d2 y0 y1 y2 y3 y4 y5 y6 y7 y8 y9 y10 y11 y12 y13 y14
    obtain ⟨⟨d0, d1, d2⟩, _, _⟩ := KK.out w5 HB5.out
    go_wp2_with (go_at_call 77; refine (HK.out _ HB5.out).mono ?_; rintro e w6 ⟨rfl, hb6⟩)
    go_ret
    exact ⟨ret_int hRf.out.symm, HB0.out.trans ((HB5.out.trans (hb6.mono HB5.out.size)).mono HB0.out.size)⟩
end Go.Proofs.Ytbpkppmbbpoohaa
