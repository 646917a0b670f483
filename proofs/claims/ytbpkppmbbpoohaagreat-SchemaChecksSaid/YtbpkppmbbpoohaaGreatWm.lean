/- The flaw of a field, as the document says. Conditions: the definition lies in memory; the messages ahead and the fields ahead have passed. The first flaw, message by message and field by field. Plain facts. A region in whatever order, of reads and calls that change nothing of what was there, whose last operation writes. No conditions beyond those named. -/
import Derived.Test.YtbpkppmbbpoohaaGreatWl
import Derived.Test.YtbpkppmbbpoohaaGreatWd
import Derived.Test.YtbpkppmbbpoohaaGreatWda
import Derived.Test.YtbpkppmbbpoohaaGreatWdb
import Derived.Test.YtbpkppmbbpoohaaGreatWdc
import Derived.Test.YtbpkppmbbpoohaaGreatRz
namespace Go.Proofs.YtbpkppmbbpoohaaGreat
open Go.RowKit Go.Shelf

theorem refZero (d : FieldD) (h : 1 ≤ d.kind) (h2 : d.kind ≤ 12) (w : World) : Calls Tryz.prog 83 #[d.agg] w fun e w' => e = .returned (.bool (!spareB d)) ∧ Below w.heap.size w w' := by
  have hc : d.kind = 1 ∨ d.kind = 2 ∨ d.kind = 3 ∨ d.kind = 4 ∨ d.kind = 5 ∨ d.kind = 6 ∨ d.kind = 7 ∨ d.kind = 8 ∨ d.kind = 9 ∨ d.kind = 10 ∨ d.kind = 11 ∨ d.kind = 12 := by omega
  rcases hc with hk | hk | hk | hk | hk | hk | hk | hk | hk | hk | hk | hk
  · exact zero_1 d hk w
  · exact zero_2 d hk w
  · exact zero_3 d hk w
  · exact zero_4 d hk w
  · exact zero_5 d hk w
  · exact zero_6 d hk w
  · exact zero_7 d hk w
  · exact zero_8 d hk w
  · exact zero_9 d hk w
  · exact zero_10 d hk w
  · exact zero_11 d hk w
  · exact zero_12 d hk w

set_option maxRecDepth 100000 in
set_option maxHeartbeats 12800000 in
theorem refField1 (nm st : List UInt8) (A : Option Addr) (c : Nat) (D : List MsgD) (S : Nat → Prop) (w : World) (h : MsgsAt S w A c D) (a : Nat) (m : MsgD) (hm : D[a]? = some m) (ha60 : a ≤ 1000) (hp : msgsR mrA [] 0 (D.take a) = none)
    (i : Nat) (f : FieldD) (hf : m.fields[i]? = some f) (hfs : fieldsR (frA (defE (D.take a)) m.fields) 0 (m.fields.take i) = none) :
    Calls Tryz.prog 51 #[.agg #[.string (strL nm), .slice A D.length c, .string (strL st)], .int .i64 ((a : Nat) : Int), .int .i64 ((i : Nat) : Int)] w fun e w' => e = .returned (.int .i64 (codeI (frA (defE (D.take a)) m.fields i f))) ∧ Below w.heap.size w w' := by
  obtain ⟨mn, fa, fc, fs⟩ := m
  have ho : Once (fs.take i) := once_of hfs
  have hal : AllowB (fs.take i) := allow_of hfs
  replace hf : fs[i]? = some f := hf
  show Calls _ _ _ _ fun e w' => e = .returned (.int .i64 (codeI (fieldAllR (defE (D.take a)) (fs.take i) f))) ∧ Below w.heap.size w w'
  have hl : D.length ≤ 9223372036854775807 := Nat.le_trans h.1.1 h.1.2.1
  have hmL : a < D.length := (List.getElem?_eq_some_iff.1 hm).1
  have hfL : i < fs.length := (List.getElem?_eq_some_iff.1 hf).1
  have hfl : fs.length ≤ 9223372036854775807 := by
    have := (h.2 _ (List.mem_of_getElem? hm)).1
    exact Nat.le_trans this.1 this.2.1
  have b1 := below_alloc w (.cells #[.string (strL nm), .slice A D.length c, .string (strL st)] 24)
  have x1 : (w.alloc (.cells #[.string (strL nm), .slice A D.length c, .string (strL st)] 24)).heap[w.heap.size]? = some (.cells #[.string (strL nm), .slice A D.length c, .string (strL st)] 24 (0, 0)) := heap_alloc_new w _
  obtain ⟨b, eb⟩ : ∃ b, w.heap.size = b := ⟨_, rfl⟩
  obtain ⟨w1, hw1⟩ : ∃ w1, w.alloc (.cells #[.string (strL nm), .slice A D.length c, .string (strL st)] 24) = w1 := ⟨_, rfl⟩
  rw [hw1] at b1 x1
  rw [eb] at x1
  have b3 := below_alloc w1 (.cells #[.string (strL f.name), .int .i64 f.kind, .int .i64 f.bits, .bool f.little, .bool f.loose, .int .i64 f.low, .int .i64 f.high, .int .i64 f.base, .slice f.ta f.terms.length f.tc, .string (strL f.of_), .string (strL f.tag), .string (strL f.from_), .slice f.ca f.cases.length f.cc, .int .i64 f.check, .int .i64 f.key] 55)
  have x3 := FBox.new w1 f
  obtain ⟨fb, efb⟩ : ∃ fb, w1.heap.size = fb := ⟨_, rfl⟩
  obtain ⟨w3, hw3⟩ : ∃ w3, w1.alloc (.cells #[.string (strL f.name), .int .i64 f.kind, .int .i64 f.bits, .bool f.little, .bool f.loose, .int .i64 f.low, .int .i64 f.high, .int .i64 f.base, .slice f.ta f.terms.length f.tc, .string (strL f.of_), .string (strL f.tag), .string (strL f.from_), .slice f.ca f.cases.length f.cc, .int .i64 f.check, .int .i64 f.key] 55) = w3 := ⟨_, rfl⟩
  rw [hw3] at b3 x3
  rw [efb] at x3
  have h1 := h.below b1
  have b03 : Below w.heap.size w w3 := b1.trans (b3.mono b1.size)
  have h3 := h.below b03
  obtain ⟨g, o, rfl, hx⟩ := h1.1.at_ hm
  obtain ⟨fg, fo, eF, hy⟩ := (h1.2 _ (List.mem_of_getElem? hm)).1.at_ hf
  replace eF : fa = some ⟨fg, fo, none⟩ := eF
  subst eF
  have xd1 := (b3.block b (Array.getElem?_eq_some_iff.1 x1).1).trans x1
  have KK : Hid (∀ wx, Below w3.heap.size w3 wx → (wx.cell? ⟨b, 0, none⟩ = some (.string (strL nm)) ∧ wx.cell? ⟨b, 1, none⟩ = some (.slice (some ⟨g, o, none⟩) D.length c) ∧ wx.cell? ⟨b, 2, none⟩ = some (.string (strL st))) ∧ (wx.cell? ⟨g, o + a * 2, none⟩ = some (.string (strL mn)) ∧ wx.cell? ⟨g, o + a * 2 + 1, none⟩ = some (.slice (some ⟨fg, fo, none⟩) fs.length fc)) ∧ FBox wx fb f) := Lib.hid (fun wx hb => by
    have e1 := (hb.block b (Array.getElem?_eq_some_iff.1 xd1).1).trans xd1
    have hmx := h3.rest (Rest.below (S := fun _ => False) hb) (fun _ _ e => e.elim)
    obtain ⟨g', o', eg, hx'⟩ := hmx.1.at_ hm
    cases eg
    exact ⟨⟨by simp [World.cell?, e1], by simp [World.cell?, e1], by simp [World.cell?, e1]⟩, ⟨hx' 0 _ rfl, hx' 1 _ rfl⟩, x3.below hb x3.lt⟩)
  have H3 : Hid (∀ wx, Below w3.heap.size w3 wx → MsgsAt S wx (some ⟨g, o, none⟩) c D) := Lib.hid (fun wx hb => h3.rest (Rest.below (S := fun _ => False) hb) (fun _ _ e => e.elim))
  have HM := Lib.hid hm
  obtain ⟨q, hq⟩ : ∃ q, idxOf (fun d : FieldD => d.name == f.name) (fs.take i) = q := ⟨_, rfl⟩
  have FQ : Hid (∀ wx, Below w3.heap.size w3 wx → Calls Tryz.prog 59 #[.agg #[.string (strL mn), .slice (some ⟨fg, fo, none⟩) fs.length fc], .string (strL f.name), .int .i64 ((i : Nat) : Int)] wx fun e w' => e = .returned (.int .i64 q) ∧ Below wx.heap.size wx w') := Lib.hid (fun wx hb => by
    have := refField_any mn (some ⟨fg, fo, none⟩) fc fs f.name i (by omega) S wx ((H3.out wx hb).2 _ (List.mem_of_getElem? hm)).1
    rwa [hq] at this)
  have KND : Hid (1 ≤ f.kind → f.kind ≤ 12 → ∀ wx, Below w3.heap.size w3 wx → Calls Tryz.prog 84 #[.agg #[.string (strL nm), .slice (some ⟨g, o, none⟩) D.length c, .string (strL st)], .int .i64 ((a : Nat) : Int), .int .i64 ((i : Nat) : Int)] wx fun e w' => e = .returned (.int .i64 (codeI (condR (defE (D.take a)) (fs.take i) f))) ∧ Below wx.heap.size wx w') := Lib.hid (fun hk1 hk2 wx hb => refKinds nm st _ c D S wx (H3.out wx hb) a _ hm ha60 hp i f hf ho hal hk1 hk2)
  have HN := fun w => Lib.hid (refName f.name w)
  obtain ⟨nb, hnb⟩ : ∃ n, nameB f.name = n := ⟨_, rfl⟩
  simp only [hnb] at HN
  obtain ⟨R, hR⟩ : ∃ R, codeI (fieldAllR (defE (D.take a)) (fs.take i) f) = R := ⟨_, rfl⟩
  rw [hR]
  have hR2 : R = codeI (orR (ifR nb 1) (orR (ifR (!decide (0 ≤ q)) 2) (orR (ifR (inB f.kind 1 12) 4) (orR (ifR (!spareB f) 5) (condR (defE (D.take a)) (fs.take i) f))))) := by
    rw [← hR]
    unfold fieldAllR
    rw [hnb, any_cons_idx _ q hq]
  have HR := Lib.hid hR2
  have HW := Lib.hid hw1
  have EB := Lib.hid eb
  have W3 := Lib.hid hw3
  have EFB := Lib.hid efb
  have HB0 := Lib.hid b03
  have d1 : w1.cell? ⟨b, 1, none⟩ = some (.slice (some ⟨g, o, none⟩) D.length c) := by simp [World.cell?, x1]
  have m1 : w1.cell? ⟨g, o + a * 2 + 1, none⟩ = some (.slice (some ⟨fg, fo, none⟩) fs.length fc) := hx 1 _ rfl
  have u0 : w1.cell? ⟨fg, fo + i * 15, none⟩ = some (.string (strL f.name)) := hy 0 _ rfl
  have u1 : w1.cell? ⟨fg, fo + i * 15 + 1, none⟩ = some (.int .i64 f.kind) := hy 1 _ rfl
  have u2 : w1.cell? ⟨fg, fo + i * 15 + 2, none⟩ = some (.int .i64 f.bits) := hy 2 _ rfl
  have u3 : w1.cell? ⟨fg, fo + i * 15 + 3, none⟩ = some (.bool f.little) := hy 3 _ rfl
  have u4 : w1.cell? ⟨fg, fo + i * 15 + 4, none⟩ = some (.bool f.loose) := hy 4 _ rfl
  have u5 : w1.cell? ⟨fg, fo + i * 15 + 5, none⟩ = some (.int .i64 f.low) := hy 5 _ rfl
  have u6 : w1.cell? ⟨fg, fo + i * 15 + 6, none⟩ = some (.int .i64 f.high) := hy 6 _ rfl
  have u7 : w1.cell? ⟨fg, fo + i * 15 + 7, none⟩ = some (.int .i64 f.base) := hy 7 _ rfl
  have u8 : w1.cell? ⟨fg, fo + i * 15 + 8, none⟩ = some (.slice f.ta f.terms.length f.tc) := hy 8 _ rfl
  have u9 : w1.cell? ⟨fg, fo + i * 15 + 9, none⟩ = some (.string (strL f.of_)) := hy 9 _ rfl
  have u10 : w1.cell? ⟨fg, fo + i * 15 + 10, none⟩ = some (.string (strL f.tag)) := hy 10 _ rfl
  have u11 : w1.cell? ⟨fg, fo + i * 15 + 11, none⟩ = some (.string (strL f.from_)) := hy 11 _ rfl
  have u12 : w1.cell? ⟨fg, fo + i * 15 + 12, none⟩ = some (.slice f.ca f.cases.length f.cc) := hy 12 _ rfl
  have u13 : w1.cell? ⟨fg, fo + i * 15 + 13, none⟩ = some (.int .i64 f.check) := hy 13 _ rfl
  have u14 : w1.cell? ⟨fg, fo + i * 15 + 14, none⟩ = some (.int .i64 f.key) := hy 14 _ rfl
  have ha0 : (0 : Int) ≤ ((a : Nat) : Int) := by omega
  have ha1 : ((a : Nat) : Int) < ((D.length : Nat) : Int) := by omega
  have hi0 : (0 : Int) ≤ ((i : Nat) : Int) := by omega
  have hi1 : ((i : Nat) : Int) < ((fs.length : Nat) : Int) := by omega
  clear h hm hp hf hfs ho hal b1 x1 eb hw1 b3 x3 efb hw3 h1 b03 h3 hx hy xd1 hR hR2 hq hnb
  go_enter Tryz.func51, Tryz.ntmps51
  go_upto_region 1 with fail
  rw [HW.out, EB.out]
  go_upto_region 2 with fail
  rw [W3.out, EFB.out]
  clear d1 m1 u0 u1 u2 u3 u4 u5 u6 u7 u8 u9 u10 u11 u12 u13 u14
  obtain ⟨⟨d0, d1, d2⟩, ⟨m0, m1⟩, hfb⟩ := KK.out w3 (Below.refl _ _)
  have y0 := hfb.c0
  clear hfb
  cases nb with
  | false =>
    have hRf := Lib.hid (show R = 1 by rw [HR.out]; rfl)
    go_wp2_with (go_at_call 49; refine ((HN _).out).mono ?_; rintro e w' ⟨rfl, rfl⟩)
    go_ret
    exact ⟨ret_int hRf.out.symm, HB0.out⟩
  | true =>
  go_upto_region 4 with (go_at_call 49; refine ((HN _).out).mono ?_; rintro e w' ⟨rfl, hw'⟩; have hw'' := hw'.symm; clear hw'; subst hw'')
  have kd0 := cell_regrown d0
  have kd1 := cell_regrown d1
  have kd2 := cell_regrown d2
  have km0 := cell_regrown m0
  have km1 := cell_regrown m1
  have ky0 := cell_regrown y0
  clear d0 d1 d2 m0 m1 y0
  refine wp_region_quiet_below (by kernel_rfl) (by kernel_rfl) ?_
  repeat (go_big_quiet_step ((first | (go_at_call 59; exact Calls.regrown_of (FQ.out _ (below_regrown _ _ _))))))
  refine wpQuiet_nil ?_
  rintro _ ⟨p, rfl⟩
  have hb4 := below_regrown w3 p.d p.os
  obtain ⟨w4, hw4⟩ : ∃ w4, Go.Sort.grow (redrawn w3 p.d) p.os = w4 := ⟨_, rfl⟩
  rw [hw4] at hb4 ⊢
  have HB4 := Lib.hid hb4
  obtain ⟨⟨d0, d1, d2⟩, _, hfb⟩ := KK.out w4 hb4
  have HFB := Lib.hid hfb
  have y1 := hfb.c1
  clear kd0 kd1 kd2 km0 km1 ky0 hw4 hb4 hfb
  by_cases hq0 : 0 ≤ q
  · have hRf := Lib.hid (show R = 2 by rw [HR.out, decide_eq_true hq0]; rfl)
    go_wp2_with fail
    go_ret
    exact ⟨ret_int hRf.out.symm, HB0.out.trans (HB4.out.mono HB0.out.size)⟩
  have HRq := Lib.hid (show R = codeI (orR (ifR (inB f.kind 1 12) 4) (orR (ifR (!spareB f) 5) (condR (defE (D.take a)) (fs.take i) f))) by rw [HR.out, decide_eq_false hq0]; rfl)
  by_cases hk1 : f.kind < 1
  · have hRf := Lib.hid (show R = 4 by rw [HRq.out]; unfold inB; rw [decide_eq_false (show ¬ 1 ≤ f.kind by omega)]; rfl)
    go_wp2_with fail
    go_ret
    exact ⟨ret_int hRf.out.symm, HB0.out.trans (HB4.out.mono HB0.out.size)⟩
  by_cases hk2 : 12 < f.kind
  · have hRf := Lib.hid (show R = 4 by rw [HRq.out]; unfold inB; rw [decide_eq_false (show ¬ f.kind ≤ 12 by omega), Bool.and_false]; rfl)
    go_wp2_with fail
    go_ret
    exact ⟨ret_int hRf.out.symm, HB0.out.trans (HB4.out.mono HB0.out.size)⟩
  have HZ := fun w => Lib.hid (refZero f (by omega) (by omega) w)
  have HK := Lib.hid (KND.out (by omega) (by omega))
  have HRk := Lib.hid (show R = codeI (orR (ifR (!spareB f) 5) (condR (defE (D.take a)) (fs.take i) f)) by rw [HRq.out]; unfold inB; rw [decide_eq_true (show 1 ≤ f.kind by omega), decide_eq_true (show f.kind ≤ 12 by omega)]; rfl)
  obtain ⟨sp, hsp⟩ : ∃ s, (!spareB f) = s := ⟨_, rfl⟩
  simp only [hsp] at HZ
  unfold FieldD.agg at HZ
  rw [hsp] at HRk
  clear hsp KND
  have y0 := HFB.out.c0
  have y2 := HFB.out.c2
  have y3 := HFB.out.c3
  have y4 := HFB.out.c4
  have y5 := HFB.out.c5
  have y6 := HFB.out.c6
  have y7 := HFB.out.c7
  have y8 := HFB.out.c8
  have y9 := HFB.out.c9
  have y10 := HFB.out.c10
  have y11 := HFB.out.c11
  have y12 := HFB.out.c12
  have y13 := HFB.out.c13
  have y14 := HFB.out.c14
  cases sp with
  | false =>
    have hRf := Lib.hid (show R = 5 by rw [HRk.out]; rfl)
    go_wp2_with (go_at_call 83; refine ((HZ _).out).mono ?_; rintro e w5 ⟨rfl, hb5⟩)
    go_ret
    exact ⟨ret_int hRf.out.symm, HB0.out.trans ((HB4.out.trans (hb5.mono HB4.out.size)).mono HB0.out.size)⟩
  | true =>
    have hRf := Lib.hid (show R = codeI (condR (defE (D.take a)) (fs.take i) f) by rw [HRk.out]; rfl)
    go_upto_region 10 with (go_at_call 83; refine ((HZ _).out).mono ?_; rintro e w5 ⟨rfl, hb5⟩)
    have HB5 := Lib.hid (HB4.out.trans (hb5.mono HB4.out.size))
    clear hb5 d0 d1 d2 y0 y1 y2 y3 y4 y5 y6 y7 y8 y9 y10 y11 y12 y13 y14
    obtain ⟨⟨d0, d1, d2⟩, _, _⟩ := KK.out w5 HB5.out
    go_wp2_with (go_at_call 84; refine (HK.out _ HB5.out).mono ?_; rintro e w6 ⟨rfl, hb6⟩)
    go_ret
    exact ⟨ret_int hRf.out.symm, HB0.out.trans ((HB5.out.trans (hb6.mono HB5.out.size)).mono HB0.out.size)⟩
end Go.Proofs.YtbpkppmbbpoohaaGreat

namespace Go.Proofs.YtbpkppmbbpoohaaGreat
open Go.RowKit

/-- No code is 0. -/
def NZ (r : Option Int) : Prop := ∀ c, r = some c → c ≠ 0
theorem NZ.if_ {b : Bool} {c : Int} (h : c ≠ 0) : NZ (ifR b c) := fun d hd => by
  cases b with
  | true => cases hd
  | false =>
    cases hd
    exact h
theorem NZ.or_ {r s : Option Int} (h : NZ r) (k : NZ s) : NZ (orR r s) := fun d hd => by
  cases r with
  | none => exact k d hd
  | some c => exact h d hd
theorem nz_below (l : Int) (d : FieldD) : NZ (belowR l d) := NZ.if_ (by decide)
theorem nz_uns (d : FieldD) : NZ (unsR d) := (NZ.if_ (by decide)).or_ ((NZ.if_ (by decide)).or_ (nz_below _ _))
theorem nz_size (B : List FieldD) (d : FieldD) : NZ (sizeAllR B d) := (NZ.if_ (by decide)).or_ ((NZ.if_ (by decide)).or_ (NZ.if_ (by decide)))
theorem nz_cases (E : Nats) (hi : Int) : ∀ (C : List CaseD) (l : Int), NZ (casesR E hi l C)
  | [], _ => fun _ h => by cases h
  | c :: C, l => (NZ.if_ (by decide)).or_ ((NZ.if_ (by decide)).or_ (nz_cases E hi C _))
theorem nz_cond (E : Nats) (B : List FieldD) (d : FieldD) : NZ (condR E B d) := by
  unfold condR
  repeat' split
  · exact nz_uns _
  · exact nz_uns _
  · exact nz_below _ _
  · exact nz_size _ _
  · exact NZ.if_ (by decide)
  · exact NZ.if_ (by decide)
  · exact NZ.or_ (NZ.if_ (by decide)) (nz_size _ _)
  · exact NZ.if_ (by decide)
  · exact NZ.or_ (NZ.if_ (by decide)) (NZ.or_ (NZ.if_ (by decide)) (nz_cases _ _ _ _))
  · exact NZ.if_ (by decide)
  · exact NZ.or_ (NZ.if_ (by decide)) (NZ.if_ (by decide))
  · exact NZ.or_ (NZ.if_ (by decide)) (NZ.or_ (NZ.if_ (by decide)) (nz_size _ _))
theorem nz_field (E : Nats) (D : List FieldD) (i : Nat) (d : FieldD) : NZ (frA E D i d) :=
  NZ.or_ (NZ.if_ (by decide)) (NZ.or_ (NZ.if_ (by decide)) (NZ.or_ (NZ.if_ (by decide)) (NZ.or_ (NZ.if_ (by decide)) (nz_cond _ _ _))))
theorem code_zero {r : Option Int} (h : NZ r) (hc : codeI r = 0) : r = none := by
  cases r with
  | none => rfl
  | some c => exact absurd hc (h c rfl)
theorem code_some {r : Option Int} (hc : codeI r ≠ 0) : r = some (codeI r) := by
  cases r with
  | none => exact absurd rfl hc
  | some c => rfl

theorem fields_next {fr : Nat → FieldD → Option Int} {fs : List FieldD} {i : Nat} {f : FieldD} (h : fieldsR fr 0 (fs.take i) = none) (hf : fs[i]? = some f) (hn : fr i f = none) : fieldsR fr 0 (fs.take (i + 1)) = none := by
  have hi := (List.getElem?_eq_some_iff.1 hf).1
  have hl : (fs.take i).length = i := by rw [List.length_take]; omega
  rw [(drop_of hf).2, fieldsR_app, h, hl]
  simp [orM, fieldsR, hn]
theorem fields_at {fr : Nat → FieldD → Option Int} {fs : List FieldD} {i : Nat} {f : FieldD} {c : Int} (h : fieldsR fr 0 (fs.take i) = none) (hf : fs[i]? = some f) (hn : fr i f = some c) : fieldsR fr 0 fs = some ((i : Int), c) := by
  have hi := (List.getElem?_eq_some_iff.1 hf).1
  have hl : (fs.take i).length = i := by rw [List.length_take]; omega
  have hs : fs = fs.take i ++ f :: fs.drop (i + 1) := by rw [← (drop_of hf).1, List.take_append_drop]
  conv => lhs; rw [hs]
  rw [fieldsR_app, h, hl]
  simp [orM, fieldsR, hn]

section
variable {E : Nats} {a : Nat} {m : MsgD}
theorem mr_name (h : nameB m.name = false) : mrA E a m = some (-1, 1) := by
  unfold mrA msgR
  rw [h]
  rfl
theorem mr_twice (h : nameB m.name = true) (h2 : hasN E m.name = true) : mrA E a m = some (-1, 2) := by
  unfold mrA msgR
  rw [h, h2]
  rfl
theorem mr_few (h : nameB m.name = true) (h2 : hasN E m.name = false) (h3 : inB (m.fields.length : Int) 1 40 = false) : mrA E a m = some (-1, 3) := by
  unfold mrA msgR
  rw [h, h2, h3]
  rfl
theorem mr_field {p : Int × Int} (h : nameB m.name = true) (h2 : hasN E m.name = false) (h3 : inB (m.fields.length : Int) 1 40 = true) (h4 : fieldsR (frA E m.fields) 0 m.fields = some p) : mrA E a m = some p := by
  unfold mrA msgR
  rw [h, h2, h3, h4]
  rfl
theorem mr_deep (h : nameB m.name = true) (h2 : hasN E m.name = false) (h3 : inB (m.fields.length : Int) 1 40 = true) (h4 : fieldsR (frA E m.fields) 0 m.fields = none) (h5 : ¬ (natS E m.fields).1 ≤ 16) : mrA E a m = some (-1, 10) := by
  unfold mrA msgR
  rw [h, h2, h3, h4, decide_eq_false h5]
  rfl
theorem mr_ok (h : nameB m.name = true) (h2 : hasN E m.name = false) (h3 : inB (m.fields.length : Int) 1 40 = true) (h4 : fieldsR (frA E m.fields) 0 m.fields = none) (h5 : (natS E m.fields).1 ≤ 16) : mrA E a m = none := by
  unfold mrA msgR
  rw [h, h2, h3, h4, decide_eq_true h5]
  rfl
end

section
variable {nm st : List UInt8} {D : List MsgD} {a : Nat} {m : MsgD}
theorem msgs_next (hp : msgsR mrA [] 0 (D.take a) = none) (hm : D[a]? = some m) (h : mrA (defE (D.take a)) a m = none) : msgsR mrA [] 0 (D.take (a + 1)) = none := by
  have hi := (List.getElem?_eq_some_iff.1 hm).1
  have hl : (D.take a).length = a := by rw [List.length_take]; omega
  rw [(drop_of hm).2, msgsR_app, hp, hl]
  have he : (D.take a).foldl stepN [] = defE (D.take a) := rfl
  rw [he]
  simp [orD, msgsR, h]
theorem res_name (h : nameB nm = false) : defAllR nm st D = some (-1, -1, 1) := by
  unfold defAllR defR
  rw [h]
  rfl
theorem res_few (h : nameB nm = true) (h2 : inB (D.length : Int) 1 60 = false) : defAllR nm st D = some (-1, -1, 3) := by
  unfold defAllR defR
  rw [h, h2]
  rfl
theorem res_msg {p : Int × Int} (h : nameB nm = true) (h2 : inB (D.length : Int) 1 60 = true) (hp : msgsR mrA [] 0 (D.take a) = none) (hm : D[a]? = some m) (hr : mrA (defE (D.take a)) a m = some p) : defAllR nm st D = some ((a : Int), p.1, p.2) := by
  have hi := (List.getElem?_eq_some_iff.1 hm).1
  have hl : (D.take a).length = a := by rw [List.length_take]; omega
  have hs : D = D.take a ++ m :: D.drop (a + 1) := by rw [← (drop_of hm).1, List.take_append_drop]
  have hmr : msgsR mrA [] 0 D = some ((a : Int), p.1, p.2) := by
    conv => lhs; rw [hs]
    rw [msgsR_app, hp, hl]
    have he : (D.take a).foldl stepN [] = defE (D.take a) := rfl
    rw [he]
    simp [orD, msgsR, hr]
  unfold defAllR defR
  rw [h, h2, hmr]
  rfl
theorem res_end (h : nameB nm = true) (h2 : inB (D.length : Int) 1 60 = true) (hp : msgsR mrA [] 0 D = none) : defAllR nm st D = ifD (hasN (defE D) st) 11 := by
  unfold defAllR defR
  rw [h, h2, hp]
  rfl
end

/-- A row of numbers in a block of its own. -/
structure DRow (W : World) (dg n : Nat) (vs : Nat → Int) : Prop where
  ex : ∃ arr : Array Value, W.heap[dg]? = some (.cells arr 3 (0, 0)) ∧ arr.size = n ∧ ∀ j, j < n → arr[j]? = some (.int .i64 (vs j))
section
variable {W W' : World} {dg n : Nat} {vs : Nat → Int}
theorem DRow.lt (h : DRow W dg n vs) : dg < W.heap.size := by
  obtain ⟨arr, h1, _⟩ := h.ex
  exact (Array.getElem?_eq_some_iff.1 h1).1
theorem DRow.cell (h : DRow W dg n vs) {j : Nat} (hj : j < n) : W.cell? ⟨dg, j, none⟩ = some (.int .i64 (vs j)) := by
  obtain ⟨arr, h1, _, h3⟩ := h.ex
  simp only [World.cell?, h1]
  simpa using h3 j hj
theorem DRow.fr (h : DRow W dg n vs) (j : Nat) : W.frozen? ⟨dg, j, none⟩ = false := by
  obtain ⟨arr, h1, _⟩ := h.ex
  simp [World.frozen?, h1]
theorem DRow.below {k : Nat} (h : DRow W dg n vs) (hb : Below k W W') (hk : dg < k) : DRow W' dg n vs := by
  obtain ⟨arr, h1, h2, h3⟩ := h.ex
  exact ⟨arr, (hb.block dg hk).trans h1, h2, h3⟩
theorem DRow.set (h : DRow W dg n vs) (a : Nat) (u : Int) : DRow (W.setCell ⟨dg, a, none⟩ (.int .i64 u)) dg n (fun j => if j = a then u else vs j) := by
  obtain ⟨arr, h1, h2, h3⟩ := h.ex
  refine ⟨_, heap_setCell_same W dg a _ 3 (.int .i64 u) h1, by simpa using h2, fun j hj => ?_⟩
  rw [Array.getElem?_setIfInBounds]
  by_cases e : a = j
  · subst e
    rw [if_pos rfl, if_pos (by omega), if_pos rfl]
  · rw [if_neg e, if_neg (fun x => e x.symm)]
    exact h3 j hj
theorem DRow.congr {vs' : Nat → Int} (h : DRow W dg n vs) (he : ∀ j, j < n → vs j = vs' j) : DRow W dg n vs' := by
  obtain ⟨arr, h1, h2, h3⟩ := h.ex
  exact ⟨arr, h1, h2, fun j hj => by rw [h3 j hj, he j hj]⟩
end
/-- The depths of the first messages, and what comes next. -/
def dJ (D : List MsgD) (j : Nat) : Int := (natS (defE (D.take j)) ((D[j]?).elim [] (·.fields))).1
def vsT (D : List MsgD) (a : Nat) (t : Int) (j : Nat) : Int := if j < a then dJ D j else if j = a then t else 0

/-- A flaw in a block of its own. -/
structure FlB (W : World) (b : Nat) (m f c : Int) : Prop where
  blk : W.heap[b]? = some (.cells #[.int .i64 m, .int .i64 f, .int .i64 c] 30 (0, 0))
section
variable {W W' : World} {b : Nat} {m f c : Int}
theorem FlB.lt (h : FlB W b m f c) : b < W.heap.size := (Array.getElem?_eq_some_iff.1 h.blk).1
theorem FlB.c0 (h : FlB W b m f c) : W.cell? ⟨b, 0, none⟩ = some (.int .i64 m) := by simp [World.cell?, h.blk]
theorem FlB.c1 (h : FlB W b m f c) : W.cell? ⟨b, 1, none⟩ = some (.int .i64 f) := by simp [World.cell?, h.blk]
theorem FlB.c2 (h : FlB W b m f c) : W.cell? ⟨b, 2, none⟩ = some (.int .i64 c) := by simp [World.cell?, h.blk]
theorem FlB.fr (h : FlB W b m f c) (o : Nat) : W.frozen? ⟨b, o, none⟩ = false := by simp [World.frozen?, h.blk]
theorem FlB.rest {S : Nat → Prop} (h : FlB W b m f c) (hr : Rest S W W') (hs : ¬ S b) : FlB W' b m f c := ⟨(hr.block b h.lt hs).trans h.blk⟩
theorem FlB.set3 (h : FlB W b m f c) (x y z : Int) : FlB (((W.setCell ⟨b, 0, none⟩ (.int .i64 x)).setCell ⟨b, 1, none⟩ (.int .i64 y)).setCell ⟨b, 2, none⟩ (.int .i64 z)) b x y z ∧ Rest (fun k => k = b) W (((W.setCell ⟨b, 0, none⟩ (.int .i64 x)).setCell ⟨b, 1, none⟩ (.int .i64 y)).setCell ⟨b, 2, none⟩ (.int .i64 z)) :=
  ⟨⟨heap_setCell_same _ b 2 _ 30 (.int .i64 z) (heap_setCell_same _ b 1 _ 30 (.int .i64 y) (heap_setCell_same W b 0 _ 30 (.int .i64 x) h.blk))⟩, rest_setAt W b (.int .i64 x) (.int .i64 y) (.int .i64 z)⟩
end
end Go.Proofs.YtbpkppmbbpoohaaGreat

namespace Go.Proofs.YtbpkppmbbpoohaaGreat
open Go.RowKit

section
variable {P : Program} {ops : Array Oper} {Q : Exit → Act → World → Prop}

/-- The values of the first operations in their slots. -/
def putFrom (vs : Nat → Value) : Nat → List Nat → Act → Act
  | _, [], a => a
  | i, d :: ds, a => putFrom vs (i + 1) ds (a.put (some d) (vs i))
theorem putFrom_size (vs : Nat → Value) : ∀ (ds : List Nat) (i : Nat) (a : Act), (putFrom vs i ds a).tmps.size = a.tmps.size ∧ (putFrom vs i ds a).defers = a.defers
  | [], _, _ => ⟨rfl, rfl⟩
  | d :: ds, i, a => by
    obtain ⟨h1, h2⟩ := putFrom_size vs ds (i + 1) (a.put (some d) (vs i))
    exact ⟨h1.trans Array.size_setIfInBounds, h2⟩
theorem putFrom_low (vs : Nat → Value) : ∀ (ds : List Nat) (i : Nat) (a : Act) (j : Nat), j ∉ ds → (putFrom vs i ds a).tmps[j]? = a.tmps[j]?
  | [], _, _, _, _ => rfl
  | d :: ds, i, a, j, h => by
    have h1 : j ≠ d := fun e => h (by simp [e])
    have h2 : j ∉ ds := fun e => h (by simp [e])
    show (putFrom vs (i + 1) ds (a.put (some d) (vs i))).tmps[j]? = _
    rw [putFrom_low vs ds (i + 1) _ j h2, fput, if_neg (fun e => h1 e.symm)]
theorem putFrom_at (vs : Nat → Value) : ∀ (ds : List Nat) (i : Nat) (a : Act) (m d : Nat), ds.Nodup → ds[m]? = some d → d < a.tmps.size → (putFrom vs i ds a).tmps[d]? = some (vs (i + m))
  | [], _, _, _, _, _, h, _ => by simp at h
  | e :: ds, i, a, m, d, hn, hm, hd => by
    obtain ⟨hn1, hn2⟩ := List.nodup_cons.1 hn
    show (putFrom vs (i + 1) ds (a.put (some e) (vs i))).tmps[d]? = _
    match m, hm with
    | 0, hm =>
      simp only [List.getElem?_cons_zero, Option.some.injEq] at hm
      subst hm
      rw [putFrom_low vs ds (i + 1) _ e hn1, fput, if_pos rfl, if_pos hd]
      rfl
    | m + 1, hm =>
      simp only [List.getElem?_cons_succ] at hm
      rw [putFrom_at vs ds (i + 1) _ m d hn2 hm (by rw [show (a.put (some e) (vs i)).tmps.size = a.tmps.size from Array.size_setIfInBounds]; exact hd), show i + 1 + m = i + (m + 1) by omega]

/-- Nothing that is listed waits. -/
def DownC (ops : Array Oper) (l : Array Bool) : Prop := ∀ j o, l.getD j false = true → ops[j]? = some o → ∀ e ∈ o.after, Region.binds .any e = true → l.getD e.on false = true
/-- Every operation ahead of the last one is waited for. -/
def waitedB (ops : Array Oper) (n : Nat) : Bool := (List.range n).all fun i => (List.range (n + 1)).any fun k => decide (i < k) && ((ops[k]?).elim false fun o => o.after.any fun e => e.on == i && Region.binds .any e)
theorem waited_spec {n : Nat} (h : waitedB ops n = true) {i : Nat} (hi : i < n) : ∃ k o, i < k ∧ k ≤ n ∧ ops[k]? = some o ∧ ∃ e ∈ o.after, e.on = i ∧ Region.binds .any e = true := by
  have h1 := List.all_eq_true.1 h i (List.mem_range.2 hi)
  obtain ⟨k, hk, h2⟩ := List.any_eq_true.1 h1
  rw [Bool.and_eq_true, decide_eq_true_eq] at h2
  obtain ⟨h3, h4⟩ := h2
  cases ho : ops[k]? with
  | none => rw [ho] at h4; cases h4
  | some o =>
    rw [ho] at h4
    obtain ⟨e, he, h5⟩ := Array.any_eq_true'.1 h4
    rw [Bool.and_eq_true] at h5
    exact ⟨k, o, h3, by have := List.mem_range.1 hk; omega, ho, e, he, by simpa using h5.1, h5.2⟩

theorem tail_region {id : Nat} {a0 : Act} {W0 : World} (n : Nat) (ds : List Nat) (vs : Nat → Value) (hsz : ops.size = n + 1) (hds : ds.length = n) (hnd : ds.Nodup) (hnd2 : ∀ i, i < ds.length → ∀ j, j < ds.length → ds[i]? = ds[j]? → i = j) (hlt : ∀ d ∈ ds, d < a0.tmps.size) (hm : P.follows .mixedOrders = true)
    (ht : ∀ (i : Nat) (o : Oper), ops[i]? = some o → ∀ e ∈ o.after, e.on < i) (hw : waitedB ops n = true)
    (hstep : ∀ (i : Nat) (o : Oper) (d : Nat), ops[i]? = some o → ds[i]? = some d → o.guard = none ∧ o.dst = some d ∧ ∀ a w, FrF ds a0 a → Below W0.heap.size W0 w → (∀ e ∈ o.after, Region.binds .any e = true → ∀ d', ds[e.on]? = some d' → a.tmps[d']? = some (vs e.on)) →
      (execOp a.eval o).run P w = .ok (.value (vs i)) w ∨ ∃ f args, (execOp a.eval o).run P w = .ok (.enter f args) w ∧ Calls P f args w fun e w' => e = .returned (vs i) ∧ Below w.heap.size w w')
    (hlast : ∀ o, ops[n]? = some o → o.guard = none ∧ o.dst = none ∧ ∀ w, Below W0.heap.size W0 w → ∃ w', (execOp (putFrom vs 0 ds a0).eval o).run P w = .ok .skip w' ∧ Q .normal (putFrom vs 0 ds a0) w') :
    (Code.region id ops true).wp P Q a0 W0 := by
  refine wp_region_inv (fun l a w => (FallI n ops a0 W0 ds vs l a w ∧ DownC ops l) ∨ (l.size = ops.size ∧ (∀ i, i < ops.size → l.getD i false = true) ∧ Q .normal a w)) hm (fun l a w h => by rcases h with h | h; exact h.1.sz; exact h.1) ?_ ?_ ?_
  · refine .inl ⟨⟨by simp, ⟨rfl, rfl, fun _ _ => rfl⟩, by rw [Array.getD_eq_getD_getElem?]; simp [hsz], ⟨rfl, rfl, rfl, Nat.le_refl _, fun _ _ => rfl⟩, fun i d h => ?_⟩, fun j o h => ?_⟩
    · rw [Array.getD_eq_getD_getElem?, Array.getElem?_replicate] at h
      split at h <;> simp at h
    · rw [Array.getD_eq_getD_getElem?, Array.getElem?_replicate] at h
      split at h <;> simp at h
  · intro l a w i h hi
    obtain ⟨h1, h2, h3⟩ := ready_get hi
    rcases h with ⟨h, hdc⟩ | ⟨hs, hall, _⟩
    · have ho : ops[i]? = some ops[i] := Array.getElem?_eq_getElem h1
      have hl : i < l.size := by rw [h.sz]; exact h1
      have haft : ∀ e ∈ ops[i].after, Region.binds .any e = true → ∀ d', ds[e.on]? = some d' → a.tmps[d']? = some (vs e.on) := fun e he hb d' hd' => h.got _ _ (h3 _ ho e he hb) hd'
      have hdc2 : DownC ops (l.setIfInBounds i true) := fun j o hj hjo e he hb => by
        rw [fset hl] at hj ⊢
        by_cases hij : i = j
        · subst hij
          rw [ho] at hjo
          cases hjo
          have := h3 _ ho e he hb
          by_cases hie : i = e.on
          · rw [if_pos hie]
          · rw [if_neg hie]; exact this
        · rw [if_neg hij] at hj
          by_cases hie : i = e.on
          · rw [if_pos hie]
          · rw [if_neg hie]; exact hdc j o hj hjo e he hb
      by_cases hin : i = n
      · subst hin
        obtain ⟨hg, hdst, hlq⟩ := hlast _ ho
        have hlisted : ∀ m j, i - j ≤ m → j < i → l.getD j false = true := fun m => by
          induction m with
          | zero => intro j hj hji; omega
          | succ m ih =>
            intro j hj hji
            obtain ⟨k, o, hjk, hki, hko, e, he, heq, hb⟩ := waited_spec hw hji
            by_cases hkn : k = i
            · subst hkn
              have := h3 o hko e he hb
              rwa [heq] at this
            · have hk := ih k (by omega) (by omega)
              have := hdc k o hk hko e he hb
              rwa [heq] at this
        have haeq : a = putFrom vs 0 ds a0 := by
          obtain ⟨s1, s2⟩ := putFrom_size vs ds 0 a0
          have hteq : ∀ j : Nat, a.tmps[j]? = (putFrom vs 0 ds a0).tmps[j]? := fun j => by
            by_cases hj : j ∈ ds
            · obtain ⟨m, hmlt, hmj⟩ := List.mem_iff_getElem.1 hj
              have hmj2 : ds[m]? = some j := by rw [List.getElem?_eq_getElem hmlt, hmj]
              rw [h.got m j (hlisted _ m (Nat.le_refl _) (by omega)) hmj2, putFrom_at vs ds 0 a0 m j hnd hmj2 (hlt j hj), Nat.zero_add]
            · rw [h.fr.low j hj, putFrom_low vs ds 0 a0 j hj]
          have hd : a.defers = (putFrom vs 0 ds a0).defers := h.fr.df.trans s2.symm
          generalize putFrom vs 0 ds a0 = b at hteq hd
          obtain ⟨ta, da⟩ := a
          obtain ⟨tb, db⟩ := b
          dsimp only at hd hteq
          subst hd
          congr 1
          exact Array.ext_getElem? hteq
        obtain ⟨w', hr, hq⟩ := hlq w h.bw
        rw [← haeq] at hr hq
        refine wpOp_none ho hg hr ?_
        rw [hdst]
        refine .inr ⟨by simpa using h.sz, fun j hj => ?_, hq⟩
        rw [fset hl]
        by_cases hij : i = j
        · rw [if_pos hij]
        · rw [if_neg hij]
          exact hlisted _ j (Nat.le_refl _) (by omega)
      · have hlt2 : i < ds.length := by omega
        have hd : ds[i]? = some ds[i] := List.getElem?_eq_getElem hlt2
        obtain ⟨hg, hdst, hs⟩ := hstep i _ _ ho hd
        rcases hs a w h.fr h.bw haft with hr | ⟨f, args, hr, hc⟩
        · refine wpOp_val ho hg hr ?_
          rw [hdst]
          exact .inl ⟨h.put h1 hin hd hnd2 hlt (Below.refl _ _), hdc2⟩
        · refine wpOp_call (R := fun v w' => v = vs i ∧ Below w.heap.size w w') ho hg hr (hc.mono fun e w' ⟨he, hb⟩ => ⟨_, he, rfl, hb⟩) (fun v w' hv => ?_)
          obtain ⟨rfl, hb⟩ := hv
          rw [hdst]
          exact .inl ⟨h.put h1 hin hd hnd2 hlt hb, hdc2⟩
    · exfalso
      have := hall i h1
      rw [Array.getD_eq_getD_getElem?] at this h2
      cases hl : l[i]? with
      | none => rw [hl] at this; cases this
      | some v => rw [hl] at this h2; simp_all
  · intro l a w h hn
    rcases h with ⟨h, _⟩ | ⟨_, _, hq⟩
    · have := ready_nil hn h.sz ht n (by omega)
      rw [h.nl] at this
      cases this
    · exact hq
end
end Go.Proofs.YtbpkppmbbpoohaaGreat
