/- known of the statements of layer 5: the chapter's examples hold. No conditions. -/
import Derived.Test.YtbpkppmbbpoohaaGreatJn
import Derived.Deep.AppendLies
import Derived.Deep.RegionHeldLaw
namespace Go.Proofs.YtbpkppmbbpoohaaGreat
open Go.RowKit Go.Shelf

theorem run_lenE {P : Program} {mt kt et ty : TypeId} {W : World} {r : Nat} {E : Ents} (hm : P.underlying mt = some (.map kt et)) (h : MapAt W r E) : (Builtin.len_ #[mt] ty #[.map (some r)]).run P W = .ok (.int .i64 ((E.length : Nat) : Int)) W := by
  obtain ⟨es, clock, hb, he⟩ := h
  have hs : es.size = E.length := by have := congrArg List.length he; simpa using this
  simp [Builtin.len_, run_underlying hm, MapKept.run_getObj_map hb, hs, goInt]
theorem slAt_msgG {W : World} {mb c : Nat} {A : Option Addr} {D : List FieldD} (S : Nat → Prop) (hS : ¬ S mb) (h : W.heap[mb]? = some (.cells #[.string ⟨#[109]⟩, .slice A D.length c] 36 (0, 0))) :
    SlAt MsgD.cells 2 S W (some ⟨mb, 0, none⟩) 1 [⟨[109], A, c, D⟩] := by
  refine ⟨Nat.le_refl _, by omega, fun i d hd => ⟨mb, 0, rfl, hS, fun j u hu => ?_⟩⟩
  rw [cell_of_row W mb (0 + i * 2 + j) _ _ (0, 0) h]
  match i, hd with
  | 0, hd =>
    simp only [List.getElem?_cons_zero, Option.some.injEq] at hd
    subst hd
    simp only [MsgD.cells] at hu
    rw [show 0 + 0 * 2 + j = j by omega]
    simpa [strL] using hu
  | i + 1, hd => simp at hd
theorem Tryz.fieldDef1 (a c : ByteArray) (A : Option Addr) (n m : Nat) (w : World) : (Instr.field 24 (.agg #[.string a, .slice A n m, .string c]) 1).run Tryz.prog w = .ok (.slice A n m) w := by kernel_rfl
def padD : FieldD := { name := [], kind := 10, bits := 0, little := false, loose := false, low := 0, high := 0, base := 0, ta := none, tc := 0, terms := [], of_ := [], tag := [], from_ := [], ca := none, cc := 0, cases := [], check := 0, key := 0 }
theorem hasv_pad : hasvB padD = false := by rfl

/-- Behind the growth of the fields. -/
structure Grew (w0 w wx : World) (tb fb mb g cap : Nat) : Prop where
  row : wx.ownsRow w0.heap.size 55 15 (.slice (some ⟨g, 0, none⟩) 3 cap) 3 (((dN 255).cells ++ (dB tb [98] 0 0).cells) ++ dL.cells)
  ms : wx.heap[mb]? = some (.cells #[.string ⟨#[109]⟩, .slice (some ⟨g, 0, none⟩) 3 cap] 36 (0, 0))
  rest : Rest (fun k => k = fb ∨ k = mb) w wx
theorem Grew.mk_ {w0 w w13 : World} {tb fb mb g cap : Nat} {o : Obj} {hi bi ba : Int} {fnm : List UInt8} (h : VarAt w tb fb mb hi bi ba fnm)
    (hown : w13.ownsRow w0.heap.size 55 15 (.slice (some ⟨g, 0, none⟩) 3 cap) 3 (((dN 255).cells ++ (dB tb [98] 0 0).cells) ++ dL.cells)) (hgrow : (w.alloc o).drew.grownBy w13 (Value.ownBlock (.slice (some ⟨fb, 0, none⟩) 2 2)))
    (hat : Value.ownBlock (.slice (some ⟨fb, 0, none⟩) 2 2) = some g ∨ g = w.heap.size + 1) (hgm : w13.heap[mb]? = w.heap[mb]?) (hne : fb < mb) (_ : w0.heap.size ≤ w.heap.size) : Grew w0 w (w13.setCell ⟨mb, 1, none⟩ (.slice (some ⟨g, 0, none⟩) 3 cap)) tb fb mb g cap := by
  have hlt := (Array.getElem?_eq_some_iff.1 h.ms).1
  have hg : g ≠ mb := by
    rcases hat with e | e
    · simp [Value.ownBlock] at e; omega
    · omega
  have hr13 : Rest (fun k => k = fb) w w13 := ((Rest.refl (fun k => k = fb) w).alloc o).drew.grown hgrow (fun k hk _ => by simp [Value.ownBlock] at hk; exact hk.symm)
  refine ⟨(rest_set w13 mb 1 (.slice (some ⟨g, 0, none⟩) 3 cap)).row hown (fun k hk => by simp [Value.ownBlock] at hk; omega), heap_setCell_same w13 mb 1 _ 36 (.slice (some ⟨g, 0, none⟩) 3 cap) (hgm.trans h.ms), ?_⟩
  exact (hr13.mono (fun _ _ e => .inl e)).setCell (S := fun k => k = fb ∨ k = mb) (p := ⟨mb, 1, none⟩) (fun _ => .inr rfl) _

set_option maxRecDepth 100000 in
set_option maxHeartbeats 12800000 in
theorem known_any (w : World) : Calls Tryz.prog 11 #[] w fun e w' => e = .returned (.bool true) ∧ Below w.heap.size w w' := by
  obtain ⟨i0, hi0, hz0, hz1, hz2⟩ := info_parts Tryz.infoField
  have INF := Lib.hid (And.intro hi0 (And.intro hz0 (And.intro hz1 hz2)))
  clear hi0 hz0 hz1 hz2
  go_enter Tryz.func11, Tryz.ntmps11
  go_wp2_with fail
  refine (two_some w).mono ?_
  rintro e w1 ⟨t1, f1, m1, rfl, h1, b1⟩
  have H1 := Lib.hid h1
  have B1 := Lib.hid b1
  clear h1 b1
  go_wp2_with fail
  refine (two_some w1).mono ?_
  rintro e w2 ⟨t2, f2, m2, rfl, h2, b2⟩
  have H2 := Lib.hid h2
  have B2 := Lib.hid b2
  clear h2 b2
  go_wp2_with fail
  refine (two_some w2).mono ?_
  rintro e w3 ⟨t3, f3, m3, rfl, h3, b3⟩
  have H3 := Lib.hid h3
  have B3 := Lib.hid b3
  clear h3 b3
  go_wp2_with fail
  refine (two_some w3).mono ?_
  rintro e w4 ⟨t4, f4, m4, rfl, h4, b4⟩
  have H4 := Lib.hid h4
  have B4 := Lib.hid b4
  clear h4 b4
  go_wp2_with fail
  refine (two_some w4).mono ?_
  rintro e w5 ⟨t5, f5, m5, rfl, h5, b5⟩
  have H5 := Lib.hid h5
  have B5 := Lib.hid b5
  clear h5 b5
  go_wp2_with fail
  refine (two_some w5).mono ?_
  rintro e w6 ⟨t6, f6, m6, rfl, h6, b6⟩
  have H6 := Lib.hid h6
  have B6 := Lib.hid b6
  clear h6 b6
  obtain ⟨w7, hw7, x1, x2, x3, x4, x5, x6, hb7, hs7⟩ := alloc6 w6 (.cells #[.string ⟨#[100]⟩, .slice (some ⟨m1, 0, none⟩) 1 1, .string ⟨#[109]⟩] 24) (.cells #[.string ⟨#[100]⟩, .slice (some ⟨m2, 0, none⟩) 1 1, .string ⟨#[109]⟩] 24) (.cells #[.string ⟨#[100]⟩, .slice (some ⟨m3, 0, none⟩) 1 1, .string ⟨#[109]⟩] 24) (.cells #[.string ⟨#[100]⟩, .slice (some ⟨m4, 0, none⟩) 1 1, .string ⟨#[109]⟩] 24) (.cells #[.string ⟨#[100]⟩, .slice (some ⟨m5, 0, none⟩) 1 1, .string ⟨#[109]⟩] 24) (.cells #[.string ⟨#[100]⟩, .slice (some ⟨m6, 0, none⟩) 1 1, .string ⟨#[109]⟩] 24)
  obtain ⟨b1, eb1⟩ : ∃ b, w6.heap.size = b := ⟨_, rfl⟩
  obtain ⟨b2, eb2⟩ : ∃ b, b1 + 1 = b := ⟨_, rfl⟩
  obtain ⟨b3, eb3⟩ : ∃ b, b2 + 1 = b := ⟨_, rfl⟩
  obtain ⟨b4, eb4⟩ : ∃ b, b3 + 1 = b := ⟨_, rfl⟩
  obtain ⟨b5, eb5⟩ : ∃ b, b4 + 1 = b := ⟨_, rfl⟩
  obtain ⟨b6, eb6⟩ : ∃ b, b5 + 1 = b := ⟨_, rfl⟩
  rw [eb1] at x1
  rw [eb1, eb2] at x2
  rw [eb1, eb2, eb3] at x3
  rw [eb1, eb2, eb3, eb4] at x4
  rw [eb1, eb2, eb3, eb4, eb5] at x5
  rw [eb1, eb2, eb3, eb4, eb5, eb6] at x6
  have BW : Hid (Below w.heap.size w w7) := Lib.hid (((((((B1.out).trans (B2.out.mono B1.out.size)).trans (B3.out.mono (by have := B1.out.size; have := B2.out.size; omega))).trans (B4.out.mono (by have := B1.out.size; have := B2.out.size; have := B3.out.size; omega))).trans (B5.out.mono (by have := B1.out.size; have := B2.out.size; have := B3.out.size; have := B4.out.size; omega))).trans (B6.out.mono (by have := B1.out.size; have := B2.out.size; have := B3.out.size; have := B4.out.size; have := B5.out.size; omega))).trans (hb7.mono (by have := B1.out.size; have := B2.out.size; have := B3.out.size; have := B4.out.size; have := B5.out.size; have := B6.out.size; omega)))
  have ORD : Hid (w.heap.size ≤ t1 ∧ t1 < f1 ∧ f1 < m1 ∧ m1 < t2 ∧ t2 < f2 ∧ f2 < m2 ∧ m2 < t3 ∧ t3 < f3 ∧ f3 < m3 ∧ m3 < t4 ∧ t4 < f4 ∧ f4 < m4 ∧ m4 < t5 ∧ t5 < f5 ∧ f5 < m5 ∧ m5 < t6 ∧ t6 < f6 ∧ f6 < m6 ∧ m6 < b1 ∧ b2 = b1 + 1 ∧ b3 = b2 + 1 ∧ b4 = b3 + 1 ∧ b5 = b4 + 1 ∧ b6 = b5 + 1 ∧ b6 < w7.heap.size) := Lib.hid (by have a1 := H1.out.ge; have c1 := H1.out.h1; have d1 := H1.out.h2; have e1 := H1.out.lt; have a2 := H2.out.ge; have c2 := H2.out.h1; have d2 := H2.out.h2; have e2 := H2.out.lt; have a3 := H3.out.ge; have c3 := H3.out.h1; have d3 := H3.out.h2; have e3 := H3.out.lt; have a4 := H4.out.ge; have c4 := H4.out.h1; have d4 := H4.out.h2; have e4 := H4.out.lt; have a5 := H5.out.ge; have c5 := H5.out.h1; have d5 := H5.out.h2; have e5 := H5.out.lt; have a6 := H6.out.ge; have c6 := H6.out.h1; have d6 := H6.out.h2; have e6 := H6.out.lt; omega)
  have D1 : Hid (DAt w7 b1 t1 f1 m1 255 0 0 [98] [109]) := Lib.hid ⟨x1, ((((((H1.out.below B2.out).below B3.out).below B4.out).below B5.out).below B6.out).below hb7).at_.var⟩
  have D2 : Hid (DAt w7 b2 t2 f2 m2 255 0 0 [98] [109]) := Lib.hid ⟨x2, (((((H2.out.below B3.out).below B4.out).below B5.out).below B6.out).below hb7).at_.var⟩
  have D3 : Hid (DAt w7 b3 t3 f3 m3 255 0 0 [98] [109]) := Lib.hid ⟨x3, ((((H3.out.below B4.out).below B5.out).below B6.out).below hb7).at_.var⟩
  have D4 : Hid (DAt w7 b4 t4 f4 m4 255 0 0 [98] [109]) := Lib.hid ⟨x4, (((H4.out.below B5.out).below B6.out).below hb7).at_.var⟩
  have D5 : Hid (DAt w7 b5 t5 f5 m5 255 0 0 [98] [109]) := Lib.hid ⟨x5, ((H5.out.below B6.out).below hb7).at_.var⟩
  have D6 : Hid (DAt w7 b6 t6 f6 m6 255 0 0 [98] [109]) := Lib.hid ⟨x6, (H6.out.below hb7).at_.var⟩
  have W7 := Lib.hid hw7
  have EB1 := Lib.hid eb1
  have EB2 := Lib.hid eb2
  have EB3 := Lib.hid eb3
  have EB4 := Lib.hid eb4
  have EB5 := Lib.hid eb5
  have EB6 := Lib.hid eb6
  clear hw7 x1 x2 x3 x4 x5 x6 hb7 hs7 eb1 eb2 eb3 eb4 eb5 eb6 H1 B1 H2 B2 H3 B3 H4 B4 H5 B5 H6 B6
  go_upto_region 2 with fail
  rw [W7.out, EB1.out, EB2.out, EB3.out, EB4.out, EB5.out, EB6.out]
  clear W7 EB1 EB2 EB3 EB4 EB5 EB6
  have q0 := D1.out.c2
  have q1 := D1.out.fr 2
  go_upto_region 3 with fail
  clear q0 q1
  obtain ⟨w8, hw8⟩ : ∃ x, w7.setCell ⟨b1, 2, none⟩ (.string ⟨#[120]⟩) = x := ⟨_, rfl⟩
  have hr := rest_set w7 b1 2 (.string ⟨#[120]⟩)
  have hd := D1.out.setSt [120] (by have := ORD.out; omega) (by have := ORD.out; omega) (by have := ORD.out; omega)
  replace hd : DAt (w7.setCell ⟨b1, 2, none⟩ (.string ⟨#[120]⟩)) b1 t1 f1 m1 255 0 0 [98] [120] := hd
  rw [hw8] at hr hd ⊢
  have E1 : Hid (DAt w8 b1 t1 f1 m1 255 0 0 [98] [120]) := Lib.hid hd
  have E2 : Hid (DAt w8 b2 t2 f2 m2 255 0 0 [98] [109]) := Lib.hid (D2.out.rest hr (by have := ORD.out; omega) (by have := ORD.out; omega) (by have := ORD.out; omega) (by have := ORD.out; omega))
  have E3 : Hid (DAt w8 b3 t3 f3 m3 255 0 0 [98] [109]) := Lib.hid (D3.out.rest hr (by have := ORD.out; omega) (by have := ORD.out; omega) (by have := ORD.out; omega) (by have := ORD.out; omega))
  have E4 : Hid (DAt w8 b4 t4 f4 m4 255 0 0 [98] [109]) := Lib.hid (D4.out.rest hr (by have := ORD.out; omega) (by have := ORD.out; omega) (by have := ORD.out; omega) (by have := ORD.out; omega))
  have E5 : Hid (DAt w8 b5 t5 f5 m5 255 0 0 [98] [109]) := Lib.hid (D5.out.rest hr (by have := ORD.out; omega) (by have := ORD.out; omega) (by have := ORD.out; omega) (by have := ORD.out; omega))
  have E6 : Hid (DAt w8 b6 t6 f6 m6 255 0 0 [98] [109]) := Lib.hid (D6.out.rest hr (by have := ORD.out; omega) (by have := ORD.out; omega) (by have := ORD.out; omega) (by have := ORD.out; omega))
  have SZ : Hid (b6 < w8.heap.size) := Lib.hid (Nat.lt_of_lt_of_le (by have := ORD.out; omega) hr.size)
  have BX : Hid (Below w.heap.size w w8) := Lib.hid (BW.out.trans (hr.toBelow w.heap.size (BW.out.size) (fun k hk e => by have := ORD.out; omega)))
  clear hr hd hw8 D1 D2 D3 D4 D5 D6 BW
  have D1 := E1; clear E1; have D2 := E2; clear E2; have D3 := E3; clear E3; have D4 := E4; clear E4; have D5 := E5; clear E5; have D6 := E6; clear E6; have BW := BX; clear BX
  have q0 := D2.out.var.f6
  have q1 := D2.out.var.ffr 6
  have q2 := D2.out.c1
  have q3 := D2.out.var.m1
  go_upto_region 4 with fail
  clear q0 q1 q2 q3
  obtain ⟨w9, hw9⟩ : ∃ x, w8.setCell ⟨f2, 6, none⟩ (.int .i64 256) = x := ⟨_, rfl⟩
  have hr := rest_set w8 f2 6 (.int .i64 256)
  have hd := D2.out.setF 6 (.int .i64 256) 256 0 0 [98] (by have := ORD.out; omega) (by have := ORD.out; omega) (by have := ORD.out; omega) rfl
  replace hd : DAt (w8.setCell ⟨f2, 6, none⟩ (.int .i64 256)) b2 t2 f2 m2 256 0 0 [98] [109] := hd
  rw [hw9] at hr hd ⊢
  have E1 : Hid (DAt w9 b1 t1 f1 m1 255 0 0 [98] [120]) := Lib.hid (D1.out.rest hr (by have := ORD.out; omega) (by have := ORD.out; omega) (by have := ORD.out; omega) (by have := ORD.out; omega))
  have E2 : Hid (DAt w9 b2 t2 f2 m2 256 0 0 [98] [109]) := Lib.hid hd
  have E3 : Hid (DAt w9 b3 t3 f3 m3 255 0 0 [98] [109]) := Lib.hid (D3.out.rest hr (by have := ORD.out; omega) (by have := ORD.out; omega) (by have := ORD.out; omega) (by have := ORD.out; omega))
  have E4 : Hid (DAt w9 b4 t4 f4 m4 255 0 0 [98] [109]) := Lib.hid (D4.out.rest hr (by have := ORD.out; omega) (by have := ORD.out; omega) (by have := ORD.out; omega) (by have := ORD.out; omega))
  have E5 : Hid (DAt w9 b5 t5 f5 m5 255 0 0 [98] [109]) := Lib.hid (D5.out.rest hr (by have := ORD.out; omega) (by have := ORD.out; omega) (by have := ORD.out; omega) (by have := ORD.out; omega))
  have E6 : Hid (DAt w9 b6 t6 f6 m6 255 0 0 [98] [109]) := Lib.hid (D6.out.rest hr (by have := ORD.out; omega) (by have := ORD.out; omega) (by have := ORD.out; omega) (by have := ORD.out; omega))
  have SZ : Hid (b6 < w9.heap.size) := Lib.hid (Nat.lt_of_lt_of_le (SZ.out) hr.size)
  have BX : Hid (Below w.heap.size w w9) := Lib.hid (BW.out.trans (hr.toBelow w.heap.size (BW.out.size) (fun k hk e => by have := ORD.out; omega)))
  clear hr hd hw9 D1 D2 D3 D4 D5 D6 BW
  have D1 := E1; clear E1; have D2 := E2; clear E2; have D3 := E3; clear E3; have D4 := E4; clear E4; have D5 := E5; clear E5; have D6 := E6; clear E6; have BW := BX; clear BX
  have q0 := D3.out.var.f22
  have q1 := D3.out.var.ffr 22
  have q2 := D3.out.c1
  have q3 := D3.out.var.m1
  go_upto_region 5 with fail
  clear q0 q1 q2 q3
  obtain ⟨w10, hw10⟩ : ∃ x, w9.setCell ⟨f3, 22, none⟩ (.int .i64 (-1)) = x := ⟨_, rfl⟩
  have hr := rest_set w9 f3 22 (.int .i64 (-1))
  have hd := D3.out.setF 22 (.int .i64 (-1)) 255 0 (-1) [98] (by have := ORD.out; omega) (by have := ORD.out; omega) (by have := ORD.out; omega) rfl
  replace hd : DAt (w9.setCell ⟨f3, 22, none⟩ (.int .i64 (-1))) b3 t3 f3 m3 255 0 (-1) [98] [109] := hd
  rw [hw10] at hr hd ⊢
  have E1 : Hid (DAt w10 b1 t1 f1 m1 255 0 0 [98] [120]) := Lib.hid (D1.out.rest hr (by have := ORD.out; omega) (by have := ORD.out; omega) (by have := ORD.out; omega) (by have := ORD.out; omega))
  have E2 : Hid (DAt w10 b2 t2 f2 m2 256 0 0 [98] [109]) := Lib.hid (D2.out.rest hr (by have := ORD.out; omega) (by have := ORD.out; omega) (by have := ORD.out; omega) (by have := ORD.out; omega))
  have E3 : Hid (DAt w10 b3 t3 f3 m3 255 0 (-1) [98] [109]) := Lib.hid hd
  have E4 : Hid (DAt w10 b4 t4 f4 m4 255 0 0 [98] [109]) := Lib.hid (D4.out.rest hr (by have := ORD.out; omega) (by have := ORD.out; omega) (by have := ORD.out; omega) (by have := ORD.out; omega))
  have E5 : Hid (DAt w10 b5 t5 f5 m5 255 0 0 [98] [109]) := Lib.hid (D5.out.rest hr (by have := ORD.out; omega) (by have := ORD.out; omega) (by have := ORD.out; omega) (by have := ORD.out; omega))
  have E6 : Hid (DAt w10 b6 t6 f6 m6 255 0 0 [98] [109]) := Lib.hid (D6.out.rest hr (by have := ORD.out; omega) (by have := ORD.out; omega) (by have := ORD.out; omega) (by have := ORD.out; omega))
  have SZ : Hid (b6 < w10.heap.size) := Lib.hid (Nat.lt_of_lt_of_le (SZ.out) hr.size)
  have BX : Hid (Below w.heap.size w w10) := Lib.hid (BW.out.trans (hr.toBelow w.heap.size (BW.out.size) (fun k hk e => by have := ORD.out; omega)))
  clear hr hd hw10 D1 D2 D3 D4 D5 D6 BW
  have D1 := E1; clear E1; have D2 := E2; clear E2; have D3 := E3; clear E3; have D4 := E4; clear E4; have D5 := E5; clear E5; have D6 := E6; clear E6; have BW := BX; clear BX
  have q0 := D4.out.var.f15
  have q1 := D4.out.var.ffr 15
  have q2 := D4.out.c1
  have q3 := D4.out.var.m1
  go_upto_region 6 with fail
  clear q0 q1 q2 q3
  obtain ⟨w11, hw11⟩ : ∃ x, w10.setCell ⟨f4, 15, none⟩ (.string ⟨#[110]⟩) = x := ⟨_, rfl⟩
  have hr := rest_set w10 f4 15 (.string ⟨#[110]⟩)
  have hd := D4.out.setF 15 (.string ⟨#[110]⟩) 255 0 0 [110] (by have := ORD.out; omega) (by have := ORD.out; omega) (by have := ORD.out; omega) rfl
  replace hd : DAt (w10.setCell ⟨f4, 15, none⟩ (.string ⟨#[110]⟩)) b4 t4 f4 m4 255 0 0 [110] [109] := hd
  rw [hw11] at hr hd ⊢
  have E1 : Hid (DAt w11 b1 t1 f1 m1 255 0 0 [98] [120]) := Lib.hid (D1.out.rest hr (by have := ORD.out; omega) (by have := ORD.out; omega) (by have := ORD.out; omega) (by have := ORD.out; omega))
  have E2 : Hid (DAt w11 b2 t2 f2 m2 256 0 0 [98] [109]) := Lib.hid (D2.out.rest hr (by have := ORD.out; omega) (by have := ORD.out; omega) (by have := ORD.out; omega) (by have := ORD.out; omega))
  have E3 : Hid (DAt w11 b3 t3 f3 m3 255 0 (-1) [98] [109]) := Lib.hid (D3.out.rest hr (by have := ORD.out; omega) (by have := ORD.out; omega) (by have := ORD.out; omega) (by have := ORD.out; omega))
  have E4 : Hid (DAt w11 b4 t4 f4 m4 255 0 0 [110] [109]) := Lib.hid hd
  have E5 : Hid (DAt w11 b5 t5 f5 m5 255 0 0 [98] [109]) := Lib.hid (D5.out.rest hr (by have := ORD.out; omega) (by have := ORD.out; omega) (by have := ORD.out; omega) (by have := ORD.out; omega))
  have E6 : Hid (DAt w11 b6 t6 f6 m6 255 0 0 [98] [109]) := Lib.hid (D6.out.rest hr (by have := ORD.out; omega) (by have := ORD.out; omega) (by have := ORD.out; omega) (by have := ORD.out; omega))
  have SZ : Hid (b6 < w11.heap.size) := Lib.hid (Nat.lt_of_lt_of_le (SZ.out) hr.size)
  have BX : Hid (Below w.heap.size w w11) := Lib.hid (BW.out.trans (hr.toBelow w.heap.size (BW.out.size) (fun k hk e => by have := ORD.out; omega)))
  clear hr hd hw11 D1 D2 D3 D4 D5 D6 BW
  have D1 := E1; clear E1; have D2 := E2; clear E2; have D3 := E3; clear E3; have D4 := E4; clear E4; have D5 := E5; clear E5; have D6 := E6; clear E6; have BW := BX; clear BX
  have q0 := D5.out.var.f17
  have q1 := D5.out.var.ffr 17
  have q2 := D5.out.c1
  have q3 := D5.out.var.m1
  go_upto_region 7 with fail
  clear q0 q1 q2 q3
  obtain ⟨w12, hw12⟩ : ∃ x, w11.setCell ⟨f5, 17, none⟩ (.int .i64 8) = x := ⟨_, rfl⟩
  have hr := rest_set w11 f5 17 (.int .i64 8)
  have hd := D5.out.setF 17 (.int .i64 8) 255 8 0 [98] (by have := ORD.out; omega) (by have := ORD.out; omega) (by have := ORD.out; omega) rfl
  replace hd : DAt (w11.setCell ⟨f5, 17, none⟩ (.int .i64 8)) b5 t5 f5 m5 255 8 0 [98] [109] := hd
  rw [hw12] at hr hd ⊢
  have E1 : Hid (DAt w12 b1 t1 f1 m1 255 0 0 [98] [120]) := Lib.hid (D1.out.rest hr (by have := ORD.out; omega) (by have := ORD.out; omega) (by have := ORD.out; omega) (by have := ORD.out; omega))
  have E2 : Hid (DAt w12 b2 t2 f2 m2 256 0 0 [98] [109]) := Lib.hid (D2.out.rest hr (by have := ORD.out; omega) (by have := ORD.out; omega) (by have := ORD.out; omega) (by have := ORD.out; omega))
  have E3 : Hid (DAt w12 b3 t3 f3 m3 255 0 (-1) [98] [109]) := Lib.hid (D3.out.rest hr (by have := ORD.out; omega) (by have := ORD.out; omega) (by have := ORD.out; omega) (by have := ORD.out; omega))
  have E4 : Hid (DAt w12 b4 t4 f4 m4 255 0 0 [110] [109]) := Lib.hid (D4.out.rest hr (by have := ORD.out; omega) (by have := ORD.out; omega) (by have := ORD.out; omega) (by have := ORD.out; omega))
  have E5 : Hid (DAt w12 b5 t5 f5 m5 255 8 0 [98] [109]) := Lib.hid hd
  have E6 : Hid (DAt w12 b6 t6 f6 m6 255 0 0 [98] [109]) := Lib.hid (D6.out.rest hr (by have := ORD.out; omega) (by have := ORD.out; omega) (by have := ORD.out; omega) (by have := ORD.out; omega))
  have SZ : Hid (b6 < w12.heap.size) := Lib.hid (Nat.lt_of_lt_of_le (SZ.out) hr.size)
  have BX : Hid (Below w.heap.size w w12) := Lib.hid (BW.out.trans (hr.toBelow w.heap.size (BW.out.size) (fun k hk e => by have := ORD.out; omega)))
  clear hr hd hw12 D1 D2 D3 D4 D5 D6 BW
  have D1 := E1; clear E1; have D2 := E2; clear E2; have D3 := E3; clear E3; have D4 := E4; clear E4; have D5 := E5; clear E5; have D6 := E6; clear E6; have BW := BX; clear BX
  have OWN : Hid (w12.ownsRow w.heap.size 55 15 (.slice (some ⟨f6, 0, none⟩) 2 2) 2 ((dN 255).cells ++ (dB t6 [98] 0 0).cells)) := Lib.hid ⟨rfl, .inr ⟨f6, 2, _, rfl, by have := ORD.out; omega, D6.out.var.fd, Nat.le_refl _, by decide, rfl, rfl⟩⟩
  have LT : Hid (b6 < w12.heap.size ∧ m6 < w12.heap.size ∧ f6 < w12.heap.size) := Lib.hid (by have := SZ.out; have := ORD.out; omega)
  have NE : Hid (¬ some m6 = Value.ownBlock (.slice (some ⟨f6, 0, none⟩) 2 2) ∧ ¬ some b6 = Value.ownBlock (.slice (some ⟨f6, 0, none⟩) 2 2)) := Lib.hid (by have := ORD.out; simp [Value.ownBlock]; omega)
  have KS : Hid (∀ w' : World, w'.heap[b6]? = w12.heap[b6]? → w'.heap[m6]? = w12.heap[m6]? → w'.cell? ⟨b6, 1, none⟩ = some (.slice (some ⟨m6, 0, none⟩) 1 1) ∧ w'.cell? ⟨m6, 1, none⟩ = some (.slice (some ⟨f6, 0, none⟩) 2 2)) := Lib.hid (fun w' h1 h2 => ⟨by simp [World.cell?, h1, D6.out.bx], by simp [World.cell?, h2, D6.out.var.ms]⟩)
  have q0 := D6.out.c1
  have q1 := D6.out.var.m1
  have q2 := D6.out.var.mfr 1
  have n0 : ∀ o, (w12.alloc o).cell? ⟨b6, 1, none⟩ = some (.slice (some ⟨m6, 0, none⟩) 1 1) := fun o => ((below_alloc w12 o).cell (p := ⟨b6, 1, none⟩) LT.out.1).trans q0
  have n1 : ∀ o, (w12.alloc o).cell? ⟨m6, 1, none⟩ = some (.slice (some ⟨f6, 0, none⟩) 2 2) := fun o => ((below_alloc w12 o).cell (p := ⟨m6, 1, none⟩) LT.out.2.1).trans q1
  go_wp2_with fail
  go_cut [] from 48 (fun wx => ∃ gg cap, Grew w w12 wx t6 f6 m6 gg cap)
  case first =>
    refine wp_region_held_drew (S := fun w' => w'.cell? ⟨b6, 1, none⟩ = some (.slice (some ⟨m6, 0, none⟩) 1 1)) (by kernel_rfl) q0 (fun hHeld => ?_)
    refine wpAnyH_take (i := 0) (oi := _) (v := ?_) rfl (by kernel_rfl) (by kernel_rfl) (by kernel_rfl) (fun _ _ _ h => h) (Or.inl ⟨by rfl, ?_⟩) (by assumption) ?_
    rotate_left
    · (intro wq hSw; (try dsimp only at hSw); go_simp; try with_reducible rfl)
    try simp only [Act.put, List.setIfInBounds_toArray, List.set_cons_zero, List.set_cons_succ]
    refine wpAnyH_take (i := 1) (oi := _) (v := ?_) rfl (by kernel_rfl) (by kernel_rfl) (by kernel_rfl) (fun _ _ _ h => h) (Or.inl ⟨by rfl, ?_⟩) (by assumption) ?_
    rotate_left
    · (intro wq hSw; (try dsimp only at hSw); go_simp; try with_reducible rfl)
    try simp only [Act.put, List.setIfInBounds_toArray, List.set_cons_zero, List.set_cons_succ]
    refine wpAnyH_take (i := 2) (oi := _) (v := ?_) rfl (by kernel_rfl) (by kernel_rfl) (by kernel_rfl) (fun _ _ _ h => h) (Or.inl ⟨by rfl, ?_⟩) (by assumption) ?_
    rotate_left
    · (intro wq hSw; (try dsimp only at hSw); go_simp; try with_reducible rfl)
    try simp only [Act.put, List.setIfInBounds_toArray, List.set_cons_zero, List.set_cons_succ]
    refine wpAnyH_take (i := 3) (oi := _) (v := ?_) rfl (by kernel_rfl) (by kernel_rfl) (by kernel_rfl) (fun _ _ _ h => h) (Or.inl ⟨by rfl, ?_⟩) (by assumption) ?_
    rotate_left
    · (intro wq hSw; (try dsimp only at hSw); go_simp; try with_reducible rfl)
    try simp only [Act.put, List.setIfInBounds_toArray, List.set_cons_zero, List.set_cons_succ]
    refine wpAnyH_take (i := 4) (oi := _) (v := ?_) rfl (by kernel_rfl) (by kernel_rfl) (by kernel_rfl) (fun _ _ _ h => h) (Or.inl ⟨by rfl, ?_⟩) (by assumption) ?_
    rotate_left
    · (intro wq hSw; (try dsimp only at hSw); go_simp; try with_reducible rfl)
    try simp only [Act.put, List.setIfInBounds_toArray, List.set_cons_zero, List.set_cons_succ]
    refine wpAnyH_take (i := 5) (oi := _) (v := ?_) rfl (by kernel_rfl) (by kernel_rfl) (by kernel_rfl) (fun _ _ _ h => h) (Or.inl ⟨by rfl, ?_⟩) (by assumption) ?_
    rotate_left
    · (intro wq hSw; (try dsimp only at hSw); go_simp; try with_reducible rfl)
    try simp only [Act.put, List.setIfInBounds_toArray, List.set_cons_zero, List.set_cons_succ]
    refine wpAnyH_take (i := 7) (oi := _) (v := ?_) rfl (by kernel_rfl) (by kernel_rfl) (by kernel_rfl) (fun _ _ _ h => h) (Or.inl ⟨by rfl, ?_⟩) (by assumption) ?_
    rotate_left
    · (intro wq hSw; (try dsimp only at hSw); go_simp; try with_reducible rfl)
    try simp only [Act.put, List.setIfInBounds_toArray, List.set_cons_zero, List.set_cons_succ]
    refine wpAnyH_ready (rs := [6, 8]) (by kernel_rfl) (by simp) (AllReadyH.cons rfl (fun K hK => ?_) (AllReadyH.cons rfl (fun K hK => ?_) AllReadyH.nil))
    · go_simp
      refine hK.out _ _ q0 (fun hHeld => ?_)
      clear hK K
      refine wpAnyH_ready (rs := [8]) (by kernel_rfl) (by simp) (AllReadyH.cons rfl (fun K hK => ?_) AllReadyH.nil)
      go_simp
      refine hK.out _ _ (n0 _) (fun hHeld => ?_)
      clear hK K
      refine wpAnyH_ready (rs := [9]) (by kernel_rfl) (by simp) (AllReadyH.cons rfl (fun K hK => ?_) AllReadyH.nil)
      refine step_append_lies _ (by rfl) _ _ _ (by rfl) w.heap.size 55 i0 _ 15 176 Tryz.underlying34 INF.out.1 INF.out.2.1 INF.out.2.2.1 INF.out.2.2.2 rfl (by omega) (.slice (some ⟨f6, 0, none⟩) 2 2) 2 _ (by rfl) ((OWN.out.alloc _).drew) ⟨w12.heap.size, 0, none⟩ 1 1 dL.cells (by rfl) (by rfl) (World.news_of_block (cs := dL.cells.toArray) (t := 55) (fr := (0, 0)) (heap_alloc_new w12 _)) (by simp [dL, FieldD.cells, Value.oneCell']) (by omega) (by decide) (by decide) (by have := BW.out.size; simp; omega) (w12.heap.size + 1) (by simp) ?_; intro gg cap w13 hown1 hgrow hat hlt; have hgm := (hgrow.block m6 (by have := LT.out; simp; omega) NE.out.1).trans (Below.heap_alloc w12 _ m6 LT.out.2.1); have fz : w13.frozen? ⟨m6, 1, none⟩ = false := (World.frozen?_of_block (w := w12) hgm).trans (D6.out.var.mfr 1); have vz : w13.cell? ⟨m6, 1, none⟩ = some (.slice (some ⟨f6, 0, none⟩) 2 2) := (World.cell?_of_block (w := w12) hgm).trans D6.out.var.m1; have vb : w13.cell? ⟨b6, 1, none⟩ = some (.slice (some ⟨m6, 0, none⟩) 1 1) := (World.cell?_of_block (w := w12) ((hgrow.block b6 (by have := LT.out; simp; omega) NE.out.2).trans (Below.heap_alloc w12 _ b6 LT.out.1))).trans D6.out.c1; have hb13 : b6 < w13.heap.size := World.block_lt_of_cell? _ _ vb; have HX := Lib.hid (And.intro hown1 (And.intro hgrow (And.intro hat hgm))); clear hown1 hgrow hat hlt hgm
      refine hK.out _ _ (vb) (fun hHeld => ?_)
      clear hK K
      refine wpAnyH_take (i := 10) (oi := _) (v := ?_) rfl (by kernel_rfl) (by kernel_rfl) (by kernel_rfl) (fun _ _ _ h => h) (Or.inl ⟨by rfl, ?_⟩) (by assumption) ?_
      rotate_left
      · (intro wq hSw; (try dsimp only at hSw); go_simp; try with_reducible rfl)
      try simp only [Act.put, List.setIfInBounds_toArray, List.set_cons_zero, List.set_cons_succ]
      refine wpAnyH_take (i := 11) (oi := _) (v := ?_) rfl (by kernel_rfl) (by kernel_rfl) (by kernel_rfl) (fun _ _ _ h => h) (Or.inl ⟨by rfl, ?_⟩) (by assumption) ?_
      rotate_left
      · (intro wq hSw; (try dsimp only at hSw); go_simp; try with_reducible rfl)
      try simp only [Act.put, List.setIfInBounds_toArray, List.set_cons_zero, List.set_cons_succ]
      refine wpAnyH_ready (rs := [12]) (by kernel_rfl) (by simp) (AllReadyH.cons rfl (fun K hK => ?_) AllReadyH.nil)
      go_simp
      refine hK.out _ _ (((rest_set w13 m6 1 _).cell (p := ⟨b6, 1, none⟩) hb13 (by have := ORD.out; show ¬ b6 = m6; omega)).trans vb) (fun hHeld => ?_)
      clear hK K
      refine wpAnyH_done (by kernel_rfl) ?_ _
      clear q0 q1 q2 n0 n1 fz vz vb hb13
      go_wp2
      go_meet
      case rel => exact ⟨gg, cap, Grew.mk_ D6.out.var HX.out.1 HX.out.2.1 HX.out.2.2.1 HX.out.2.2.2 (by have := ORD.out; omega) BW.out.size⟩
    · go_simp
      refine hK.out _ _ (n0 _) (fun hHeld => ?_)
      clear hK K
      refine wpAnyH_ready (rs := [6]) (by kernel_rfl) (by simp) (AllReadyH.cons rfl (fun K hK => ?_) AllReadyH.nil)
      go_simp
      refine hK.out _ _ (n0 _) (fun hHeld => ?_)
      clear hK K
      refine wpAnyH_ready (rs := [9]) (by kernel_rfl) (by simp) (AllReadyH.cons rfl (fun K hK => ?_) AllReadyH.nil)
      refine step_append_lies _ (by rfl) _ _ _ (by rfl) w.heap.size 55 i0 _ 15 176 Tryz.underlying34 INF.out.1 INF.out.2.1 INF.out.2.2.1 INF.out.2.2.2 rfl (by omega) (.slice (some ⟨f6, 0, none⟩) 2 2) 2 _ (by rfl) ((OWN.out.alloc _).drew) ⟨w12.heap.size, 0, none⟩ 1 1 dL.cells (by rfl) (by rfl) (World.news_of_block (cs := dL.cells.toArray) (t := 55) (fr := (0, 0)) (heap_alloc_new w12 _)) (by simp [dL, FieldD.cells, Value.oneCell']) (by omega) (by decide) (by decide) (by have := BW.out.size; simp; omega) (w12.heap.size + 1) (by simp) ?_; intro gg cap w13 hown1 hgrow hat hlt; have hgm := (hgrow.block m6 (by have := LT.out; simp; omega) NE.out.1).trans (Below.heap_alloc w12 _ m6 LT.out.2.1); have fz : w13.frozen? ⟨m6, 1, none⟩ = false := (World.frozen?_of_block (w := w12) hgm).trans (D6.out.var.mfr 1); have vz : w13.cell? ⟨m6, 1, none⟩ = some (.slice (some ⟨f6, 0, none⟩) 2 2) := (World.cell?_of_block (w := w12) hgm).trans D6.out.var.m1; have vb : w13.cell? ⟨b6, 1, none⟩ = some (.slice (some ⟨m6, 0, none⟩) 1 1) := (World.cell?_of_block (w := w12) ((hgrow.block b6 (by have := LT.out; simp; omega) NE.out.2).trans (Below.heap_alloc w12 _ b6 LT.out.1))).trans D6.out.c1; have hb13 : b6 < w13.heap.size := World.block_lt_of_cell? _ _ vb; have HX := Lib.hid (And.intro hown1 (And.intro hgrow (And.intro hat hgm))); clear hown1 hgrow hat hlt hgm
      refine hK.out _ _ (vb) (fun hHeld => ?_)
      clear hK K
      refine wpAnyH_take (i := 10) (oi := _) (v := ?_) rfl (by kernel_rfl) (by kernel_rfl) (by kernel_rfl) (fun _ _ _ h => h) (Or.inl ⟨by rfl, ?_⟩) (by assumption) ?_
      rotate_left
      · (intro wq hSw; (try dsimp only at hSw); go_simp; try with_reducible rfl)
      try simp only [Act.put, List.setIfInBounds_toArray, List.set_cons_zero, List.set_cons_succ]
      refine wpAnyH_take (i := 11) (oi := _) (v := ?_) rfl (by kernel_rfl) (by kernel_rfl) (by kernel_rfl) (fun _ _ _ h => h) (Or.inl ⟨by rfl, ?_⟩) (by assumption) ?_
      rotate_left
      · (intro wq hSw; (try dsimp only at hSw); go_simp; try with_reducible rfl)
      try simp only [Act.put, List.setIfInBounds_toArray, List.set_cons_zero, List.set_cons_succ]
      refine wpAnyH_ready (rs := [12]) (by kernel_rfl) (by simp) (AllReadyH.cons rfl (fun K hK => ?_) AllReadyH.nil)
      go_simp
      refine hK.out _ _ (((rest_set w13 m6 1 _).cell (p := ⟨b6, 1, none⟩) hb13 (by have := ORD.out; show ¬ b6 = m6; omega)).trans vb) (fun hHeld => ?_)
      clear hK K
      refine wpAnyH_done (by kernel_rfl) ?_ _
      clear q0 q1 q2 n0 n1 fz vz vb hb13
      go_wp2
      go_meet
      case rel => exact ⟨gg, cap, Grew.mk_ D6.out.var HX.out.1 HX.out.2.1 HX.out.2.2.1 HX.out.2.2.2 (by have := ORD.out; omega) BW.out.size⟩
  case rest =>
    obtain ⟨gg, cap, hG⟩ := hcut
    clear q0 q1 q2 n0 n1
    have hbc : Below w.heap.size w wc := BW.out.trans (hG.rest.toBelow w.heap.size BW.out.size (fun k hk e => by have := ORD.out; omega))
    have BWC := Lib.hid hbc
    have E1 := Lib.hid (D1.out.rest hG.rest (by have := ORD.out; omega) (by have := ORD.out; omega) (by have := ORD.out; omega) (by have := ORD.out; omega))
    have E2 := Lib.hid (D2.out.rest hG.rest (by have := ORD.out; omega) (by have := ORD.out; omega) (by have := ORD.out; omega) (by have := ORD.out; omega))
    have E3 := Lib.hid (D3.out.rest hG.rest (by have := ORD.out; omega) (by have := ORD.out; omega) (by have := ORD.out; omega) (by have := ORD.out; omega))
    have E4 := Lib.hid (D4.out.rest hG.rest (by have := ORD.out; omega) (by have := ORD.out; omega) (by have := ORD.out; omega) (by have := ORD.out; omega))
    have E5 := Lib.hid (D5.out.rest hG.rest (by have := ORD.out; omega) (by have := ORD.out; omega) (by have := ORD.out; omega) (by have := ORD.out; omega))
    have X6 := Lib.hid ((hG.rest.block b6 LT.out.1 (by have := ORD.out; omega)).trans D6.out.bx)
    have T6 := Lib.hid ((hG.rest.block t6 (by have := LT.out; have := ORD.out; omega) (by have := ORD.out; omega)).trans D6.out.var.tm)
    have G6 := Lib.hid hG
    have F1 : ∀ wx, Below wc.heap.size wc wx → Hid (Calls Tryz.prog 38 #[.agg #[.string (strL [100]), .slice (some ⟨m1, 0, none⟩) 1 1, .string (strL [120])], .int .i64 (-1), .int .i64 (-1), .int .i64 11] wx fun e w' => e = .returned (.bool true) ∧ Below wx.heap.size wx w') := fun wx hb => Lib.hid (flawed_at [100] [120] _ 1 1 (-1) (-1) 11 _ wx (fun wy hy => by
      have := examine_var [120] (E1.out.below (hb.trans (hy.mono hb.size))).var valid_ba0 (fun _ => allow_255) (spB_ok t1 [98] 0) fieldN_ok (fieldB_ok t1)
      rw [twoR_start] at this
      exact this))
    have K1 : Hid (∀ wx, Below wc.heap.size wc wx → wx.cell? ⟨b1, 0, none⟩ = some (.string (strL [100])) ∧ wx.cell? ⟨b1, 1, none⟩ = some (.slice (some ⟨m1, 0, none⟩) 1 1) ∧ wx.cell? ⟨b1, 2, none⟩ = some (.string (strL [120]))) := Lib.hid (fun wx hb => by have h := E1.out.below hb; exact ⟨h.c0, h.c1, h.c2⟩)
    have F2 : ∀ wx, Below wc.heap.size wc wx → Hid (Calls Tryz.prog 38 #[.agg #[.string (strL [100]), .slice (some ⟨m2, 0, none⟩) 1 1, .string (strL [109])], .int .i64 0, .int .i64 0, .int .i64 7] wx fun e w' => e = .returned (.bool true) ∧ Below wx.heap.size wx w') := fun wx hb => Lib.hid (flawed_at [100] [109] _ 1 1 0 0 7 _ wx (fun wy hy => by
      have := examine_var [109] (E2.out.below (hb.trans (hy.mono hb.size))).var valid_ba0 (fun h => by cases h) (spB_ok t2 [98] 0) fieldN_bad rfl
      rw [twoR_at0] at this
      exact this))
    have K2 : Hid (∀ wx, Below wc.heap.size wc wx → wx.cell? ⟨b2, 0, none⟩ = some (.string (strL [100])) ∧ wx.cell? ⟨b2, 1, none⟩ = some (.slice (some ⟨m2, 0, none⟩) 1 1) ∧ wx.cell? ⟨b2, 2, none⟩ = some (.string (strL [109]))) := Lib.hid (fun wx hb => by have h := E2.out.below hb; exact ⟨h.c0, h.c1, h.c2⟩)
    have F3 : ∀ wx, Below wc.heap.size wc wx → Hid (Calls Tryz.prog 38 #[.agg #[.string (strL [100]), .slice (some ⟨m3, 0, none⟩) 1 1, .string (strL [109])], .int .i64 0, .int .i64 1, .int .i64 9] wx fun e w' => e = .returned (.bool true) ∧ Below wx.heap.size wx w') := fun wx hb => Lib.hid (flawed_at [100] [109] _ 1 1 0 1 9 _ wx (fun wy hy => by
      have := examine_var [109] (E3.out.below (hb.trans (hy.mono hb.size))).var valid_ba1 (fun _ => allow_255) (spB_ok t3 [98] (-1)) fieldN_ok (fieldB_base t3)
      rw [twoR_at1] at this
      exact this))
    have K3 : Hid (∀ wx, Below wc.heap.size wc wx → wx.cell? ⟨b3, 0, none⟩ = some (.string (strL [100])) ∧ wx.cell? ⟨b3, 1, none⟩ = some (.slice (some ⟨m3, 0, none⟩) 1 1) ∧ wx.cell? ⟨b3, 2, none⟩ = some (.string (strL [109]))) := Lib.hid (fun wx hb => by have h := E3.out.below hb; exact ⟨h.c0, h.c1, h.c2⟩)
    have F4 : ∀ wx, Below wc.heap.size wc wx → Hid (Calls Tryz.prog 38 #[.agg #[.string (strL [100]), .slice (some ⟨m4, 0, none⟩) 1 1, .string (strL [109])], .int .i64 0, .int .i64 1, .int .i64 2] wx fun e w' => e = .returned (.bool true) ∧ Below wx.heap.size wx w') := fun wx hb => Lib.hid (flawed_at [100] [109] _ 1 1 0 1 2 _ wx (fun wy hy => by
      have := examine_var [109] (E4.out.below (hb.trans (hy.mono hb.size))).var valid_ba0 (fun _ => allow_255) (spB_ok t4 [110] 0) fieldN_ok (fieldB_twice t4)
      rw [twoR_at1] at this
      exact this))
    have K4 : Hid (∀ wx, Below wc.heap.size wc wx → wx.cell? ⟨b4, 0, none⟩ = some (.string (strL [100])) ∧ wx.cell? ⟨b4, 1, none⟩ = some (.slice (some ⟨m4, 0, none⟩) 1 1) ∧ wx.cell? ⟨b4, 2, none⟩ = some (.string (strL [109]))) := Lib.hid (fun wx hb => by have h := E4.out.below hb; exact ⟨h.c0, h.c1, h.c2⟩)
    have F5 : ∀ wx, Below wc.heap.size wc wx → Hid (Calls Tryz.prog 38 #[.agg #[.string (strL [100]), .slice (some ⟨m5, 0, none⟩) 1 1, .string (strL [109])], .int .i64 0, .int .i64 1, .int .i64 5] wx fun e w' => e = .returned (.bool true) ∧ Below wx.heap.size wx w') := fun wx hb => Lib.hid (flawed_at [100] [109] _ 1 1 0 1 5 _ wx (fun wy hy => by
      have := examine_var [109] (E5.out.below (hb.trans (hy.mono hb.size))).var valid_ba0 (fun _ => allow_255) (spB_bad t5 [98] 0) fieldN_ok (fieldB_bits t5)
      rw [twoR_at1] at this
      exact this))
    have K5 : Hid (∀ wx, Below wc.heap.size wc wx → wx.cell? ⟨b5, 0, none⟩ = some (.string (strL [100])) ∧ wx.cell? ⟨b5, 1, none⟩ = some (.slice (some ⟨m5, 0, none⟩) 1 1) ∧ wx.cell? ⟨b5, 2, none⟩ = some (.string (strL [109]))) := Lib.hid (fun wx hb => by have h := E5.out.below hb; exact ⟨h.c0, h.c1, h.c2⟩)
    have F6 : ∀ wx, Below wc.heap.size wc wx → Hid (Calls Tryz.prog 38 #[.agg #[.string (strL [100]), .slice (some ⟨m6, 0, none⟩) 1 1, .string (strL [109])], .int .i64 0, .int .i64 2, .int .i64 8] wx fun e w' => e = .returned (.bool true) ∧ Below wx.heap.size wx w') := fun wx hb => Lib.hid (flawed_at [100] [109] _ 1 1 0 2 8 _ wx (fun wy hy => by
      have hby := hb.trans (hy.mono hb.size)
      have hl : wc.heap.size ≤ wy.heap.size := hby.size
      have hm := (Array.getElem?_eq_some_iff.1 G6.out.ms).1
      have ht := (Array.getElem?_eq_some_iff.1 T6.out).1
      have hrow := (Rest.below (S := fun _ => False) hby).row G6.out.row (fun _ _ e => e)
      have hg : gg < wc.heap.size := by
        rcases G6.out.row.2 with ⟨e, _⟩ | ⟨g, c, cu, e, _, hg, _⟩
        · cases e
        · simp only [Value.slice.injEq, Option.some.injEq, Addr.mk.injEq] at e
          obtain ⟨⟨rfl, _⟩, _⟩ := e
          exact (Array.getElem?_eq_some_iff.1 hg).1
      exact examine_three [109] t6 m6 cap (some ⟨gg, 0, none⟩) wy (slAt_msgG (D := threeD t6) _ (by show ¬ wy.heap.size ≤ m6; omega) ((hby.block m6 hm).trans G6.out.ms)) (slAt_three _ (by show ¬ wy.heap.size ≤ gg; omega) hrow) (slAt_term _ (by show ¬ wy.heap.size ≤ t6; omega) ((hby.block t6 ht).trans T6.out))))
    have K6 : Hid (∀ wx, Below wc.heap.size wc wx → wx.cell? ⟨b6, 0, none⟩ = some (.string (strL [100])) ∧ wx.cell? ⟨b6, 1, none⟩ = some (.slice (some ⟨m6, 0, none⟩) 1 1) ∧ wx.cell? ⟨b6, 2, none⟩ = some (.string (strL [109]))) := Lib.hid (fun wx hb => by
      have h := (hb.block b6 (Array.getElem?_eq_some_iff.1 X6.out).1).trans X6.out
      exact ⟨by simp [World.cell?, h, strL], by simp [World.cell?, h], by simp [World.cell?, h]⟩)
    clear hG hbc D1 D2 D3 D4 D5 D6 E1 E2 E3 E4 E5 X6 T6 G6 KS NE LT OWN SZ BW INF
    go_wp2_with fail
    refine (two_some wc).mono ?_
    rintro e v0 ⟨ta, fa, ma, rfl, ha, hb⟩
    have HA := Lib.hid ha
    have V0 := Lib.hid hb
    clear ha hb
    go_wp2_with fail
    refine (valid_two HA.out.at_.var).mono ?_
    rintro e v1 ⟨rfl, hb⟩
    have V1 := Lib.hid (V0.out.trans (hb.mono V0.out.size))
    clear hb HA V0
    obtain ⟨z0, z1, z2⟩ := K1.out v1 V1.out
    go_wp2_with fail
    refine ((F1 _ V1.out).out).mono ?_
    rintro e v2 ⟨rfl, hb⟩
    have V2 := Lib.hid (V1.out.trans (hb.mono V1.out.size))
    clear hb z0 z1 z2 V1
    obtain ⟨z0, z1, z2⟩ := K2.out v2 V2.out
    go_wp2_with fail
    refine ((F2 _ V2.out).out).mono ?_
    rintro e v3 ⟨rfl, hb⟩
    have V3 := Lib.hid (V2.out.trans (hb.mono V2.out.size))
    clear hb z0 z1 z2 V2
    obtain ⟨z0, z1, z2⟩ := K3.out v3 V3.out
    go_wp2_with fail
    refine ((F3 _ V3.out).out).mono ?_
    rintro e v4 ⟨rfl, hb⟩
    have V4 := Lib.hid (V3.out.trans (hb.mono V3.out.size))
    clear hb z0 z1 z2 V3
    obtain ⟨z0, z1, z2⟩ := K4.out v4 V4.out
    go_wp2_with fail
    refine ((F4 _ V4.out).out).mono ?_
    rintro e v5 ⟨rfl, hb⟩
    have V5 := Lib.hid (V4.out.trans (hb.mono V4.out.size))
    clear hb z0 z1 z2 V4
    obtain ⟨z0, z1, z2⟩ := K5.out v5 V5.out
    go_wp2_with fail
    refine ((F5 _ V5.out).out).mono ?_
    rintro e v6 ⟨rfl, hb⟩
    have V6 := Lib.hid (V5.out.trans (hb.mono V5.out.size))
    clear hb z0 z1 z2 V5
    obtain ⟨z0, z1, z2⟩ := K6.out v6 V6.out
    go_wp2_with fail
    refine ((F6 _ V6.out).out).mono ?_
    rintro e v7 ⟨rfl, hb⟩
    have V7 := Lib.hid (V6.out.trans (hb.mono V6.out.size))
    clear hb z0 z1 z2 V6
    have U0 := Lib.hid (BWC.out.trans (V7.out.mono BWC.out.size))
    clear V7 BWC F1 F2 F3 F4 F5 F6 K1 K2 K3 K4 K5 K6 ORD
    go_wp2_with fail
    refine (two_some v7).mono ?_
    rintro e u1 ⟨ta, fa, ma, rfl, ha, hb⟩
    have HA := Lib.hid ha
    have U1 := Lib.hid (U0.out.trans (hb.mono U0.out.size))
    clear ha hb U0
    go_wp2_with fail
    refine (depth_two 0 1 0 true HA.out.at_.var (natIn_two0 _ _ _)).mono ?_
    rintro e u2 ⟨rfl, hb⟩
    have U2 := Lib.hid (U1.out.trans (hb.mono U1.out.size))
    clear hb HA U1
    go_wp2_with fail
    refine (two_some u2).mono ?_
    rintro e u3 ⟨tc, fc, mc, rfl, ha, hb⟩
    have HA := Lib.hid ha
    have U3 := Lib.hid (U2.out.trans (hb.mono U2.out.size))
    clear ha hb U2
    go_wp2_with fail
    refine (depth_two 1 0 3 false HA.out.at_.var (natIn_two1 _ _ _)).mono ?_
    rintro e u4 ⟨rfl, hb⟩
    have U4 := Lib.hid (U3.out.trans (hb.mono U3.out.size))
    clear hb HA U3
    go_wp2_with fail
    refine (two_some u4).mono ?_
    rintro e u5 ⟨td, fd, md, rfl, ha, hb⟩
    have HA := Lib.hid ha
    have U5 := Lib.hid (U4.out.trans (hb.mono U4.out.size))
    clear ha hb U4
    have y0 := HA.out.at_.var.m0
    have y1 := HA.out.at_.var.m1
    have hfd := Tryz.fieldDef1 ⟨#[100]⟩ ⟨#[109]⟩ (some ⟨md, 0, none⟩) 1 1 u5
    go_wp2_with fail
    refine (ranges_two HA.out.at_.var).mono ?_
    rintro e u6 ⟨r, rfl, _, hm, hb⟩
    have U6 := Lib.hid (U5.out.trans (hb.mono U5.out.size))
    clear hb HA U5 y0 y1 hfd
    have hlen : (Builtin.len_ #[77] 3 #[.map (some r)]).run Tryz.prog u6 = .ok (.int .i64 1) u6 := run_lenE Tryz.underlying77 hm
    have hlook : (Instr.lookup 77 (.map (some r)) (.string ⟨#[110]⟩) false).run Tryz.prog u6 = .ok (.agg #[.int .i64 0, .int .i64 255]) u6 := run_look Tryz.underlying77 Tryz.ustr (Tryz.zeroRan u6) hm [110]
    clear hm
    go_wp2_with fail
    refine (hasvalue_any padD u6).mono ?_
    rintro e u7 ⟨he, hb⟩
    rw [hasv_pad] at he
    subst he
    have U7 := Lib.hid (U6.out.trans (hb.mono U6.out.size))
    clear hb U6 hlen hlook
    go_wp2_with fail
    go_ret
    exact ⟨rfl, U7.out⟩
end Go.Proofs.YtbpkppmbbpoohaaGreat
