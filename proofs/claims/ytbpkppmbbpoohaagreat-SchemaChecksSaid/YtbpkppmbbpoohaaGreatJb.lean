/- A field in an examination, the conditions of its kind given. Conditions: the examination, the fields before and the kinds lie in memory. Fields without what their kinds use: kinds 2, 3, 5. No conditions. Fields without what their kinds use: kinds 6, 8, 9. No conditions. Fields without what their kinds use: kinds 10, 11, 12. No conditions. Fields without what their kinds use: kinds that do not exist. No conditions. -/
import Derived.Test.YtbpkppmbbpoohaaGreatJa
import Derived.Test.YtbpkppmbbpoohaaGreatIc
namespace Go.Proofs.YtbpkppmbbpoohaaGreat
open Go.RowKit Go.Shelf

def fieldR (B : List FieldD) (d : FieldD) (SP : Bool) (R : Option Int) : Option Int := orR (ifR (nameB d.name) 1) (orR (ifR (!(B.any (fun e => e.name == d.name))) 2) (orR (ifR (!SP) 5) R))

set_option maxRecDepth 100000 in
set_option maxHeartbeats 6400000 in
theorem field_any (x kr kk c : Nat) (m f : Int) (A : Option Addr) (B : List FieldD) (d : FieldD) (S : Nat → Prop) (w : World) (hx : ExAt w x m f kr A B.length c kk) (hB : SlAt FieldD.cells 15 S w A c B) (hk : MapI w kk (condE (.pointer (some ⟨x, 0, none⟩))))
    (F : Nat) (eg : ∀ args w, (callFunc F args).run Tryz.prog w = .ok (.enter F args) w) (hF : getI (condE (.pointer (some ⟨x, 0, none⟩))) d.kind = some (fnV F (.pointer (some ⟨x, 0, none⟩)))) (SP : Bool) (hsp : ∀ wx, Calls Tryz.prog 160 #[d.agg] wx fun e w' => e = .returned (.bool SP) ∧ Below wx.heap.size wx w')
    (R : Option Int) (hR : ∀ wx, Below w.heap.size w wx → Calls Tryz.prog F #[.pointer (some ⟨x, 0, none⟩), d.agg] wx fun e w' => e = doE R m f ∧ Below wx.heap.size wx w') :
    Calls Tryz.prog 146 #[.pointer (some ⟨x, 0, none⟩), d.agg] w fun e w' => e = doE (fieldR B d SP R) m f ∧ Below w.heap.size w w' := by
  unfold FieldD.agg at hsp hR ⊢
  have hB1 := hB.below (below_alloc w (.cells #[.string (strL d.name), .int .i64 d.kind, .int .i64 d.bits, .bool d.little, .bool d.loose, .int .i64 d.low, .int .i64 d.high, .int .i64 d.base, .slice d.ta d.terms.length d.tc, .string (strL d.of_), .string (strL d.tag), .string (strL d.from_), .slice d.ca d.cases.length d.cc, .int .i64 d.check, .int .i64 d.key] 55))
  have hk1 := hk.below (below_alloc w (.cells #[.string (strL d.name), .int .i64 d.kind, .int .i64 d.bits, .bool d.little, .bool d.loose, .int .i64 d.low, .int .i64 d.high, .int .i64 d.base, .slice d.ta d.terms.length d.tc, .string (strL d.of_), .string (strL d.tag), .string (strL d.from_), .slice d.ca d.cases.length d.cc, .int .i64 d.check, .int .i64 d.key] 55)) hk.lt
  obtain ⟨Z, hZ⟩ : ∃ Z, fieldR B d SP R = Z := ⟨_, rfl⟩
  rw [hZ]
  have HZ := Lib.hid hZ
  have HSP := Lib.hid hsp
  have HRR := Lib.hid hR
  have HFF := Lib.hid hF
  have HBB := Lib.hid hB1
  have HKK := Lib.hid hk1
  clear hZ hsp hR hF hB hk hB1 hk1
  have hal := below_alloc w (.cells #[.string (strL d.name), .int .i64 d.kind, .int .i64 d.bits, .bool d.little, .bool d.loose, .int .i64 d.low, .int .i64 d.high, .int .i64 d.base, .slice d.ta d.terms.length d.tc, .string (strL d.of_), .string (strL d.tag), .string (strL d.from_), .slice d.ca d.cases.length d.cc, .int .i64 d.check, .int .i64 d.key] 55)
  have hbx := FBox.new w d
  have hx1 := hx.below hal hx.lt
  obtain ⟨b, eb⟩ : ∃ b, w.heap.size = b := ⟨_, rfl⟩
  obtain ⟨w1, hw1⟩ : ∃ w1, w.alloc (.cells #[.string (strL d.name), .int .i64 d.kind, .int .i64 d.bits, .bool d.little, .bool d.loose, .int .i64 d.low, .int .i64 d.high, .int .i64 d.base, .slice d.ta d.terms.length d.tc, .string (strL d.of_), .string (strL d.tag), .string (strL d.from_), .slice d.ca d.cases.length d.cc, .int .i64 d.check, .int .i64 d.key] 55) = w1 := ⟨_, rfl⟩
  rw [hw1] at hal hbx hx1
  rw [eb] at hbx
  have HW := Lib.hid hw1
  have EB := Lib.hid eb
  have HAL := Lib.hid hal
  have HBX := Lib.hid hbx
  have HX := Lib.hid hx1
  clear hal hbx hx1 eb hw1 hx
  rw [HW.out] at HBB HKK
  have KB : Hid (∀ wx, Below w1.heap.size w1 wx → FBox wx b d ∧ ExAt wx x m f kr A B.length c kk) := Lib.hid (fun wx hb => ⟨HBX.out.below hb HBX.out.lt, HX.out.below hb HX.out.lt⟩)
  have KM : Hid (∀ wx, Below w1.heap.size w1 wx → MapI wx kk (condE (.pointer (some ⟨x, 0, none⟩))) ∧ SlAt FieldD.cells 15 S wx A c B) := Lib.hid (fun wx hb => ⟨HKK.out.below hb HKK.out.lt, HBB.out.below hb⟩)
  have HNM := fun w => Lib.hid (sizeName d.name w)
  have HFI : Hid (∀ wx, Below w1.heap.size w1 wx → Calls Tryz.prog 142 #[.agg #[.string ⟨#[]⟩, .slice A B.length c], .string (strL d.name)] wx fun e w' => e = .returned (.tuple #[.int .i64 (max (idxOf (fun e => e.name == d.name) B) 0), .bool (B.any (fun e => e.name == d.name))]) ∧ Below wx.heap.size wx w') := Lib.hid (fun wx hb => field_find [] A c B d.name S wx (KM.out wx hb).2)
  have HDM : ∀ bv cd wx, Below w1.heap.size w1 wx → Hid (Calls Tryz.prog 115 #[.pointer (some ⟨x, 0, none⟩), .bool bv, .int .i64 cd] wx fun e w' => e = doE (ifR bv cd) m f ∧ Below wx.heap.size wx w') := fun bv cd wx hb => Lib.hid (demand_any x kr kk B.length c m f A bv cd wx (KB.out wx hb).2)
  obtain ⟨nb, hnb⟩ : ∃ nb, nameB d.name = nb := ⟨_, rfl⟩
  obtain ⟨tw, htw⟩ : ∃ tw, B.any (fun e => e.name == d.name) = tw := ⟨_, rfl⟩
  obtain ⟨ix, hix⟩ : ∃ ix, max (idxOf (fun e : FieldD => e.name == d.name) B) 0 = ix := ⟨_, rfl⟩
  rw [htw, hix] at HFI
  rw [hnb] at HNM
  have HRN : Hid (Z = orR (ifR nb 1) (orR (ifR (!tw) 2) (orR (ifR (!SP) 5) R))) := Lib.hid (by rw [← HZ.out]; unfold fieldR; rw [hnb, htw])
  have HB1 : Hid (Below w1.heap.size w1 w1) := Lib.hid (Below.refl _ _)
  have KEEP : Hid (∀ wx, Below w1.heap.size w1 wx → wx.cell? ⟨b, 0, none⟩ = some (.string (strL d.name)) ∧ wx.cell? ⟨x, 4, none⟩ = some (.slice A B.length c)) := Lib.hid (fun wx hb => ⟨(KB.out wx hb).1.c0, (KB.out wx hb).2.c4⟩)
  clear hnb htw hix HZ
  have y0 := HBX.out.c0
  go_enter Tryz.func146, Tryz.ntmps146
  go_upto_region 1 with fail
  rw [HW.out, EB.out]
  go_wp2_with (go_at_call 116; refine ((HNM _).out).mono ?_; rintro e w' ⟨rfl, hw'⟩; have hw'' := hw'.symm; clear hw'; subst hw'')
  cases nb
  · have HD := Lib.hid (HDM false 1 w1 HB1.out).out
    unfold ifR doE flawE at HD
    simp only [Bool.false_eq_true, if_false] at HD
    go_wp2_with fail
    refine HD.out.mono ?_
    rintro e w2 ⟨rfl, hb2'⟩
    exact ⟨rfl, by rw [HRN.out]; rfl, HAL.out.trans ((HB1.out.trans (hb2'.mono HB1.out.size)).mono HAL.out.size)⟩
  · have HD := Lib.hid (HDM true 1 w1 HB1.out).out
    unfold ifR doE at HD
    simp only [if_true] at HD
    go_wp2_with fail
    refine HD.out.mono ?_
    rintro e w2 ⟨rfl, hb2'⟩
    have HB2 := Lib.hid (HB1.out.trans (hb2'.mono HB1.out.size))
    clear hb2' HD
    obtain ⟨u0, u4⟩ := KEEP.out w2 HB2.out
    go_upto_region 2 with fail
    refine wp_region_noPanic ?_
    go_region_held (fun w' => w'.cell? ⟨b, 0, none⟩ = some (.string (strL d.name)) ∧ w'.cell? ⟨x, 4, none⟩ = some (.slice A B.length c)) (first | exact KEEP.out _ HB2.out.drew | exact KEEP.out _ HB3.out | exact KEEP.out _ HB2.out) (first | (go_at_call 142; refine (HFI.out _ (by first | exact HB2.out.drew | exact HB2.out)).mono ?_; rintro e w3 ⟨rfl, hb3⟩; have HB3 := Lib.hid (by first | exact HB2.out.drew.trans (hb3.mono HB2.out.size) | exact HB2.out.trans (hb3.mono HB2.out.size) : Below w1.heap.size w1 w3); clear hb3))
    all_goals
      refine NoPanic.normal ?_
      go_wp2_with fail
      cases tw
      · have HD := Lib.hid (HDM true 2 w3 HB3.out).out
        unfold ifR doE at HD
        simp only [if_true] at HD
        go_wp2_with fail
        refine HD.out.mono ?_
        rintro e w4 ⟨rfl, hb4'⟩
        have HB4 := Lib.hid (HB3.out.trans (hb4'.mono HB3.out.size))
        clear hb4' HD
        have hxx := (KB.out w4 HB4.out).2
        have hkk := (KB.out w4 HB4.out).1
        have z5 := hxx.c5
        have z1 := hkk.c1
        have hrun : ∀ n, (Instr.lookup 128 (.map (some kk)) (.int .i64 d.kind) true).run Tryz.prog (w4.drewN n) = .ok (.tuple #[fnV F (.pointer (some ⟨x, 0, none⟩)), .bool true]) (w4.drewN n) := by
          intro n
          have h := run_lookI (P := Tryz.prog) Tryz.um122 Tryz.ukind (Tryz.zeroCond (w4.drewN n)) (KM.out (w4.drewN n) (HB4.out.trans ⟨rfl, rfl, rfl, Nat.le_refl _, fun _ _ => rfl⟩)).1 d.kind
          rw [HFF.out] at h
          simpa only [Option.getD_some, Option.isSome_some] using h
        clear hxx hkk
        unfold fnV at hrun
        go_upto_region 4 with fail
        refine wp_region_noPanic ?_
        go_quiet (fail)
        refine NoPanic.normal ?_
        clear hrun z5 z1
        have HBq := Lib.hid (HB4.out.trans ⟨rfl, rfl, rfl, Nat.le_refl _, fun _ _ => rfl⟩ : Below w1.heap.size w1 (w4.drewN nq))
        obtain ⟨wq, hwq⟩ : ∃ wq, w4.drewN nq = wq := ⟨_, rfl⟩
        rw [hwq] at HBq
        rw [hwq]
        clear hwq
        have HD := Lib.hid (HDM true 4 wq HBq.out).out
        unfold ifR doE at HD
        simp only [if_true] at HD
        go_wp2_with fail
        refine HD.out.mono ?_
        rintro e w5 ⟨rfl, hb5⟩
        have HB5 := Lib.hid (HBq.out.trans (hb5.mono HBq.out.size))
        clear hb5 HD
        have hk := (KB.out w5 HB5.out).1
        have q0 := hk.c0
        have q1 := hk.c1
        have q2 := hk.c2
        have q3 := hk.c3
        have q4 := hk.c4
        have q5 := hk.c5
        have q6 := hk.c6
        have q7 := hk.c7
        have q8 := hk.c8
        have q9 := hk.c9
        have q10 := hk.c10
        have q11 := hk.c11
        have q12 := hk.c12
        have q13 := hk.c13
        have q14 := hk.c14
        clear hk
        go_wp2_with fail
        refine (HSP.out _).mono ?_
        rintro e w6 ⟨rfl, hb6⟩
        have HB6 := Lib.hid (HB5.out.trans (hb6.mono HB5.out.size))
        clear hb6 q0 q1 q2 q3 q4 q5 q6 q7 q8 q9 q10 q11 q12 q13 q14
        have hk := (KB.out w6 HB6.out).1
        have q0 := hk.c0
        have q1 := hk.c1
        have q2 := hk.c2
        have q3 := hk.c3
        have q4 := hk.c4
        have q5 := hk.c5
        have q6 := hk.c6
        have q7 := hk.c7
        have q8 := hk.c8
        have q9 := hk.c9
        have q10 := hk.c10
        have q11 := hk.c11
        have q12 := hk.c12
        have q13 := hk.c13
        have q14 := hk.c14
        clear hk
        go_wp2_with fail
        cases SP
        · have HD := Lib.hid (HDM true 5 w6 HB6.out).out
          unfold ifR doE at HD
          simp only [if_true] at HD
          go_wp2_with fail
          refine HD.out.mono ?_
          rintro e w7 ⟨rfl, hb7'⟩
          have HB7 := Lib.hid (HB6.out.trans (hb7'.mono HB6.out.size))
          clear hb7' HD
          clear q0 q1 q2 q3 q4 q5 q6 q7 q8 q9 q10 q11 q12 q13 q14
          have hk := (KB.out w7 HB7.out).1
          have q0 := hk.c0
          have q1 := hk.c1
          have q2 := hk.c2
          have q3 := hk.c3
          have q4 := hk.c4
          have q5 := hk.c5
          have q6 := hk.c6
          have q7 := hk.c7
          have q8 := hk.c8
          have q9 := hk.c9
          have q10 := hk.c10
          have q11 := hk.c11
          have q12 := hk.c12
          have q13 := hk.c13
          have q14 := hk.c14
          clear hk
          go_wp2_with fail
          have HB17 := Lib.hid (HAL.out.trans (HB7.out.mono HAL.out.size))
          refine (HRR.out _ HB17.out).mono ?_
          rintro e w8 ⟨rfl, hb8⟩
          have HB8 := Lib.hid (HB17.out.trans (hb8.mono HB17.out.size))
          clear hb8
          cases R with
          | none =>
            dsimp only [doE]
            go_wp2_with fail
            go_end0
            exact ⟨by rw [HRN.out]; rfl, HB8.out⟩
          | some c =>
            dsimp only [doE, flawE]
            exact ⟨rfl, by rw [HRN.out]; rfl, HB8.out⟩
        · have HD := Lib.hid (HDM false 5 w6 HB6.out).out
          unfold ifR doE flawE at HD
          simp only [Bool.false_eq_true, if_false] at HD
          go_wp2_with fail
          refine HD.out.mono ?_
          rintro e w7 ⟨rfl, hb7'⟩
          exact ⟨rfl, by rw [HRN.out]; rfl, HAL.out.trans ((HB6.out.trans (hb7'.mono HB6.out.size)).mono HAL.out.size)⟩
      · have HD := Lib.hid (HDM false 2 w3 HB3.out).out
        unfold ifR doE flawE at HD
        simp only [Bool.false_eq_true, if_false] at HD
        go_wp2_with fail
        refine HD.out.mono ?_
        rintro e w4 ⟨rfl, hb4'⟩
        exact ⟨rfl, by rw [HRN.out]; rfl, HAL.out.trans ((HB3.out.trans (hb4'.mono HB3.out.size)).mono HAL.out.size)⟩
end Go.Proofs.YtbpkppmbbpoohaaGreat

namespace Go.Proofs.YtbpkppmbbpoohaaGreat
open Go.RowKit Go.Shelf

set_option maxRecDepth 100000 in
set_option maxHeartbeats 6400000 in
theorem cleared_2 (d : FieldD) (w : World) (hk : d.kind = 2) :
    Calls Tryz.prog 178 #[.agg #[.string (strL d.name), .int .i64 d.kind, .int .i64 d.bits, .bool d.little, .bool d.loose, .int .i64 d.low, .int .i64 d.high, .int .i64 d.base, .slice d.ta d.terms.length d.tc, .string (strL d.of_), .string (strL d.tag), .string (strL d.from_), .slice d.ca d.cases.length d.cc, .int .i64 d.check, .int .i64 d.key]] w fun e w' => e = .returned (.agg #[.string (strL d.name), .int .i64 d.kind, .int .i64 0, .bool false, .bool d.loose, .int .i64 0, .int .i64 d.high, .int .i64 d.base, .slice d.ta d.terms.length d.tc, .string (strL d.of_), .string (strL d.tag), .string (strL d.from_), .slice d.ca d.cases.length d.cc, .int .i64 d.check, .int .i64 d.key]) ∧ Below w.heap.size w w' := by
  have hb : ∀ o1 o2, Below w.heap.size w ((w.alloc o1).alloc o2) := fun o1 o2 => ((Below.refl w.heap.size w).alloc (Nat.le_refl _) _).alloc (by simp) _
  rw [hk]
  clear hk
  go_enter Tryz.func178, Tryz.ntmps178
  go_wp2
  refine bodyPost_ret (by simp [results, Tryz.results178, go_sem]; try rfl) rfl ?_
  exact ⟨rfl, hb _ _⟩

set_option maxRecDepth 100000 in
set_option maxHeartbeats 6400000 in
theorem cleared_3 (d : FieldD) (w : World) (hk : d.kind = 3) :
    Calls Tryz.prog 178 #[.agg #[.string (strL d.name), .int .i64 d.kind, .int .i64 d.bits, .bool d.little, .bool d.loose, .int .i64 d.low, .int .i64 d.high, .int .i64 d.base, .slice d.ta d.terms.length d.tc, .string (strL d.of_), .string (strL d.tag), .string (strL d.from_), .slice d.ca d.cases.length d.cc, .int .i64 d.check, .int .i64 d.key]] w fun e w' => e = .returned (.agg #[.string (strL d.name), .int .i64 d.kind, .int .i64 d.bits, .bool d.little, .bool false, .int .i64 0, .int .i64 0, .int .i64 d.base, .slice d.ta d.terms.length d.tc, .string (strL d.of_), .string (strL d.tag), .string (strL d.from_), .slice d.ca d.cases.length d.cc, .int .i64 d.check, .int .i64 d.key]) ∧ Below w.heap.size w w' := by
  have hb : ∀ o1 o2, Below w.heap.size w ((w.alloc o1).alloc o2) := fun o1 o2 => ((Below.refl w.heap.size w).alloc (Nat.le_refl _) _).alloc (by simp) _
  rw [hk]
  clear hk
  go_enter Tryz.func178, Tryz.ntmps178
  go_wp2
  refine bodyPost_ret (by simp [results, Tryz.results178, go_sem]; try rfl) rfl ?_
  exact ⟨rfl, hb _ _⟩

set_option maxRecDepth 100000 in
set_option maxHeartbeats 6400000 in
theorem cleared_5 (d : FieldD) (w : World) (hk : d.kind = 5) :
    Calls Tryz.prog 178 #[.agg #[.string (strL d.name), .int .i64 d.kind, .int .i64 d.bits, .bool d.little, .bool d.loose, .int .i64 d.low, .int .i64 d.high, .int .i64 d.base, .slice d.ta d.terms.length d.tc, .string (strL d.of_), .string (strL d.tag), .string (strL d.from_), .slice d.ca d.cases.length d.cc, .int .i64 d.check, .int .i64 d.key]] w fun e w' => e = .returned (.agg #[.string (strL d.name), .int .i64 d.kind, .int .i64 d.bits, .bool d.little, .bool d.loose, .int .i64 0, .int .i64 0, .int .i64 d.base, .slice d.ta d.terms.length d.tc, .string (strL d.of_), .string (strL d.tag), .string (strL d.from_), .slice d.ca d.cases.length d.cc, .int .i64 d.check, .int .i64 d.key]) ∧ Below w.heap.size w w' := by
  have hb : ∀ o1 o2, Below w.heap.size w ((w.alloc o1).alloc o2) := fun o1 o2 => ((Below.refl w.heap.size w).alloc (Nat.le_refl _) _).alloc (by simp) _
  rw [hk]
  clear hk
  go_enter Tryz.func178, Tryz.ntmps178
  go_wp2
  refine bodyPost_ret (by simp [results, Tryz.results178, go_sem]; try rfl) rfl ?_
  exact ⟨rfl, hb _ _⟩
end Go.Proofs.YtbpkppmbbpoohaaGreat

namespace Go.Proofs.YtbpkppmbbpoohaaGreat
open Go.RowKit Go.Shelf

set_option maxRecDepth 100000 in
set_option maxHeartbeats 6400000 in
theorem cleared_6 (d : FieldD) (w : World) (hk : d.kind = 6) :
    Calls Tryz.prog 178 #[.agg #[.string (strL d.name), .int .i64 d.kind, .int .i64 d.bits, .bool d.little, .bool d.loose, .int .i64 d.low, .int .i64 d.high, .int .i64 d.base, .slice d.ta d.terms.length d.tc, .string (strL d.of_), .string (strL d.tag), .string (strL d.from_), .slice d.ca d.cases.length d.cc, .int .i64 d.check, .int .i64 d.key]] w fun e w' => e = .returned (.agg #[.string (strL d.name), .int .i64 d.kind, .int .i64 d.bits, .bool d.little, .bool false, .int .i64 d.low, .int .i64 0, .int .i64 d.base, .slice d.ta d.terms.length d.tc, .string (strL d.of_), .string (strL d.tag), .string (strL d.from_), .slice d.ca d.cases.length d.cc, .int .i64 d.check, .int .i64 d.key]) ∧ Below w.heap.size w w' := by
  have hb : ∀ o1 o2, Below w.heap.size w ((w.alloc o1).alloc o2) := fun o1 o2 => ((Below.refl w.heap.size w).alloc (Nat.le_refl _) _).alloc (by simp) _
  rw [hk]
  clear hk
  go_enter Tryz.func178, Tryz.ntmps178
  go_wp2
  refine bodyPost_ret (by simp [results, Tryz.results178, go_sem]; try rfl) rfl ?_
  exact ⟨rfl, hb _ _⟩

set_option maxRecDepth 100000 in
set_option maxHeartbeats 6400000 in
theorem cleared_8 (d : FieldD) (w : World) (hk : d.kind = 8) :
    Calls Tryz.prog 178 #[.agg #[.string (strL d.name), .int .i64 d.kind, .int .i64 d.bits, .bool d.little, .bool d.loose, .int .i64 d.low, .int .i64 d.high, .int .i64 d.base, .slice d.ta d.terms.length d.tc, .string (strL d.of_), .string (strL d.tag), .string (strL d.from_), .slice d.ca d.cases.length d.cc, .int .i64 d.check, .int .i64 d.key]] w fun e w' => e = .returned (.agg #[.string (strL d.name), .int .i64 d.kind, .int .i64 d.bits, .bool d.little, .bool d.loose, .int .i64 d.low, .int .i64 d.high, .int .i64 d.base, .slice d.ta d.terms.length d.tc, .string ⟨#[]⟩, .string (strL d.tag), .string (strL d.from_), .slice d.ca d.cases.length d.cc, .int .i64 d.check, .int .i64 d.key]) ∧ Below w.heap.size w w' := by
  have hb : ∀ o1 o2, Below w.heap.size w ((w.alloc o1).alloc o2) := fun o1 o2 => ((Below.refl w.heap.size w).alloc (Nat.le_refl _) _).alloc (by simp) _
  rw [hk]
  clear hk
  go_enter Tryz.func178, Tryz.ntmps178
  go_wp2
  refine bodyPost_ret (by simp [results, Tryz.results178, go_sem]; try rfl) rfl ?_
  exact ⟨rfl, hb _ _⟩

set_option maxRecDepth 100000 in
set_option maxHeartbeats 6400000 in
theorem cleared_9 (d : FieldD) (w : World) (hk : d.kind = 9) :
    Calls Tryz.prog 178 #[.agg #[.string (strL d.name), .int .i64 d.kind, .int .i64 d.bits, .bool d.little, .bool d.loose, .int .i64 d.low, .int .i64 d.high, .int .i64 d.base, .slice d.ta d.terms.length d.tc, .string (strL d.of_), .string (strL d.tag), .string (strL d.from_), .slice d.ca d.cases.length d.cc, .int .i64 d.check, .int .i64 d.key]] w fun e w' => e = .returned (.agg #[.string (strL d.name), .int .i64 d.kind, .int .i64 d.bits, .bool d.little, .bool d.loose, .int .i64 d.low, .int .i64 d.high, .int .i64 d.base, .slice d.ta d.terms.length d.tc, .string (strL d.of_), .string ⟨#[]⟩, .string (strL d.from_), .slice none 0 0, .int .i64 d.check, .int .i64 d.key]) ∧ Below w.heap.size w w' := by
  have hb : ∀ o1 o2, Below w.heap.size w ((w.alloc o1).alloc o2) := fun o1 o2 => ((Below.refl w.heap.size w).alloc (Nat.le_refl _) _).alloc (by simp) _
  rw [hk]
  clear hk
  go_enter Tryz.func178, Tryz.ntmps178
  go_wp2
  refine bodyPost_ret (by simp [results, Tryz.results178, go_sem]; try rfl) rfl ?_
  exact ⟨rfl, hb _ _⟩
end Go.Proofs.YtbpkppmbbpoohaaGreat

namespace Go.Proofs.YtbpkppmbbpoohaaGreat
open Go.RowKit Go.Shelf

set_option maxRecDepth 100000 in
set_option maxHeartbeats 6400000 in
theorem cleared_10 (d : FieldD) (w : World) (hk : d.kind = 10) :
    Calls Tryz.prog 178 #[.agg #[.string (strL d.name), .int .i64 d.kind, .int .i64 d.bits, .bool d.little, .bool d.loose, .int .i64 d.low, .int .i64 d.high, .int .i64 d.base, .slice d.ta d.terms.length d.tc, .string (strL d.of_), .string (strL d.tag), .string (strL d.from_), .slice d.ca d.cases.length d.cc, .int .i64 d.check, .int .i64 d.key]] w fun e w' => e = .returned (.agg #[.string (strL d.name), .int .i64 d.kind, .int .i64 0, .bool d.little, .bool d.loose, .int .i64 d.low, .int .i64 d.high, .int .i64 d.base, .slice d.ta d.terms.length d.tc, .string (strL d.of_), .string (strL d.tag), .string (strL d.from_), .slice d.ca d.cases.length d.cc, .int .i64 d.check, .int .i64 d.key]) ∧ Below w.heap.size w w' := by
  have hb : ∀ o1 o2, Below w.heap.size w ((w.alloc o1).alloc o2) := fun o1 o2 => ((Below.refl w.heap.size w).alloc (Nat.le_refl _) _).alloc (by simp) _
  rw [hk]
  clear hk
  go_enter Tryz.func178, Tryz.ntmps178
  go_wp2
  refine bodyPost_ret (by simp [results, Tryz.results178, go_sem]; try rfl) rfl ?_
  exact ⟨rfl, hb _ _⟩

set_option maxRecDepth 100000 in
set_option maxHeartbeats 6400000 in
theorem cleared_11 (d : FieldD) (w : World) (hk : d.kind = 11) :
    Calls Tryz.prog 178 #[.agg #[.string (strL d.name), .int .i64 d.kind, .int .i64 d.bits, .bool d.little, .bool d.loose, .int .i64 d.low, .int .i64 d.high, .int .i64 d.base, .slice d.ta d.terms.length d.tc, .string (strL d.of_), .string (strL d.tag), .string (strL d.from_), .slice d.ca d.cases.length d.cc, .int .i64 d.check, .int .i64 d.key]] w fun e w' => e = .returned (.agg #[.string (strL d.name), .int .i64 d.kind, .int .i64 d.bits, .bool d.little, .bool d.loose, .int .i64 d.low, .int .i64 d.high, .int .i64 d.base, .slice d.ta d.terms.length d.tc, .string (strL d.of_), .string (strL d.tag), .string ⟨#[]⟩, .slice d.ca d.cases.length d.cc, .int .i64 0, .int .i64 d.key]) ∧ Below w.heap.size w w' := by
  have hb : ∀ o1 o2, Below w.heap.size w ((w.alloc o1).alloc o2) := fun o1 o2 => ((Below.refl w.heap.size w).alloc (Nat.le_refl _) _).alloc (by simp) _
  rw [hk]
  clear hk
  go_enter Tryz.func178, Tryz.ntmps178
  go_wp2
  refine bodyPost_ret (by simp [results, Tryz.results178, go_sem]; try rfl) rfl ?_
  exact ⟨rfl, hb _ _⟩

set_option maxRecDepth 100000 in
set_option maxHeartbeats 6400000 in
theorem cleared_12 (d : FieldD) (w : World) (hk : d.kind = 12) :
    Calls Tryz.prog 178 #[.agg #[.string (strL d.name), .int .i64 d.kind, .int .i64 d.bits, .bool d.little, .bool d.loose, .int .i64 d.low, .int .i64 d.high, .int .i64 d.base, .slice d.ta d.terms.length d.tc, .string (strL d.of_), .string (strL d.tag), .string (strL d.from_), .slice d.ca d.cases.length d.cc, .int .i64 d.check, .int .i64 d.key]] w fun e w' => e = .returned (.agg #[.string (strL d.name), .int .i64 d.kind, .int .i64 d.bits, .bool d.little, .bool d.loose, .int .i64 d.low, .int .i64 d.high, .int .i64 0, .slice none 0 0, .string ⟨#[]⟩, .string (strL d.tag), .string (strL d.from_), .slice d.ca d.cases.length d.cc, .int .i64 d.check, .int .i64 0]) ∧ Below w.heap.size w w' := by
  have hb : ∀ o1 o2, Below w.heap.size w ((w.alloc o1).alloc o2) := fun o1 o2 => ((Below.refl w.heap.size w).alloc (Nat.le_refl _) _).alloc (by simp) _
  rw [hk]
  clear hk
  go_enter Tryz.func178, Tryz.ntmps178
  go_wp2
  refine bodyPost_ret (by simp [results, Tryz.results178, go_sem]; try rfl) rfl ?_
  exact ⟨rfl, hb _ _⟩
end Go.Proofs.YtbpkppmbbpoohaaGreat

namespace Go.Proofs.YtbpkppmbbpoohaaGreat
open Go.RowKit Go.Shelf

set_option maxRecDepth 100000 in
set_option maxHeartbeats 6400000 in
theorem cleared_no (d : FieldD) (w : World) (hk : ∀ k : Int, 1 ≤ k → k ≤ 12 → d.kind ≠ k) :
    Calls Tryz.prog 178 #[.agg #[.string (strL d.name), .int .i64 d.kind, .int .i64 d.bits, .bool d.little, .bool d.loose, .int .i64 d.low, .int .i64 d.high, .int .i64 d.base, .slice d.ta d.terms.length d.tc, .string (strL d.of_), .string (strL d.tag), .string (strL d.from_), .slice d.ca d.cases.length d.cc, .int .i64 d.check, .int .i64 d.key]] w fun e w' => e = .returned (.agg #[.string (strL d.name), .int .i64 d.kind, .int .i64 d.bits, .bool d.little, .bool d.loose, .int .i64 d.low, .int .i64 d.high, .int .i64 d.base, .slice d.ta d.terms.length d.tc, .string (strL d.of_), .string (strL d.tag), .string (strL d.from_), .slice d.ca d.cases.length d.cc, .int .i64 d.check, .int .i64 d.key]) ∧ Below w.heap.size w w' := by
  have hb : ∀ o1 o2, Below w.heap.size w ((w.alloc o1).alloc o2) := fun o1 o2 => ((Below.refl w.heap.size w).alloc (Nat.le_refl _) _).alloc (by simp) _
  have h1 : (d.kind == 1) = false := beq_eq_false_iff_ne.2 (hk 1 (by omega) (by omega))
  have h2 : (d.kind == 2) = false := beq_eq_false_iff_ne.2 (hk 2 (by omega) (by omega))
  have h3 : (d.kind == 3) = false := beq_eq_false_iff_ne.2 (hk 3 (by omega) (by omega))
  have h4 : (d.kind == 4) = false := beq_eq_false_iff_ne.2 (hk 4 (by omega) (by omega))
  have h5 : (d.kind == 5) = false := beq_eq_false_iff_ne.2 (hk 5 (by omega) (by omega))
  have h6 : (d.kind == 6) = false := beq_eq_false_iff_ne.2 (hk 6 (by omega) (by omega))
  have h7 : (d.kind == 7) = false := beq_eq_false_iff_ne.2 (hk 7 (by omega) (by omega))
  have h8 : (d.kind == 8) = false := beq_eq_false_iff_ne.2 (hk 8 (by omega) (by omega))
  have h9 : (d.kind == 9) = false := beq_eq_false_iff_ne.2 (hk 9 (by omega) (by omega))
  have h10 : (d.kind == 10) = false := beq_eq_false_iff_ne.2 (hk 10 (by omega) (by omega))
  have h11 : (d.kind == 11) = false := beq_eq_false_iff_ne.2 (hk 11 (by omega) (by omega))
  have h12 : (d.kind == 12) = false := beq_eq_false_iff_ne.2 (hk 12 (by omega) (by omega))
  clear hk
  go_enter Tryz.func178, Tryz.ntmps178
  go_wp2
  refine bodyPost_ret (by simp [results, Tryz.results178, go_sem]; try rfl) rfl ?_
  exact ⟨rfl, hb _ _⟩
end Go.Proofs.YtbpkppmbbpoohaaGreat
