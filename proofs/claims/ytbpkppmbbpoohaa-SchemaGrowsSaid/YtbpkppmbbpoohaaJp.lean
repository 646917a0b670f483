/- list in an examination, the contract of size given. Conditions: the examination and what it knows lie in memory. -/
import Derived.Test.YtbpkppmbbpoohaaGb
namespace Go.Proofs.Ytbpkppmbbpoohaa
open Go.RowKit Go.Shelf

section
variable {x kr kk n cc : Nat} {m f : Int} {A : Option Addr} {d : FieldD} {w : World}
set_option maxRecDepth 100000 in
set_option maxHeartbeats 3200000 in
theorem list_of (E : Nats) (R2 : Option Int) (hx : ExAt w x m f kr A n cc kk) (hm : MapAt w kr (natE E))
    (hS : nestedR E d = none → ∀ wx, Below w.heap.size w wx → Calls Try.prog 84 #[.pointer (some ⟨x, 0, none⟩), d.agg] wx fun e w' => e = doE R2 m f ∧ Below wx.heap.size wx w') :
    Calls Try.prog 87 #[.pointer (some ⟨x, 0, none⟩), d.agg] w fun e w' => e = doE (orR (nestedR E d) R2) m f ∧ Below w.heap.size w w' := by
  have hm0 := hm
  have HSZ := Lib.hid hS
  clear hS hm
  unfold FieldD.agg at HSZ ⊢
  have hal := below_alloc w (.cells #[.string (strL d.name), .int .i64 d.kind, .int .i64 d.bits, .bool d.little, .bool d.loose, .int .i64 d.low, .int .i64 d.high, .int .i64 d.base, .slice d.ta d.terms.length d.tc, .string (strL d.of_), .string (strL d.tag), .string (strL d.from_), .slice d.ca d.cases.length d.cc, .int .i64 d.check, .int .i64 d.key] 28)
  have hbx := FBox.new w d
  have hx1 := hx.below hal hx.lt
  obtain ⟨b, eb⟩ : ∃ b, w.heap.size = b := ⟨_, rfl⟩
  obtain ⟨w1, hw1⟩ : ∃ w1, w.alloc (.cells #[.string (strL d.name), .int .i64 d.kind, .int .i64 d.bits, .bool d.little, .bool d.loose, .int .i64 d.low, .int .i64 d.high, .int .i64 d.base, .slice d.ta d.terms.length d.tc, .string (strL d.of_), .string (strL d.tag), .string (strL d.from_), .slice d.ca d.cases.length d.cc, .int .i64 d.check, .int .i64 d.key] 28) = w1 := ⟨_, rfl⟩
  rw [hw1] at hal hbx hx1
  rw [eb] at hbx
  have HW := Lib.hid hw1
  have EB := Lib.hid eb
  have HAL := Lib.hid hal
  have HBX := Lib.hid hbx
  have HX := Lib.hid hx1
  clear hal hbx hx1 eb hw1 hx
  have KB : Hid (∀ wx, Below w1.heap.size w1 wx → FBox wx b d) := Lib.hid (fun wx hb => HBX.out.below hb HBX.out.lt)
  have HN := Lib.hid (nested_any x kr kk n cc m f A d w1 E HX.out (hm0.below HAL.out hm0.lt))
  unfold FieldD.agg at HN
  clear hm0
  have q0 := HBX.out.c0
  have q1 := HBX.out.c1
  have q2 := HBX.out.c2
  have q3 := HBX.out.c3
  have q4 := HBX.out.c4
  have q5 := HBX.out.c5
  have q6 := HBX.out.c6
  have q7 := HBX.out.c7
  have q8 := HBX.out.c8
  have q9 := HBX.out.c9
  have q10 := HBX.out.c10
  have q11 := HBX.out.c11
  have q12 := HBX.out.c12
  have q13 := HBX.out.c13
  have q14 := HBX.out.c14
  cases hR : nestedR E d with
  | some c =>
    rw [hR] at HN
    unfold doE flawE at HN
    dsimp only at HN
    clear hR HSZ
    go_enter Try.func87, Try.ntmps87
    go_upto_region 1 with fail
    rw [HW.out, EB.out]
    go_wp2_with fail
    refine HN.out.mono ?_
    rintro e w2 ⟨rfl, hb2⟩
    exact ⟨rfl, rfl, HAL.out.trans (hb2.mono HAL.out.size)⟩
  | none =>
    rw [hR] at HN
    unfold doE at HN
    dsimp only at HN
    have HSZ2 := Lib.hid (HSZ.out hR)
    clear hR HSZ
    go_enter Try.func87, Try.ntmps87
    go_upto_region 1 with fail
    rw [HW.out, EB.out]
    go_wp2_with fail
    refine HN.out.mono ?_
    rintro e w2 ⟨rfl, hb2⟩
    have HB2 := Lib.hid hb2
    clear hb2
    clear q0 q1 q2 q3 q4 q5 q6 q7 q8 q9 q10 q11 q12 q13 q14
    have hk := KB.out w2 HB2.out
    have q0 := hk.c0
    have q1 := hk.c1
    have q2 := hk.c2
    have q3 := hk.c3
    have q4 := hk.c4
    have q5 := hk.c5
    have q6 := hk.c6
    have q7 := hk.c7
    have q8 := hk.c8
    have q9 := hk.c9
    have q10 := hk.c10
    have q11 := hk.c11
    have q12 := hk.c12
    have q13 := hk.c13
    have q14 := hk.c14
    clear hk
    go_wp2_with fail
    have HB12 := Lib.hid (HAL.out.trans (HB2.out.mono HAL.out.size))
    refine (HSZ2.out _ HB12.out).mono ?_
    rintro e w3 ⟨rfl, hb3⟩
    have HB3 := Lib.hid (HB12.out.trans (hb3.mono HB12.out.size))
    clear hb3
    cases R2 with
    | none =>
      dsimp only [doE]
      go_wp2_with fail
      go_end0
      exact ⟨rfl, HB3.out⟩
    | some c =>
      dsimp only [doE, flawE]
      exact ⟨rfl, rfl, HB3.out⟩
end
end Go.Proofs.Ytbpkppmbbpoohaa
