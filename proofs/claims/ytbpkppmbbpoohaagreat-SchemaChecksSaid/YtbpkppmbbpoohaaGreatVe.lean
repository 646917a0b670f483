/- What a field of any kind has that its kind does not use. No conditions. list in an examination, the contract of size given. Conditions: the examination and what it knows lie in memory. -/
import Derived.Test.YtbpkppmbbpoohaaGreatJb
import Derived.Deep.RegionHeld3
import Derived.Test.YtbpkppmbbpoohaaGreatGd
namespace Go.Proofs.YtbpkppmbbpoohaaGreat
open Go.RowKit Go.Shelf

def outQ (d e : FieldD) : Prop := d.name = e.name ∧ d.kind = e.kind ∧ d.little = e.little ∧ d.loose = e.loose ∧ d.bits = e.bits ∧ d.low = e.low ∧ d.high = e.high ∧ d.base = e.base ∧ d.terms.length = e.terms.length ∧ d.cases.length = e.cases.length ∧ d.check = e.check ∧ d.key = e.key ∧ d.of_ = e.of_ ∧ d.tag = e.tag ∧ d.from_ = e.from_
instance (d e : FieldD) : Decidable (outQ d e) := by unfold outQ; infer_instance

set_option maxRecDepth 100000 in
set_option maxHeartbeats 3200000 in
theorem ne_out (d e : FieldD) (w : World) : (binOp .neq 167 (.agg #[.string (strL d.name), .int .i64 d.kind, .bool d.little, .bool d.loose, .int .i64 d.bits, .int .i64 d.low, .int .i64 d.high, .int .i64 d.base, .int .i64 (d.terms.length : Int), .int .i64 (d.cases.length : Int), .int .i64 d.check, .int .i64 d.key, .string (strL d.of_), .string (strL d.tag), .string (strL d.from_)]) (.agg #[.string (strL e.name), .int .i64 e.kind, .bool e.little, .bool e.loose, .int .i64 e.bits, .int .i64 e.low, .int .i64 e.high, .int .i64 e.base, .int .i64 (e.terms.length : Int), .int .i64 (e.cases.length : Int), .int .i64 e.check, .int .i64 e.key, .string (strL e.of_), .string (strL e.tag), .string (strL e.from_)])).run Tryz.prog w = .ok (.bool (!decide (outQ d e))) w := by
  obtain ⟨na, ki, bi, li, ls, lo, hi, ba, ta, tc, T, of, tg, fr, ca, cc, CS, ch, ke⟩ := d
  obtain ⟨na2, ki2, bi2, li2, ls2, lo2, hi2, ba2, ta2, tc2, T2, of2, tg2, fr2, ca2, cc2, CS2, ch2, ke2⟩ := e
  simp only [outQ]
  simp [go_sem, strL_toList]
  by_cases h0 : na = na2
  case neg => simp [h0]
  case pos =>
    by_cases h1 : ki = ki2
    case neg => simp [h0, h1]
    case pos =>
      by_cases h2 : li = li2
      case neg => simp [h0, h1, h2]
      case pos =>
        by_cases h3 : ls = ls2
        case neg => simp [h0, h1, h2, h3]
        case pos =>
          by_cases h4 : bi = bi2
          case neg => simp [h0, h1, h2, h3, h4]
          case pos =>
            by_cases h5 : lo = lo2
            case neg => simp [h0, h1, h2, h3, h4, h5]
            case pos =>
              by_cases h6 : hi = hi2
              case neg => simp [h0, h1, h2, h3, h4, h5, h6]
              case pos =>
                by_cases h7 : ba = ba2
                case neg => simp [h0, h1, h2, h3, h4, h5, h6, h7]
                case pos =>
                  by_cases h8 : T.length = T2.length
                  case neg =>
                    have hc : ¬ ((T.length : Nat) : Int) = ((T2.length : Nat) : Int) := by omega
                    simp [h0, h1, h2, h3, h4, h5, h6, h7, h8, hc]
                  case pos =>
                    by_cases h9 : CS.length = CS2.length
                    case neg =>
                      have hc : ¬ ((CS.length : Nat) : Int) = ((CS2.length : Nat) : Int) := by omega
                      simp [h0, h1, h2, h3, h4, h5, h6, h7, h8, h9, hc]
                    case pos =>
                      by_cases h10 : ch = ch2
                      case neg => simp [h0, h1, h2, h3, h4, h5, h6, h7, h8, h9, h10]
                      case pos =>
                        by_cases h11 : ke = ke2
                        case neg => simp [h0, h1, h2, h3, h4, h5, h6, h7, h8, h9, h10, h11]
                        case pos =>
                          by_cases h12 : of = of2
                          case neg => simp [h0, h1, h2, h3, h4, h5, h6, h7, h8, h9, h10, h11, h12]
                          case pos =>
                            by_cases h13 : tg = tg2
                            case neg => simp [h0, h1, h2, h3, h4, h5, h6, h7, h8, h9, h10, h11, h12, h13]
                            case pos =>
                              by_cases h14 : fr = fr2
                              case neg => simp [h0, h1, h2, h3, h4, h5, h6, h7, h8, h9, h10, h11, h12, h13, h14]
                              case pos =>
                                simp [h0, h1, h2, h3, h4, h5, h6, h7, h8, h9, h10, h11, h12, h13, h14]


/-- A field without what its kind uses. -/
def clrD (d : FieldD) : FieldD := if d.kind = 1 then { d with bits := 0, little := false, low := 0, high := 0 } else if d.kind = 2 then { d with bits := 0, little := false, low := 0 } else if d.kind = 3 then { d with loose := false, low := 0, high := 0 } else if d.kind = 4 then { d with base := 0, ta := none, tc := 0, terms := [] } else if d.kind = 5 then { d with low := 0, high := 0 } else if d.kind = 6 then { d with loose := false, high := 0 } else if d.kind = 7 then { d with of_ := [], base := 0, ta := none, tc := 0, terms := [] } else if d.kind = 8 then { d with of_ := [] } else if d.kind = 9 then { d with tag := [], ca := none, cc := 0, cases := [] } else if d.kind = 10 then { d with bits := 0 } else if d.kind = 11 then { d with from_ := [], check := 0 } else if d.kind = 12 then { d with of_ := [], base := 0, ta := none, tc := 0, terms := [], key := 0 } else d
/-- A field with a name and a kind alone. -/
def zeroF (d : FieldD) : FieldD := { name := d.name, kind := d.kind, bits := 0, little := false, loose := false, low := 0, high := 0, base := 0, ta := none, tc := 0, terms := [], of_ := [], tag := [], from_ := [], ca := none, cc := 0, cases := [], check := 0, key := 0 }
def spareB (d : FieldD) : Bool := !decide (outQ (clrD d) (zeroF d))

set_option maxRecDepth 100000 in
theorem cleared_any (d : FieldD) (w : World) : Calls Tryz.prog 178 #[d.agg] w fun e w' => e = .returned (clrD d).agg ∧ Below w.heap.size w w' := by
  by_cases h1 : d.kind = 1
  · have e : clrD d = { d with bits := 0, little := false, low := 0, high := 0 } := by unfold clrD; simp [h1]
    rw [e]
    exact cleared_1 d w h1
  by_cases h2 : d.kind = 2
  · have e : clrD d = { d with bits := 0, little := false, low := 0 } := by unfold clrD; simp [h2]
    rw [e]
    exact cleared_2 d w h2
  by_cases h3 : d.kind = 3
  · have e : clrD d = { d with loose := false, low := 0, high := 0 } := by unfold clrD; simp [h3]
    rw [e]
    exact cleared_3 d w h3
  by_cases h4 : d.kind = 4
  · have e : clrD d = { d with base := 0, ta := none, tc := 0, terms := [] } := by unfold clrD; simp [h4]
    rw [e]
    exact cleared_4 d w h4
  by_cases h5 : d.kind = 5
  · have e : clrD d = { d with low := 0, high := 0 } := by unfold clrD; simp [h5]
    rw [e]
    exact cleared_5 d w h5
  by_cases h6 : d.kind = 6
  · have e : clrD d = { d with loose := false, high := 0 } := by unfold clrD; simp [h6]
    rw [e]
    exact cleared_6 d w h6
  by_cases h7 : d.kind = 7
  · have e : clrD d = { d with of_ := [], base := 0, ta := none, tc := 0, terms := [] } := by unfold clrD; simp [h7]
    rw [e]
    exact cleared_7 d w h7
  by_cases h8 : d.kind = 8
  · have e : clrD d = { d with of_ := [] } := by unfold clrD; simp [h8]
    rw [e]
    exact cleared_8 d w h8
  by_cases h9 : d.kind = 9
  · have e : clrD d = { d with tag := [], ca := none, cc := 0, cases := [] } := by unfold clrD; simp [h9]
    rw [e]
    exact cleared_9 d w h9
  by_cases h10 : d.kind = 10
  · have e : clrD d = { d with bits := 0 } := by unfold clrD; simp [h10]
    rw [e]
    exact cleared_10 d w h10
  by_cases h11 : d.kind = 11
  · have e : clrD d = { d with from_ := [], check := 0 } := by unfold clrD; simp [h11]
    rw [e]
    exact cleared_11 d w h11
  by_cases h12 : d.kind = 12
  · have e : clrD d = { d with of_ := [], base := 0, ta := none, tc := 0, terms := [], key := 0 } := by unfold clrD; simp [h12]
    rw [e]
    exact cleared_12 d w h12
  have e : clrD d = d := by unfold clrD; simp [h1, h2, h3, h4, h5, h6, h7, h8, h9, h10, h11, h12]
  rw [e]
  exact cleared_no d w (fun k a b e => by
    have hk : k = 1 ∨ k = 2 ∨ k = 3 ∨ k = 4 ∨ k = 5 ∨ k = 6 ∨ k = 7 ∨ k = 8 ∨ k = 9 ∨ k = 10 ∨ k = 11 ∨ k = 12 := by omega
    rcases hk with rfl | rfl | rfl | rfl | rfl | rfl | rfl | rfl | rfl | rfl | rfl | rfl
    all_goals first | exact h1 e | exact h2 e | exact h3 e | exact h4 e | exact h5 e | exact h6 e | exact h7 e | exact h8 e | exact h9 e | exact h10 e | exact h11 e | exact h12 e)

set_option maxRecDepth 100000 in
set_option maxHeartbeats 6400000 in
theorem spare_any (d : FieldD) (w : World) : Calls Tryz.prog 160 #[d.agg] w fun e w' => e = .returned (.bool (spareB d)) ∧ Below w.heap.size w w' := by
  have hcl := fun wx => cleared_any d wx
  have hne := fun wx => ne_out (clrD d) (zeroF d) wx
  unfold spareB
  obtain ⟨R, hR⟩ : ∃ R, (!decide (outQ (clrD d) (zeroF d))) = R := ⟨_, rfl⟩
  rw [hR] at hne ⊢
  clear hR
  obtain ⟨e, he⟩ : ∃ e, clrD d = e := ⟨_, rfl⟩
  rw [he] at hcl hne
  clear he
  have hne : ∀ wx, (binOp .neq 167 (.agg #[.string (strL e.name), .int .i64 e.kind, .bool e.little, .bool e.loose, .int .i64 e.bits, .int .i64 e.low, .int .i64 e.high, .int .i64 e.base, .int .i64 (e.terms.length : Int), .int .i64 (e.cases.length : Int), .int .i64 e.check, .int .i64 e.key, .string (strL e.of_), .string (strL e.tag), .string (strL e.from_)]) (.agg #[.string (strL d.name), .int .i64 d.kind, .bool false, .bool false, .int .i64 0, .int .i64 0, .int .i64 0, .int .i64 0, .int .i64 0, .int .i64 0, .int .i64 0, .int .i64 0, .string ⟨#[]⟩, .string ⟨#[]⟩, .string ⟨#[]⟩])).run Tryz.prog wx = .ok (.bool R) wx := hne
  unfold FieldD.agg at hcl ⊢
  have hal := below_alloc w (.cells #[.string (strL d.name), .int .i64 d.kind, .int .i64 d.bits, .bool d.little, .bool d.loose, .int .i64 d.low, .int .i64 d.high, .int .i64 d.base, .slice d.ta d.terms.length d.tc, .string (strL d.of_), .string (strL d.tag), .string (strL d.from_), .slice d.ca d.cases.length d.cc, .int .i64 d.check, .int .i64 d.key] 55)
  have hbx := FBox.new w d
  obtain ⟨b, eb⟩ : ∃ b, w.heap.size = b := ⟨_, rfl⟩
  obtain ⟨w1, hw1⟩ : ∃ w1, w.alloc (.cells #[.string (strL d.name), .int .i64 d.kind, .int .i64 d.bits, .bool d.little, .bool d.loose, .int .i64 d.low, .int .i64 d.high, .int .i64 d.base, .slice d.ta d.terms.length d.tc, .string (strL d.of_), .string (strL d.tag), .string (strL d.from_), .slice d.ca d.cases.length d.cc, .int .i64 d.check, .int .i64 d.key] 55) = w1 := ⟨_, rfl⟩
  rw [hw1] at hal hbx
  rw [eb] at hbx
  have KN : Hid (∀ wx, Below w1.heap.size w1 wx → wx.cell? ⟨b, 0, none⟩ = some (.string (strL d.name)) ∧ wx.cell? ⟨b, 1, none⟩ = some (.int .i64 d.kind) ∧ wx.cell? ⟨b, 2, none⟩ = some (.int .i64 d.bits) ∧ wx.cell? ⟨b, 3, none⟩ = some (.bool d.little) ∧ wx.cell? ⟨b, 4, none⟩ = some (.bool d.loose) ∧ wx.cell? ⟨b, 5, none⟩ = some (.int .i64 d.low) ∧ wx.cell? ⟨b, 6, none⟩ = some (.int .i64 d.high) ∧ wx.cell? ⟨b, 7, none⟩ = some (.int .i64 d.base) ∧ wx.cell? ⟨b, 8, none⟩ = some (.slice d.ta d.terms.length d.tc) ∧ wx.cell? ⟨b, 9, none⟩ = some (.string (strL d.of_)) ∧ wx.cell? ⟨b, 10, none⟩ = some (.string (strL d.tag)) ∧ wx.cell? ⟨b, 11, none⟩ = some (.string (strL d.from_)) ∧ wx.cell? ⟨b, 12, none⟩ = some (.slice d.ca d.cases.length d.cc) ∧ wx.cell? ⟨b, 13, none⟩ = some (.int .i64 d.check) ∧ wx.cell? ⟨b, 14, none⟩ = some (.int .i64 d.key)) := Lib.hid (fun wx hb => by
    have h := hbx.below hb hbx.lt
    exact ⟨h.c0, h.c1, h.c2, h.c3, h.c4, h.c5, h.c6, h.c7, h.c8, h.c9, h.c10, h.c11, h.c12, h.c13, h.c14⟩)
  have HW := Lib.hid hw1
  have HCL := fun wx => Lib.hid (hcl wx)
  have EB := Lib.hid eb
  have HAL := Lib.hid hal
  obtain ⟨y0, y1, y2, y3, y4, y5, y6, y7, y8, y9, y10, y11, y12, y13, y14⟩ := KN.out w1 (Below.refl _ _)
  clear hal hbx eb hw1 hcl
  go_enter Tryz.func160, Tryz.ntmps160
  go_upto_region 1 with fail
  rw [HW.out, EB.out]
  go_region_held (fun wx => wx.cell? ⟨b, 0, none⟩ = some (.string (strL d.name)) ∧ wx.cell? ⟨b, 1, none⟩ = some (.int .i64 d.kind) ∧ wx.cell? ⟨b, 2, none⟩ = some (.int .i64 d.bits) ∧ wx.cell? ⟨b, 3, none⟩ = some (.bool d.little) ∧ wx.cell? ⟨b, 4, none⟩ = some (.bool d.loose) ∧ wx.cell? ⟨b, 5, none⟩ = some (.int .i64 d.low) ∧ wx.cell? ⟨b, 6, none⟩ = some (.int .i64 d.high) ∧ wx.cell? ⟨b, 7, none⟩ = some (.int .i64 d.base) ∧ wx.cell? ⟨b, 8, none⟩ = some (.slice d.ta d.terms.length d.tc) ∧ wx.cell? ⟨b, 9, none⟩ = some (.string (strL d.of_)) ∧ wx.cell? ⟨b, 10, none⟩ = some (.string (strL d.tag)) ∧ wx.cell? ⟨b, 11, none⟩ = some (.string (strL d.from_)) ∧ wx.cell? ⟨b, 12, none⟩ = some (.slice d.ca d.cases.length d.cc) ∧ wx.cell? ⟨b, 13, none⟩ = some (.int .i64 d.check) ∧ wx.cell? ⟨b, 14, none⟩ = some (.int .i64 d.key)) (first | exact KN.out _ (Below.refl _ _).drew | exact KN.out _ HBc.out | exact KN.out _ HBb.out | exact KN.out _ HBa.out | exact KN.out _ (Below.refl _ _)) (first | (go_at_call 178; refine ((HCL _).out).mono ?_; rintro e wa ⟨rfl, hba⟩; have HBa := Lib.hid (by first | exact (Below.refl _ _).drew.trans hba | exact hba : Below w1.heap.size w1 wa); clear hba) | (go_at_call 132; refine (outline_any _ _ _ _ _ _ _ _ _ _ _ _ _ _ _ _ _ _ _ _).mono ?_; rintro e wb ⟨rfl, hbb⟩; first | (have HBc := Lib.hid (HBb.out.trans (hbb.mono HBb.out.size)); clear hbb) | (have HBb := Lib.hid (HBa.out.trans (hbb.mono HBa.out.size)); clear hbb)))
  all_goals
    go_wp2_with fail
    go_ret
    exact ⟨rfl, HAL.out.trans (HBc.out.mono HAL.out.size)⟩
end Go.Proofs.YtbpkppmbbpoohaaGreat

namespace Go.Proofs.YtbpkppmbbpoohaaGreat
open Go.RowKit Go.Shelf

section
variable {x kr kk n cc : Nat} {m f : Int} {A : Option Addr} {d : FieldD} {w : World}
set_option maxRecDepth 100000 in
set_option maxHeartbeats 3200000 in
theorem list_of (E : Nats) (R2 : Option Int) (hx : ExAt w x m f kr A n cc kk) (hm : MapAt w kr (natE E))
    (hS : nestedR E d = none → ∀ wx, Below w.heap.size w wx → Calls Tryz.prog 106 #[.pointer (some ⟨x, 0, none⟩), d.agg] wx fun e w' => e = doE R2 m f ∧ Below wx.heap.size wx w') :
    Calls Tryz.prog 109 #[.pointer (some ⟨x, 0, none⟩), d.agg] w fun e w' => e = doE (orR (nestedR E d) R2) m f ∧ Below w.heap.size w w' := by
  have hm0 := hm
  have HSZ := Lib.hid hS
  clear hS hm
  unfold FieldD.agg at HSZ ⊢
  have hal := below_alloc w (.cells #[.string (strL d.name), .int .i64 d.kind, .int .i64 d.bits, .bool d.little, .bool d.loose, .int .i64 d.low, .int .i64 d.high, .int .i64 d.base, .slice d.ta d.terms.length d.tc, .string (strL d.of_), .string (strL d.tag), .string (strL d.from_), .slice d.ca d.cases.length d.cc, .int .i64 d.check, .int .i64 d.key] 55)
  have hbx := FBox.new w d
  have hx1 := hx.below hal hx.lt
  obtain ⟨b, eb⟩ : ∃ b, w.heap.size = b := ⟨_, rfl⟩
  obtain ⟨w1, hw1⟩ : ∃ w1, w.alloc (.cells #[.string (strL d.name), .int .i64 d.kind, .int .i64 d.bits, .bool d.little, .bool d.loose, .int .i64 d.low, .int .i64 d.high, .int .i64 d.base, .slice d.ta d.terms.length d.tc, .string (strL d.of_), .string (strL d.tag), .string (strL d.from_), .slice d.ca d.cases.length d.cc, .int .i64 d.check, .int .i64 d.key] 55) = w1 := ⟨_, rfl⟩
  rw [hw1] at hal hbx hx1
  rw [eb] at hbx
  have HW := Lib.hid hw1
  have EB := Lib.hid eb
  have HAL := Lib.hid hal
  have HBX := Lib.hid hbx
  have HX := Lib.hid hx1
  clear hal hbx hx1 eb hw1 hx
  have KB : Hid (∀ wx, Below w1.heap.size w1 wx → FBox wx b d) := Lib.hid (fun wx hb => HBX.out.below hb HBX.out.lt)
  have HN := Lib.hid (nested_any x kr kk n cc m f A d w1 E HX.out (hm0.below HAL.out hm0.lt))
  unfold FieldD.agg at HN
  clear hm0
  have q0 := HBX.out.c0
  have q1 := HBX.out.c1
  have q2 := HBX.out.c2
  have q3 := HBX.out.c3
  have q4 := HBX.out.c4
  have q5 := HBX.out.c5
  have q6 := HBX.out.c6
  have q7 := HBX.out.c7
  have q8 := HBX.out.c8
  have q9 := HBX.out.c9
  have q10 := HBX.out.c10
  have q11 := HBX.out.c11
  have q12 := HBX.out.c12
  have q13 := HBX.out.c13
  have q14 := HBX.out.c14
  cases hR : nestedR E d with
  | some c =>
    rw [hR] at HN
    unfold doE flawE at HN
    dsimp only at HN
    clear hR HSZ
    go_enter Tryz.func109, Tryz.ntmps109
    go_upto_region 1 with fail
    rw [HW.out, EB.out]
    go_wp2_with fail
    refine HN.out.mono ?_
    rintro e w2 ⟨rfl, hb2⟩
    exact ⟨rfl, rfl, HAL.out.trans (hb2.mono HAL.out.size)⟩
  | none =>
    rw [hR] at HN
    unfold doE at HN
    dsimp only at HN
    have HSZ2 := Lib.hid (HSZ.out hR)
    clear hR HSZ
    go_enter Tryz.func109, Tryz.ntmps109
    go_upto_region 1 with fail
    rw [HW.out, EB.out]
    go_wp2_with fail
    refine HN.out.mono ?_
    rintro e w2 ⟨rfl, hb2⟩
    have HB2 := Lib.hid hb2
    clear hb2
    clear q0 q1 q2 q3 q4 q5 q6 q7 q8 q9 q10 q11 q12 q13 q14
    have hk := KB.out w2 HB2.out
    have q0 := hk.c0
    have q1 := hk.c1
    have q2 := hk.c2
    have q3 := hk.c3
    have q4 := hk.c4
    have q5 := hk.c5
    have q6 := hk.c6
    have q7 := hk.c7
    have q8 := hk.c8
    have q9 := hk.c9
    have q10 := hk.c10
    have q11 := hk.c11
    have q12 := hk.c12
    have q13 := hk.c13
    have q14 := hk.c14
    clear hk
    go_wp2_with fail
    have HB12 := Lib.hid (HAL.out.trans (HB2.out.mono HAL.out.size))
    refine (HSZ2.out _ HB12.out).mono ?_
    rintro e w3 ⟨rfl, hb3⟩
    have HB3 := Lib.hid (HB12.out.trans (hb3.mono HB12.out.size))
    clear hb3
    cases R2 with
    | none =>
      dsimp only [doE]
      go_wp2_with fail
      go_end0
      exact ⟨rfl, HB3.out⟩
    | some c =>
      dsimp only [doE, flawE]
      exact ⟨rfl, rfl, HB3.out⟩
end
end Go.Proofs.YtbpkppmbbpoohaaGreat
