/- Lists of fields and of messages are compared, with a comparison given. Conditions: they lie in memory. -/
import Derived.Test.YtbpkppmbbpoohaaGreatEa
namespace Go.Proofs.YtbpkppmbbpoohaaGreat
open Go.RowKit Go.Shelf

/-- Lists that are equal, element by element. -/
def eqL {α : Type} (R : α → α → Bool) : List α → List α → Bool
  | [], [] => true
  | a :: D, b :: E => R a b && eqL R D E
  | _, _ => false
theorem eqL_len {α : Type} {R : α → α → Bool} : ∀ {D E : List α}, ¬ D.length = E.length → eqL R D E = false
  | [], [], h => absurd rfl h
  | [], _ :: _, _ => rfl
  | _ :: _, [], _ => rfl
  | a :: D, b :: E, h => by
    rw [eqL, eqL_len (fun e => h (by simp [e]))]
    simp
theorem eqL_bad {α : Type} {R : α → α → Bool} : ∀ {D E : List α} {i : Nat} {a b : α}, D[i]? = some a → E[i]? = some b → R a b = false → eqL R D E = false
  | [], _, i, _, _, h, _, _ => by simp at h
  | _ :: _, [], i, _, _, _, h, _ => by simp at h
  | x :: D, y :: E, 0, a, b, h1, h2, h3 => by
    simp only [List.getElem?_cons_zero, Option.some.injEq] at h1 h2
    subst h1 h2
    rw [eqL, h3]
    rfl
  | x :: D, y :: E, i + 1, a, b, h1, h2, h3 => by
    rw [eqL, eqL_bad (D := D) (E := E) (i := i) (by simpa using h1) (by simpa using h2) h3]
    simp
theorem eqL_take {α : Type} {R : α → α → Bool} : ∀ {D E : List α} {i : Nat} {a b : α}, D[i]? = some a → E[i]? = some b → eqL R (D.take (i + 1)) (E.take (i + 1)) = (eqL R (D.take i) (E.take i) && R a b)
  | [], _, i, _, _, h, _ => by simp at h
  | _ :: _, [], i, _, _, _, h => by simp at h
  | x :: D, y :: E, 0, a, b, h1, h2 => by
    simp only [List.getElem?_cons_zero, Option.some.injEq] at h1 h2
    subst h1 h2
    simp [eqL]
  | x :: D, y :: E, i + 1, a, b, h1, h2 => by
    rw [List.take_succ_cons, List.take_succ_cons, List.take_succ_cons, List.take_succ_cons, eqL, eqL, eqL_take (D := D) (E := E) (i := i) (by simpa using h1) (by simpa using h2), Bool.and_assoc]

set_option maxRecDepth 100000 in
set_option maxHeartbeats 6400000 in
theorem eqFields (F : Nat) (eg : ∀ args w, (callFunc F args).run Tryz.prog w = .ok (.enter F args) w) (R : FieldD → FieldD → Bool) (A A2 : Option Addr) (c c2 : Nat) (D D2 : List FieldD) (S : Nat → Prop) (w : World) (h : SlAt FieldD.cells 15 S w A c D) (h2 : SlAt FieldD.cells 15 S w A2 c2 D2)
    (hF : ∀ d e, d ∈ D → e ∈ D2 → ∀ wx, Below w.heap.size w wx → Calls Tryz.prog F #[d.agg, e.agg] wx fun x w' => x = .returned (.bool (R d e)) ∧ Below wx.heap.size wx w') :
    Calls Tryz.prog 96 #[.slice A D.length c, .slice A2 D2.length c2, .func (.func F) #[] #[]] w fun x w' => x = .returned (.bool (eqL R D D2)) ∧ Below w.heap.size w w' := by
  have hl : D.length ≤ 9223372036854775807 := Nat.le_trans h.1 h.2.1
  have hl2 : D2.length ≤ 9223372036854775807 := Nat.le_trans h2.1 h2.2.1
  have H1 : Hid (∀ wx, Below w.heap.size w wx → SlAt FieldD.cells 15 S wx A c D) := Lib.hid (fun wx hb => h.rest (Rest.below (S := fun _ => False) hb) (fun _ _ e => e.elim))
  have H2 : Hid (∀ wx, Below w.heap.size w wx → SlAt FieldD.cells 15 S wx A2 c2 D2) := Lib.hid (fun wx hb => h2.rest (Rest.below (S := fun _ => False) hb) (fun _ _ e => e.elim))
  have HF := Lib.hid hF
  obtain ⟨RR, hRR⟩ : ∃ r, eqL R D D2 = r := ⟨_, rfl⟩
  rw [hRR]
  have HRR := Lib.hid hRR
  clear h h2 hF hRR
  go_enter Tryz.func96, Tryz.ntmps96
  by_cases hll : D.length = D2.length
  · have HLL := Lib.hid hll
    rw [← hll]
    clear hll hl2
    go_wp2_with fail
    go_loopw [17] (fun x wr => ∃ i : Nat, i ≤ D.length ∧ x = .int .i64 ((i : Nat) : Int) ∧ eqL R (D.take i) (D2.take i) = true ∧ Below w.heap.size w wr) (fun x _ => D.length - (intOf x).toNat)
    case atStart => exact ⟨0, Nat.zero_le _, rfl, rfl, Below.refl _ _⟩
    case round =>
      obtain ⟨i, hi, rfl, ht, hb⟩ := hrel
      have HT := Lib.hid ht
      have HB := Lib.hid hb
      clear ht hb
      by_cases hlt : i < D.length
      · obtain ⟨d, hd⟩ : ∃ d, D[i]? = some d := ⟨_, List.getElem?_eq_getElem hlt⟩
        obtain ⟨e, he⟩ : ∃ e, D2[i]? = some e := ⟨_, List.getElem?_eq_getElem (by rw [← HLL.out]; exact hlt)⟩
        have hal5 := below_alloc wr (.cells #[.string (strL d.name), .int .i64 d.kind, .int .i64 d.bits, .bool d.little, .bool d.loose, .int .i64 d.low, .int .i64 d.high, .int .i64 d.base, .slice d.ta d.terms.length d.tc, .string (strL d.of_), .string (strL d.tag), .string (strL d.from_), .slice d.ca d.cases.length d.cc, .int .i64 d.check, .int .i64 d.key] 55)
        have hx5 := heap_alloc_new wr (.cells #[.string (strL d.name), .int .i64 d.kind, .int .i64 d.bits, .bool d.little, .bool d.loose, .int .i64 d.low, .int .i64 d.high, .int .i64 d.base, .slice d.ta d.terms.length d.tc, .string (strL d.of_), .string (strL d.tag), .string (strL d.from_), .slice d.ca d.cases.length d.cc, .int .i64 d.check, .int .i64 d.key] 55)
        obtain ⟨b5, eb5⟩ : ∃ b, wr.heap.size = b := ⟨_, rfl⟩
        obtain ⟨w5, hw5⟩ : ∃ w', wr.alloc (.cells #[.string (strL d.name), .int .i64 d.kind, .int .i64 d.bits, .bool d.little, .bool d.loose, .int .i64 d.low, .int .i64 d.high, .int .i64 d.base, .slice d.ta d.terms.length d.tc, .string (strL d.of_), .string (strL d.tag), .string (strL d.from_), .slice d.ca d.cases.length d.cc, .int .i64 d.check, .int .i64 d.key] 55) = w' := ⟨_, rfl⟩
        rw [hw5] at hal5 hx5
        rw [eb5] at hx5
        have hb5 := HB.out.trans (hal5.mono HB.out.size)
        have hal6 := below_alloc w5 (.cells #[.string (strL e.name), .int .i64 e.kind, .int .i64 e.bits, .bool e.little, .bool e.loose, .int .i64 e.low, .int .i64 e.high, .int .i64 e.base, .slice e.ta e.terms.length e.tc, .string (strL e.of_), .string (strL e.tag), .string (strL e.from_), .slice e.ca e.cases.length e.cc, .int .i64 e.check, .int .i64 e.key] 55)
        have hx6 := heap_alloc_new w5 (.cells #[.string (strL e.name), .int .i64 e.kind, .int .i64 e.bits, .bool e.little, .bool e.loose, .int .i64 e.low, .int .i64 e.high, .int .i64 e.base, .slice e.ta e.terms.length e.tc, .string (strL e.of_), .string (strL e.tag), .string (strL e.from_), .slice e.ca e.cases.length e.cc, .int .i64 e.check, .int .i64 e.key] 55)
        have hx56 := (hal6.block b5 (Array.getElem?_eq_some_iff.1 hx5).1).trans hx5
        obtain ⟨b6, eb6⟩ : ∃ b, w5.heap.size = b := ⟨_, rfl⟩
        obtain ⟨w6, hw6⟩ : ∃ w', w5.alloc (.cells #[.string (strL e.name), .int .i64 e.kind, .int .i64 e.bits, .bool e.little, .bool e.loose, .int .i64 e.low, .int .i64 e.high, .int .i64 e.base, .slice e.ta e.terms.length e.tc, .string (strL e.of_), .string (strL e.tag), .string (strL e.from_), .slice e.ca e.cases.length e.cc, .int .i64 e.check, .int .i64 e.key] 55) = w' := ⟨_, rfl⟩
        rw [hw6] at hal6 hx6 hx56
        rw [eb6] at hx6
        have hb6 := hb5.trans (hal6.mono hb5.size)
        obtain ⟨g, o, rfl, _, hx⟩ := (H1.out wr HB.out).2.2 i d hd
        obtain ⟨g2, o2, rfl, _, hy⟩ := (H2.out w5 hb5).2.2 i e he
        have x0 : wr.cell? ⟨g, o + i * 15, none⟩ = some (.string (strL d.name)) := hx 0 _ rfl
        have x1 : wr.cell? ⟨g, o + i * 15 + 1, none⟩ = some (.int .i64 d.kind) := hx 1 _ rfl
        have x2 : wr.cell? ⟨g, o + i * 15 + 2, none⟩ = some (.int .i64 d.bits) := hx 2 _ rfl
        have x3 : wr.cell? ⟨g, o + i * 15 + 3, none⟩ = some (.bool d.little) := hx 3 _ rfl
        have x4 : wr.cell? ⟨g, o + i * 15 + 4, none⟩ = some (.bool d.loose) := hx 4 _ rfl
        have x5 : wr.cell? ⟨g, o + i * 15 + 5, none⟩ = some (.int .i64 d.low) := hx 5 _ rfl
        have x6 : wr.cell? ⟨g, o + i * 15 + 6, none⟩ = some (.int .i64 d.high) := hx 6 _ rfl
        have x7 : wr.cell? ⟨g, o + i * 15 + 7, none⟩ = some (.int .i64 d.base) := hx 7 _ rfl
        have x8 : wr.cell? ⟨g, o + i * 15 + 8, none⟩ = some (.slice d.ta d.terms.length d.tc) := hx 8 _ rfl
        have x9 : wr.cell? ⟨g, o + i * 15 + 9, none⟩ = some (.string (strL d.of_)) := hx 9 _ rfl
        have x10 : wr.cell? ⟨g, o + i * 15 + 10, none⟩ = some (.string (strL d.tag)) := hx 10 _ rfl
        have x11 : wr.cell? ⟨g, o + i * 15 + 11, none⟩ = some (.string (strL d.from_)) := hx 11 _ rfl
        have x12 : wr.cell? ⟨g, o + i * 15 + 12, none⟩ = some (.slice d.ca d.cases.length d.cc) := hx 12 _ rfl
        have x13 : wr.cell? ⟨g, o + i * 15 + 13, none⟩ = some (.int .i64 d.check) := hx 13 _ rfl
        have x14 : wr.cell? ⟨g, o + i * 15 + 14, none⟩ = some (.int .i64 d.key) := hx 14 _ rfl
        have y0 : w5.cell? ⟨g2, o2 + i * 15, none⟩ = some (.string (strL e.name)) := hy 0 _ rfl
        have y1 : w5.cell? ⟨g2, o2 + i * 15 + 1, none⟩ = some (.int .i64 e.kind) := hy 1 _ rfl
        have y2 : w5.cell? ⟨g2, o2 + i * 15 + 2, none⟩ = some (.int .i64 e.bits) := hy 2 _ rfl
        have y3 : w5.cell? ⟨g2, o2 + i * 15 + 3, none⟩ = some (.bool e.little) := hy 3 _ rfl
        have y4 : w5.cell? ⟨g2, o2 + i * 15 + 4, none⟩ = some (.bool e.loose) := hy 4 _ rfl
        have y5 : w5.cell? ⟨g2, o2 + i * 15 + 5, none⟩ = some (.int .i64 e.low) := hy 5 _ rfl
        have y6 : w5.cell? ⟨g2, o2 + i * 15 + 6, none⟩ = some (.int .i64 e.high) := hy 6 _ rfl
        have y7 : w5.cell? ⟨g2, o2 + i * 15 + 7, none⟩ = some (.int .i64 e.base) := hy 7 _ rfl
        have y8 : w5.cell? ⟨g2, o2 + i * 15 + 8, none⟩ = some (.slice e.ta e.terms.length e.tc) := hy 8 _ rfl
        have y9 : w5.cell? ⟨g2, o2 + i * 15 + 9, none⟩ = some (.string (strL e.of_)) := hy 9 _ rfl
        have y10 : w5.cell? ⟨g2, o2 + i * 15 + 10, none⟩ = some (.string (strL e.tag)) := hy 10 _ rfl
        have y11 : w5.cell? ⟨g2, o2 + i * 15 + 11, none⟩ = some (.string (strL e.from_)) := hy 11 _ rfl
        have y12 : w5.cell? ⟨g2, o2 + i * 15 + 12, none⟩ = some (.slice e.ca e.cases.length e.cc) := hy 12 _ rfl
        have y13 : w5.cell? ⟨g2, o2 + i * 15 + 13, none⟩ = some (.int .i64 e.check) := hy 13 _ rfl
        have y14 : w5.cell? ⟨g2, o2 + i * 15 + 14, none⟩ = some (.int .i64 e.key) := hy 14 _ rfl
        have p0 : w6.cell? ⟨b5, 0, none⟩ = some (.string (strL d.name)) := by simp [World.cell?, hx56]
        have p1 : w6.cell? ⟨b5, 1, none⟩ = some (.int .i64 d.kind) := by simp [World.cell?, hx56]
        have p2 : w6.cell? ⟨b5, 2, none⟩ = some (.int .i64 d.bits) := by simp [World.cell?, hx56]
        have p3 : w6.cell? ⟨b5, 3, none⟩ = some (.bool d.little) := by simp [World.cell?, hx56]
        have p4 : w6.cell? ⟨b5, 4, none⟩ = some (.bool d.loose) := by simp [World.cell?, hx56]
        have p5 : w6.cell? ⟨b5, 5, none⟩ = some (.int .i64 d.low) := by simp [World.cell?, hx56]
        have p6 : w6.cell? ⟨b5, 6, none⟩ = some (.int .i64 d.high) := by simp [World.cell?, hx56]
        have p7 : w6.cell? ⟨b5, 7, none⟩ = some (.int .i64 d.base) := by simp [World.cell?, hx56]
        have p8 : w6.cell? ⟨b5, 8, none⟩ = some (.slice d.ta d.terms.length d.tc) := by simp [World.cell?, hx56]
        have p9 : w6.cell? ⟨b5, 9, none⟩ = some (.string (strL d.of_)) := by simp [World.cell?, hx56]
        have p10 : w6.cell? ⟨b5, 10, none⟩ = some (.string (strL d.tag)) := by simp [World.cell?, hx56]
        have p11 : w6.cell? ⟨b5, 11, none⟩ = some (.string (strL d.from_)) := by simp [World.cell?, hx56]
        have p12 : w6.cell? ⟨b5, 12, none⟩ = some (.slice d.ca d.cases.length d.cc) := by simp [World.cell?, hx56]
        have p13 : w6.cell? ⟨b5, 13, none⟩ = some (.int .i64 d.check) := by simp [World.cell?, hx56]
        have p14 : w6.cell? ⟨b5, 14, none⟩ = some (.int .i64 d.key) := by simp [World.cell?, hx56]
        have q0 : w6.cell? ⟨b6, 0, none⟩ = some (.string (strL e.name)) := by simp [World.cell?, hx6]
        have q1 : w6.cell? ⟨b6, 1, none⟩ = some (.int .i64 e.kind) := by simp [World.cell?, hx6]
        have q2 : w6.cell? ⟨b6, 2, none⟩ = some (.int .i64 e.bits) := by simp [World.cell?, hx6]
        have q3 : w6.cell? ⟨b6, 3, none⟩ = some (.bool e.little) := by simp [World.cell?, hx6]
        have q4 : w6.cell? ⟨b6, 4, none⟩ = some (.bool e.loose) := by simp [World.cell?, hx6]
        have q5 : w6.cell? ⟨b6, 5, none⟩ = some (.int .i64 e.low) := by simp [World.cell?, hx6]
        have q6 : w6.cell? ⟨b6, 6, none⟩ = some (.int .i64 e.high) := by simp [World.cell?, hx6]
        have q7 : w6.cell? ⟨b6, 7, none⟩ = some (.int .i64 e.base) := by simp [World.cell?, hx6]
        have q8 : w6.cell? ⟨b6, 8, none⟩ = some (.slice e.ta e.terms.length e.tc) := by simp [World.cell?, hx6]
        have q9 : w6.cell? ⟨b6, 9, none⟩ = some (.string (strL e.of_)) := by simp [World.cell?, hx6]
        have q10 : w6.cell? ⟨b6, 10, none⟩ = some (.string (strL e.tag)) := by simp [World.cell?, hx6]
        have q11 : w6.cell? ⟨b6, 11, none⟩ = some (.string (strL e.from_)) := by simp [World.cell?, hx6]
        have q12 : w6.cell? ⟨b6, 12, none⟩ = some (.slice e.ca e.cases.length e.cc) := by simp [World.cell?, hx6]
        have q13 : w6.cell? ⟨b6, 13, none⟩ = some (.int .i64 e.check) := by simp [World.cell?, hx6]
        have q14 : w6.cell? ⟨b6, 14, none⟩ = some (.int .i64 e.key) := by simp [World.cell?, hx6]
        have hi0 : (0 : Int) ≤ ((i : Nat) : Int) := by omega
        have hi1 : ((i : Nat) : Int) < ((D.length : Nat) : Int) := by omega
        have HDD := Lib.hid hd
        have HEE := Lib.hid he
        have HFD := Lib.hid (HF.out d e (List.mem_of_getElem? hd) (List.mem_of_getElem? he) w6 hb6)
        have HB6 := Lib.hid hb6
        have W5 := Lib.hid hw5
        have W6 := Lib.hid hw6
        have EB5 := Lib.hid eb5
        have EB6 := Lib.hid eb6
        unfold FieldD.agg at HFD
        clear hd he hal5 hx5 eb5 hw5 hb5 hal6 hx6 hx56 eb6 hw6 hb6 hx hy
        go_upto_region 6 with fail
        rw [W5.out, EB5.out]
        clear x0 x1 x2 x3 x4 x5 x6 x7 x8 x9 x10 x11 x12 x13 x14
        go_upto_region 7 with fail
        rw [W6.out, EB6.out]
        clear y0 y1 y2 y3 y4 y5 y6 y7 y8 y9 y10 y11 y12 y13 y14
        obtain ⟨rv, hrv⟩ : ∃ r, R d e = r := ⟨_, rfl⟩
        rw [hrv] at HFD
        have HRV := Lib.hid hrv
        clear hrv
        cases rv with
        | true =>
          go_wp2_with fail
          refine HFD.out.mono ?_
          rintro x w7 ⟨rfl, hb7⟩
          have HB7 := Lib.hid (HB6.out.trans (hb7.mono HB6.out.size))
          clear hb7
          go_wp2_with fail
          go_roundw
          case rel => exact ⟨i + 1, by omega, by go_num, by rw [eqL_take HDD.out HEE.out, HT.out, HRV.out]; rfl, HB7.out⟩
          case measure => simp [intOf]; omega
        | false =>
          go_wp2_with fail
          refine HFD.out.mono ?_
          rintro x w7 ⟨rfl, hb7⟩
          have HB7 := Lib.hid (HB6.out.trans (hb7.mono HB6.out.size))
          clear hb7
          go_wp2_with fail
          go_ret
          have hr : RR = false := by rw [← HRR.out]; exact eqL_bad HDD.out HEE.out HRV.out
          exact ⟨by rw [hr]; rfl, HB7.out⟩
      · obtain rfl : i = D.length := by omega
        have hr : RR = true := by
          have h1 := HT.out
          rw [List.take_length, HLL.out, List.take_length] at h1
          rw [← HRR.out]
          exact h1
        have HR := Lib.hid hr
        clear hr
        go_wp2_with fail
        go_ret
        exact ⟨by rw [HR.out]; rfl, HB.out⟩
  · have hr : RR = false := by rw [← HRR.out]; exact eqL_len hll
    have HR := Lib.hid hr
    have hd : ¬ ((D.length : Nat) : Int) = ((D2.length : Nat) : Int) := by omega
    clear hll hr
    go_wp2_with fail
    go_ret
    exact ⟨by rw [HR.out]; rfl, Below.refl _ _⟩

set_option maxRecDepth 100000 in
set_option maxHeartbeats 6400000 in
theorem eqMsgs (F : Nat) (eg : ∀ args w, (callFunc F args).run Tryz.prog w = .ok (.enter F args) w) (R : MsgD → MsgD → Bool) (A A2 : Option Addr) (c c2 : Nat) (D D2 : List MsgD) (S : Nat → Prop) (w : World) (h : SlAt MsgD.cells 2 S w A c D) (h2 : SlAt MsgD.cells 2 S w A2 c2 D2)
    (hF : ∀ d e, d ∈ D → e ∈ D2 → ∀ wx, Below w.heap.size w wx → Calls Tryz.prog F #[d.agg, e.agg] wx fun x w' => x = .returned (.bool (R d e)) ∧ Below wx.heap.size wx w') :
    Calls Tryz.prog 70 #[.slice A D.length c, .slice A2 D2.length c2, .func (.func F) #[] #[]] w fun x w' => x = .returned (.bool (eqL R D D2)) ∧ Below w.heap.size w w' := by
  have hl : D.length ≤ 9223372036854775807 := Nat.le_trans h.1 h.2.1
  have hl2 : D2.length ≤ 9223372036854775807 := Nat.le_trans h2.1 h2.2.1
  have H1 : Hid (∀ wx, Below w.heap.size w wx → SlAt MsgD.cells 2 S wx A c D) := Lib.hid (fun wx hb => h.rest (Rest.below (S := fun _ => False) hb) (fun _ _ e => e.elim))
  have H2 : Hid (∀ wx, Below w.heap.size w wx → SlAt MsgD.cells 2 S wx A2 c2 D2) := Lib.hid (fun wx hb => h2.rest (Rest.below (S := fun _ => False) hb) (fun _ _ e => e.elim))
  have HF := Lib.hid hF
  obtain ⟨RR, hRR⟩ : ∃ r, eqL R D D2 = r := ⟨_, rfl⟩
  rw [hRR]
  have HRR := Lib.hid hRR
  clear h h2 hF hRR
  go_enter Tryz.func70, Tryz.ntmps70
  by_cases hll : D.length = D2.length
  · have HLL := Lib.hid hll
    rw [← hll]
    clear hll hl2
    go_wp2_with fail
    go_loopw [17] (fun x wr => ∃ i : Nat, i ≤ D.length ∧ x = .int .i64 ((i : Nat) : Int) ∧ eqL R (D.take i) (D2.take i) = true ∧ Below w.heap.size w wr) (fun x _ => D.length - (intOf x).toNat)
    case atStart => exact ⟨0, Nat.zero_le _, rfl, rfl, Below.refl _ _⟩
    case round =>
      obtain ⟨i, hi, rfl, ht, hb⟩ := hrel
      have HT := Lib.hid ht
      have HB := Lib.hid hb
      clear ht hb
      by_cases hlt : i < D.length
      · obtain ⟨d, hd⟩ : ∃ d, D[i]? = some d := ⟨_, List.getElem?_eq_getElem hlt⟩
        obtain ⟨e, he⟩ : ∃ e, D2[i]? = some e := ⟨_, List.getElem?_eq_getElem (by rw [← HLL.out]; exact hlt)⟩
        have hal5 := below_alloc wr (.cells #[.string (strL d.name), .slice d.fa d.fields.length d.fc] 36)
        have hx5 := heap_alloc_new wr (.cells #[.string (strL d.name), .slice d.fa d.fields.length d.fc] 36)
        obtain ⟨b5, eb5⟩ : ∃ b, wr.heap.size = b := ⟨_, rfl⟩
        obtain ⟨w5, hw5⟩ : ∃ w', wr.alloc (.cells #[.string (strL d.name), .slice d.fa d.fields.length d.fc] 36) = w' := ⟨_, rfl⟩
        rw [hw5] at hal5 hx5
        rw [eb5] at hx5
        have hb5 := HB.out.trans (hal5.mono HB.out.size)
        have hal6 := below_alloc w5 (.cells #[.string (strL e.name), .slice e.fa e.fields.length e.fc] 36)
        have hx6 := heap_alloc_new w5 (.cells #[.string (strL e.name), .slice e.fa e.fields.length e.fc] 36)
        have hx56 := (hal6.block b5 (Array.getElem?_eq_some_iff.1 hx5).1).trans hx5
        obtain ⟨b6, eb6⟩ : ∃ b, w5.heap.size = b := ⟨_, rfl⟩
        obtain ⟨w6, hw6⟩ : ∃ w', w5.alloc (.cells #[.string (strL e.name), .slice e.fa e.fields.length e.fc] 36) = w' := ⟨_, rfl⟩
        rw [hw6] at hal6 hx6 hx56
        rw [eb6] at hx6
        have hb6 := hb5.trans (hal6.mono hb5.size)
        obtain ⟨g, o, rfl, _, hx⟩ := (H1.out wr HB.out).2.2 i d hd
        obtain ⟨g2, o2, rfl, _, hy⟩ := (H2.out w5 hb5).2.2 i e he
        have x0 : wr.cell? ⟨g, o + i * 2, none⟩ = some (.string (strL d.name)) := hx 0 _ rfl
        have x1 : wr.cell? ⟨g, o + i * 2 + 1, none⟩ = some (.slice d.fa d.fields.length d.fc) := hx 1 _ rfl
        have y0 : w5.cell? ⟨g2, o2 + i * 2, none⟩ = some (.string (strL e.name)) := hy 0 _ rfl
        have y1 : w5.cell? ⟨g2, o2 + i * 2 + 1, none⟩ = some (.slice e.fa e.fields.length e.fc) := hy 1 _ rfl
        have p0 : w6.cell? ⟨b5, 0, none⟩ = some (.string (strL d.name)) := by simp [World.cell?, hx56]
        have p1 : w6.cell? ⟨b5, 1, none⟩ = some (.slice d.fa d.fields.length d.fc) := by simp [World.cell?, hx56]
        have q0 : w6.cell? ⟨b6, 0, none⟩ = some (.string (strL e.name)) := by simp [World.cell?, hx6]
        have q1 : w6.cell? ⟨b6, 1, none⟩ = some (.slice e.fa e.fields.length e.fc) := by simp [World.cell?, hx6]
        have hi0 : (0 : Int) ≤ ((i : Nat) : Int) := by omega
        have hi1 : ((i : Nat) : Int) < ((D.length : Nat) : Int) := by omega
        have HDD := Lib.hid hd
        have HEE := Lib.hid he
        have HFD := Lib.hid (HF.out d e (List.mem_of_getElem? hd) (List.mem_of_getElem? he) w6 hb6)
        have HB6 := Lib.hid hb6
        have W5 := Lib.hid hw5
        have W6 := Lib.hid hw6
        have EB5 := Lib.hid eb5
        have EB6 := Lib.hid eb6
        unfold MsgD.agg at HFD
        clear hd he hal5 hx5 eb5 hw5 hb5 hal6 hx6 hx56 eb6 hw6 hb6 hx hy
        go_upto_region 6 with fail
        rw [W5.out, EB5.out]
        clear x0 x1
        go_upto_region 7 with fail
        rw [W6.out, EB6.out]
        clear y0 y1
        obtain ⟨rv, hrv⟩ : ∃ r, R d e = r := ⟨_, rfl⟩
        rw [hrv] at HFD
        have HRV := Lib.hid hrv
        clear hrv
        cases rv with
        | true =>
          go_wp2_with fail
          refine HFD.out.mono ?_
          rintro x w7 ⟨rfl, hb7⟩
          have HB7 := Lib.hid (HB6.out.trans (hb7.mono HB6.out.size))
          clear hb7
          go_wp2_with fail
          go_roundw
          case rel => exact ⟨i + 1, by omega, by go_num, by rw [eqL_take HDD.out HEE.out, HT.out, HRV.out]; rfl, HB7.out⟩
          case measure => simp [intOf]; omega
        | false =>
          go_wp2_with fail
          refine HFD.out.mono ?_
          rintro x w7 ⟨rfl, hb7⟩
          have HB7 := Lib.hid (HB6.out.trans (hb7.mono HB6.out.size))
          clear hb7
          go_wp2_with fail
          go_ret
          have hr : RR = false := by rw [← HRR.out]; exact eqL_bad HDD.out HEE.out HRV.out
          exact ⟨by rw [hr]; rfl, HB7.out⟩
      · obtain rfl : i = D.length := by omega
        have hr : RR = true := by
          have h1 := HT.out
          rw [List.take_length, HLL.out, List.take_length] at h1
          rw [← HRR.out]
          exact h1
        have HR := Lib.hid hr
        clear hr
        go_wp2_with fail
        go_ret
        exact ⟨by rw [HR.out]; rfl, HB.out⟩
  · have hr : RR = false := by rw [← HRR.out]; exact eqL_len hll
    have HR := Lib.hid hr
    have hd : ¬ ((D.length : Nat) : Int) = ((D2.length : Nat) : Int) := by omega
    clear hll hr
    go_wp2_with fail
    go_ret
    exact ⟨by rw [HR.out]; rfl, Below.refl _ _⟩
end Go.Proofs.YtbpkppmbbpoohaaGreat
