/- slices.IndexFunc and search; the field with a name. Conditions: the fields lie in memory. Outlines of fields, and fields without what their kinds use. No conditions. What a field has that its kind does not use. No conditions. -/
import Derived.Test.YtbpkppmbbpoohaaGa
namespace Go.Proofs.Ytbpkppmbbpoohaa
open Go.RowKit Go.Shelf

set_option maxRecDepth 100000 in
set_option maxHeartbeats 1600000 in
theorem fieldsIndex (F : Nat) (cap : Array Value) (eg : ∀ args w, (callFunc F args).run Try.prog w = .ok (.enter F args) w) (p : FieldD → Bool) (A : Option Addr) (c : Nat) (D : List FieldD) (S : Nat → Prop) (w : World) (h : SlAt FieldD.cells 15 S w A c D)
    (hF : ∀ d ∈ D, ∀ wx, Below w.heap.size w wx → Calls Try.prog F (#[d.agg] ++ cap) wx fun e w' => e = .returned (.bool (p d)) ∧ Below wx.heap.size wx w') :
    Calls Try.prog 64 #[.slice A D.length c, .func (.func F) #[] cap] w fun e w' => e = .returned (.int .i64 (idxOf p D)) ∧ Below w.heap.size w w' := by
  have hl : D.length ≤ 9223372036854775807 := Nat.le_trans h.1 h.2.1
  have H := Lib.hid h
  have HF := Lib.hid hF
  obtain ⟨R, hR⟩ : ∃ R, idxOf p D = R := ⟨_, rfl⟩
  rw [hR]
  have HR := Lib.hid hR
  clear h hR hF
  go_enter Try.func64, Try.ntmps64
  go_wp2
  go_loopw [8] (fun x8 wr => ∃ i : Nat, i ≤ D.length ∧ x8 = .int .i64 ((i : Nat) : Int) ∧ (∀ x ∈ D.take i, p x = false) ∧ Below w.heap.size w wr) (fun x8 _ => D.length - (intOf x8).toNat)
  case atStart => exact ⟨0, Nat.zero_le _, rfl, by simp, Below.refl _ _⟩
  case round =>
    obtain ⟨i, hi, rfl, hb, hbw⟩ := hrel
    have HB := Lib.hid hb
    have HBW := Lib.hid hbw
    clear hb hbw
    by_cases hlt : i < D.length
    · obtain ⟨d, hd⟩ : ∃ d, D[i]? = some d := ⟨_, List.getElem?_eq_getElem hlt⟩
      obtain ⟨g, o, rfl, hx⟩ := (H.out.rest (Rest.below HBW.out) (fun _ _ e => e)).at_ hd
      have HFD := Lib.hid (HF.out d (List.mem_of_getElem? hd) wr HBW.out)
      have y0 : wr.cell? ⟨g, o + i * 15, none⟩ = some (.string (strL d.name)) := hx 0 _ rfl
      have y1 : wr.cell? ⟨g, o + i * 15 + 1, none⟩ = some (.int .i64 d.kind) := hx 1 _ rfl
      have y2 : wr.cell? ⟨g, o + i * 15 + 2, none⟩ = some (.int .i64 d.bits) := hx 2 _ rfl
      have y3 : wr.cell? ⟨g, o + i * 15 + 3, none⟩ = some (.bool d.little) := hx 3 _ rfl
      have y4 : wr.cell? ⟨g, o + i * 15 + 4, none⟩ = some (.bool d.loose) := hx 4 _ rfl
      have y5 : wr.cell? ⟨g, o + i * 15 + 5, none⟩ = some (.int .i64 d.low) := hx 5 _ rfl
      have y6 : wr.cell? ⟨g, o + i * 15 + 6, none⟩ = some (.int .i64 d.high) := hx 6 _ rfl
      have y7 : wr.cell? ⟨g, o + i * 15 + 7, none⟩ = some (.int .i64 d.base) := hx 7 _ rfl
      have y8 : wr.cell? ⟨g, o + i * 15 + 8, none⟩ = some (.slice d.ta d.terms.length d.tc) := hx 8 _ rfl
      have y9 : wr.cell? ⟨g, o + i * 15 + 9, none⟩ = some (.string (strL d.of_)) := hx 9 _ rfl
      have y10 : wr.cell? ⟨g, o + i * 15 + 10, none⟩ = some (.string (strL d.tag)) := hx 10 _ rfl
      have y11 : wr.cell? ⟨g, o + i * 15 + 11, none⟩ = some (.string (strL d.from_)) := hx 11 _ rfl
      have y12 : wr.cell? ⟨g, o + i * 15 + 12, none⟩ = some (.slice d.ca d.cases.length d.cc) := hx 12 _ rfl
      have y13 : wr.cell? ⟨g, o + i * 15 + 13, none⟩ = some (.int .i64 d.check) := hx 13 _ rfl
      have y14 : wr.cell? ⟨g, o + i * 15 + 14, none⟩ = some (.int .i64 d.key) := hx 14 _ rfl
      have HD := Lib.hid hd
      clear hd hx
      cases hv : p d with
      | true =>
        rw [hv] at HFD
        unfold FieldD.agg at HFD
        have hRi : R = ((i : Nat) : Int) := by rw [← HR.out]; exact idx_hit HD.out HB.out hv
        have HRI := Lib.hid hRi
        clear hRi hv
        go_wp2_with fail
        refine HFD.out.mono ?_
        rintro e w2 ⟨rfl, hb2⟩
        have HB2 := Lib.hid (HBW.out.trans (hb2.mono HBW.out.size))
        clear hb2
        go_wp2_with fail
        go_ret
        exact ⟨ret_int HRI.out.symm, HB2.out⟩
      | false =>
        rw [hv] at HFD
        unfold FieldD.agg at HFD
        have hn := take_none HD.out HB.out hv
        have HN := Lib.hid hn
        clear hn hv
        go_wp2_with fail
        refine HFD.out.mono ?_
        rintro e w2 ⟨rfl, hb2⟩
        have HB2 := Lib.hid (HBW.out.trans (hb2.mono HBW.out.size))
        clear hb2
        go_wp2_with fail
        go_roundw
        case rel => exact ⟨i + 1, by omega, by go_num, HN.out, HB2.out⟩
        case measure => simp [intOf]; omega
    · obtain rfl : i = D.length := by omega
      have hRi : R = -1 := by rw [← HR.out]; refine idx_miss ?_; have := HB.out; rwa [List.take_length] at this
      have HRI := Lib.hid hRi
      clear hRi
      go_wp2_with fail
      go_ret
      exact ⟨ret_int HRI.out.symm, HBW.out⟩

set_option maxRecDepth 100000 in
set_option maxHeartbeats 1600000 in
theorem fieldsSearch (F : Nat) (cap : Array Value) (eg : ∀ args w, (callFunc F args).run Try.prog w = .ok (.enter F args) w) (p : FieldD → Bool) (A : Option Addr) (c : Nat) (D : List FieldD) (S : Nat → Prop) (w : World) (h : SlAt FieldD.cells 15 S w A c D)
    (hF : ∀ d ∈ D, ∀ wx, Below w.heap.size w wx → Calls Try.prog F (#[d.agg] ++ cap) wx fun e w' => e = .returned (.bool (p d)) ∧ Below wx.heap.size wx w') :
    Calls Try.prog 44 #[.slice A D.length c, .func (.func F) #[] cap] w fun e w' => e = .returned (.tuple #[.int .i64 (max (idxOf p D) 0), .bool (D.any p)]) ∧ Below w.heap.size w w' := by
  have HI := Lib.hid (fieldsIndex F cap eg p A c D S w h hF)
  have hnn : decide (0 ≤ idxOf p D) = D.any p := by
    rw [Bool.eq_iff_iff, decide_eq_true_iff]
    exact idx_nonneg p D 0
  obtain ⟨k, hk⟩ : ∃ k, idxOf p D = k := ⟨_, rfl⟩
  rw [hk] at HI hnn ⊢
  obtain ⟨M, hM⟩ : ∃ M, max k 0 = M := ⟨_, rfl⟩
  rw [hM]
  have f1 : (if k < 0 then 0 else k) = M := by rw [← hM]; split <;> omega
  obtain ⟨bv, hbv⟩ : ∃ bv, D.any p = bv := ⟨_, rfl⟩
  rw [hbv] at hnn ⊢
  clear h hF hk hM hbv
  go_enter Try.func44, Try.ntmps44
  go_wp2_with fail
  refine HI.out.mono ?_
  rintro e w2 ⟨rfl, hb2⟩
  have HB2 := Lib.hid hb2
  clear hb2
  go_wp2_with fail
  go_ret2
  exact ⟨rfl, HB2.out⟩

theorem Try.entField1 : ∀ args w, (callFunc 45 args).run Try.prog w = .ok (.enter 45 args) w := enters_of Try.func45 (by kernel_rfl) rfl

set_option maxRecDepth 100000 in
set_option maxHeartbeats 800000 in
theorem field1_any (d : FieldD) (s : List UInt8) (b : Nat) (w : World) (h : w.cell? ⟨b, 0, none⟩ = some (.string (strL s))) :
    Calls Try.prog 45 #[d.agg, .pointer (some ⟨b, 0, none⟩)] w fun e w' => e = .returned (.bool (d.name == s)) ∧ Below w.heap.size w w' := by
  unfold FieldD.agg
  have hbl := World.block_lt_of_cell? _ _ h
  have hal := below_alloc w (.cells #[.string (strL d.name), .int .i64 d.kind, .int .i64 d.bits, .bool d.little, .bool d.loose, .int .i64 d.low, .int .i64 d.high, .int .i64 d.base, .slice d.ta d.terms.length d.tc, .string (strL d.of_), .string (strL d.tag), .string (strL d.from_), .slice d.ca d.cases.length d.cc, .int .i64 d.check, .int .i64 d.key] 28)
  have h1 := (hal.cell (p := ⟨b, 0, none⟩) hbl).trans h
  have HAL := Lib.hid hal
  clear hal h
  by_cases he : d.name = s
  · subst he
    go_enter Try.func45, Try.ntmps45
    go_wp2
    go_ret
    exact ⟨ret_bool (by simp), HAL.out⟩
  · have e1 := text_ne he
    have HE := Lib.hid he
    clear he
    go_enter Try.func45, Try.ntmps45
    go_wp2
    go_ret
    exact ⟨ret_bool (by simpa using HE.out), HAL.out⟩

set_option maxRecDepth 100000 in
set_option maxHeartbeats 1600000 in
theorem field_find (nm : List UInt8) (A : Option Addr) (c : Nat) (D : List FieldD) (s : List UInt8) (S : Nat → Prop) (w : World) (h : SlAt FieldD.cells 15 S w A c D) :
    Calls Try.prog 21 #[.agg #[.string (strL nm), .slice A D.length c], .string (strL s)] w fun e w' => e = .returned (.tuple #[.int .i64 (max (idxOf (fun d => d.name == s) D) 0), .bool (D.any (fun d => d.name == s))]) ∧ Below w.heap.size w w' := by
  obtain ⟨wa, hwa⟩ : ∃ wa, w.alloc (.cells #[.string (strL nm), .slice A D.length c] 50) = wa := ⟨_, rfl⟩
  obtain ⟨w1, hw1⟩ : ∃ w1, wa.alloc (.cells #[.string (strL s)] 9) = w1 := ⟨_, rfl⟩
  have hw : (w.alloc (.cells #[.string (strL nm), .slice A D.length c] 50)).alloc (.cells #[.string (strL s)] 9) = w1 := by rw [hwa, hw1]
  have ba : Below w.heap.size w wa := by rw [← hwa]; exact below_alloc _ _
  have b1 : Below wa.heap.size wa w1 := by rw [← hw1]; exact below_alloc _ _
  have hb0 : Below w.heap.size w w1 := ba.trans (b1.mono ba.size)
  have s1 : wa.heap.size = w.heap.size + 1 := by rw [← hwa]; simp
  have x1 : w1.heap[w.heap.size]? = some (.cells #[.string (strL nm), .slice A D.length c] 50 (0, 0)) := (b1.block _ (by omega)).trans (by rw [← hwa]; exact heap_alloc_new w _)
  have x2 : Boxed w1 (w.heap.size + 1) 9 (.string (strL s)) := by rw [← hw1, ← s1]; exact Boxed.new wa _ _
  have h1 := h.below hb0
  obtain ⟨b, eb⟩ : ∃ b, w.heap.size = b := ⟨_, rfl⟩
  rw [eb] at x1 x2
  have y1 : w1.cell? ⟨b, 1, none⟩ = some (.slice A D.length c) := by simp [World.cell?, x1]
  have HS := Lib.hid (fieldsSearch 45 #[.pointer (some ⟨b + 1, 0, none⟩)] Try.entField1 (fun d => d.name == s) A c D S w1 h1 (fun d _ wx hb => field1_any d s (b + 1) wx (boxed_below x2 hb x2.lt).cell))
  obtain ⟨R1, hR1⟩ : ∃ R1, max (idxOf (fun d : FieldD => d.name == s) D) 0 = R1 := ⟨_, rfl⟩
  obtain ⟨R2, hR2⟩ : ∃ R2, D.any (fun d : FieldD => d.name == s) = R2 := ⟨_, rfl⟩
  rw [hR1, hR2] at HS ⊢
  have HW := Lib.hid hw
  have EB := Lib.hid eb
  have HB0 := Lib.hid hb0
  clear h hwa hw1 hw ba b1 hb0 s1 x1 x2 h1 eb hR1 hR2
  go_enter Try.func21, Try.ntmps21
  go_upto_region 1 with fail
  rw [HW.out, EB.out]
  go_wp2_with fail
  refine HS.out.mono ?_
  rintro e w2 ⟨rfl, hb2⟩
  have HB2 := Lib.hid (HB0.out.trans (hb2.mono HB0.out.size))
  clear hb2
  go_wp2_with fail
  go_ret2
  exact ⟨rfl, HB2.out⟩
end Go.Proofs.Ytbpkppmbbpoohaa

namespace Go.Proofs.Ytbpkppmbbpoohaa
open Go.RowKit Go.Shelf

set_option maxRecDepth 100000 in
set_option maxHeartbeats 3200000 in
theorem outline_any (v0 v9 v10 v11 : ByteArray) (k bi lo hi ba ch ke : Int) (li ls : Bool) (ta ca : Option Addr) (tn tc cn cc : Nat) (w : World) :
    Calls Try.prog 78 #[.agg #[.string v0, .int .i64 k, .int .i64 bi, .bool li, .bool ls, .int .i64 lo, .int .i64 hi, .int .i64 ba, .slice ta tn tc, .string v9, .string v10, .string v11, .slice ca cn cc, .int .i64 ch, .int .i64 ke]] w fun e w' => e = .returned (.agg #[.string v0, .int .i64 k, .bool li, .bool ls, .int .i64 bi, .int .i64 lo, .int .i64 hi, .int .i64 ba, .int .i64 (tn : Int), .int .i64 (cn : Int), .int .i64 ch, .int .i64 ke, .string v9, .string v10, .string v11]) ∧ Below w.heap.size w w' := by
  have hb : ∀ o1 o2, Below w.heap.size w ((w.alloc o1).alloc o2) := fun o1 o2 => ((Below.refl w.heap.size w).alloc (Nat.le_refl _) _).alloc (by simp) _
  go_enter Try.func78, Try.ntmps78
  go_wp2

  refine bodyPost_ret (by simp [results, Try.results78, go_sem]; try rfl) rfl ?_
  exact ⟨rfl, hb _ _⟩

set_option maxRecDepth 100000 in
set_option maxHeartbeats 3200000 in
theorem cleared_1 (d : FieldD) (w : World) (hk : d.kind = 1) :
    Calls Try.prog 130 #[.agg #[.string (strL d.name), .int .i64 d.kind, .int .i64 d.bits, .bool d.little, .bool d.loose, .int .i64 d.low, .int .i64 d.high, .int .i64 d.base, .slice d.ta d.terms.length d.tc, .string (strL d.of_), .string (strL d.tag), .string (strL d.from_), .slice d.ca d.cases.length d.cc, .int .i64 d.check, .int .i64 d.key]] w fun e w' => e = .returned (.agg #[.string (strL d.name), .int .i64 d.kind, .int .i64 0, .bool false, .bool d.loose, .int .i64 0, .int .i64 0, .int .i64 d.base, .slice d.ta d.terms.length d.tc, .string (strL d.of_), .string (strL d.tag), .string (strL d.from_), .slice d.ca d.cases.length d.cc, .int .i64 d.check, .int .i64 d.key]) ∧ Below w.heap.size w w' := by
  have hb : ∀ o1 o2, Below w.heap.size w ((w.alloc o1).alloc o2) := fun o1 o2 => ((Below.refl w.heap.size w).alloc (Nat.le_refl _) _).alloc (by simp) _
  rw [hk]
  clear hk
  go_enter Try.func130, Try.ntmps130
  go_wp2

  refine bodyPost_ret (by simp [results, Try.results130, go_sem]; try rfl) rfl ?_
  exact ⟨rfl, hb _ _⟩

set_option maxRecDepth 100000 in
set_option maxHeartbeats 3200000 in
theorem cleared_4 (d : FieldD) (w : World) (hk : d.kind = 4) :
    Calls Try.prog 130 #[.agg #[.string (strL d.name), .int .i64 d.kind, .int .i64 d.bits, .bool d.little, .bool d.loose, .int .i64 d.low, .int .i64 d.high, .int .i64 d.base, .slice d.ta d.terms.length d.tc, .string (strL d.of_), .string (strL d.tag), .string (strL d.from_), .slice d.ca d.cases.length d.cc, .int .i64 d.check, .int .i64 d.key]] w fun e w' => e = .returned (.agg #[.string (strL d.name), .int .i64 d.kind, .int .i64 d.bits, .bool d.little, .bool d.loose, .int .i64 d.low, .int .i64 d.high, .int .i64 0, .slice none 0 0, .string (strL d.of_), .string (strL d.tag), .string (strL d.from_), .slice d.ca d.cases.length d.cc, .int .i64 d.check, .int .i64 d.key]) ∧ Below w.heap.size w w' := by
  have hb : ∀ o1 o2, Below w.heap.size w ((w.alloc o1).alloc o2) := fun o1 o2 => ((Below.refl w.heap.size w).alloc (Nat.le_refl _) _).alloc (by simp) _
  rw [hk]
  clear hk
  go_enter Try.func130, Try.ntmps130
  go_wp2

  refine bodyPost_ret (by simp [results, Try.results130, go_sem]; try rfl) rfl ?_
  exact ⟨rfl, hb _ _⟩

set_option maxRecDepth 100000 in
set_option maxHeartbeats 3200000 in
theorem cleared_7 (d : FieldD) (w : World) (hk : d.kind = 7) :
    Calls Try.prog 130 #[.agg #[.string (strL d.name), .int .i64 d.kind, .int .i64 d.bits, .bool d.little, .bool d.loose, .int .i64 d.low, .int .i64 d.high, .int .i64 d.base, .slice d.ta d.terms.length d.tc, .string (strL d.of_), .string (strL d.tag), .string (strL d.from_), .slice d.ca d.cases.length d.cc, .int .i64 d.check, .int .i64 d.key]] w fun e w' => e = .returned (.agg #[.string (strL d.name), .int .i64 d.kind, .int .i64 d.bits, .bool d.little, .bool d.loose, .int .i64 d.low, .int .i64 d.high, .int .i64 0, .slice none 0 0, .string ⟨#[]⟩, .string (strL d.tag), .string (strL d.from_), .slice d.ca d.cases.length d.cc, .int .i64 d.check, .int .i64 d.key]) ∧ Below w.heap.size w w' := by
  have hb : ∀ o1 o2, Below w.heap.size w ((w.alloc o1).alloc o2) := fun o1 o2 => ((Below.refl w.heap.size w).alloc (Nat.le_refl _) _).alloc (by simp) _
  rw [hk]
  clear hk
  go_enter Try.func130, Try.ntmps130
  go_wp2

  refine bodyPost_ret (by simp [results, Try.results130, go_sem]; try rfl) rfl ?_
  exact ⟨rfl, hb _ _⟩
end Go.Proofs.Ytbpkppmbbpoohaa

namespace Go.Proofs.Ytbpkppmbbpoohaa
open Go.RowKit Go.Shelf

/-- The outlines that are compared. -/
def outC1 (d : FieldD) : Value := .agg #[.string (strL d.name), .int .i64 1, .bool false, .bool d.loose, .int .i64 0, .int .i64 0, .int .i64 0, .int .i64 d.base, .int .i64 (d.terms.length : Int), .int .i64 (d.cases.length : Int), .int .i64 d.check, .int .i64 d.key, .string (strL d.of_), .string (strL d.tag), .string (strL d.from_)]
def outZ1 (d : FieldD) : Value := .agg #[.string (strL d.name), .int .i64 1, .bool false, .bool false, .int .i64 0, .int .i64 0, .int .i64 0, .int .i64 0, .int .i64 0, .int .i64 0, .int .i64 0, .int .i64 0, .string ⟨#[]⟩, .string ⟨#[]⟩, .string ⟨#[]⟩]
set_option maxRecDepth 100000 in
set_option maxHeartbeats 6400000 in
theorem spare_1 (d : FieldD) (R : Bool) (w : World) (hk : d.kind = 1) (hr : ∀ w, (binOp .neq 128 (outC1 d) (outZ1 d)).run Try.prog w = .ok (.bool R) w) :
    Calls Try.prog 123 #[d.agg] w fun e w' => e = .returned (.bool R) ∧ Below w.heap.size w w' := by
  unfold outC1 outZ1 at hr
  unfold FieldD.agg
  have hal := below_alloc w (.cells #[.string (strL d.name), .int .i64 d.kind, .int .i64 d.bits, .bool d.little, .bool d.loose, .int .i64 d.low, .int .i64 d.high, .int .i64 d.base, .slice d.ta d.terms.length d.tc, .string (strL d.of_), .string (strL d.tag), .string (strL d.from_), .slice d.ca d.cases.length d.cc, .int .i64 d.check, .int .i64 d.key] 28)
  have hbx := FBox.new w d
  obtain ⟨b, eb⟩ : ∃ b, w.heap.size = b := ⟨_, rfl⟩
  obtain ⟨w1, hw1⟩ : ∃ w1, w.alloc (.cells #[.string (strL d.name), .int .i64 d.kind, .int .i64 d.bits, .bool d.little, .bool d.loose, .int .i64 d.low, .int .i64 d.high, .int .i64 d.base, .slice d.ta d.terms.length d.tc, .string (strL d.of_), .string (strL d.tag), .string (strL d.from_), .slice d.ca d.cases.length d.cc, .int .i64 d.check, .int .i64 d.key] 28) = w1 := ⟨_, rfl⟩
  rw [hw1] at hal hbx
  rw [eb] at hbx
  have KN : Hid (∀ wx, Below w1.heap.size w1 wx → wx.cell? ⟨b, 0, none⟩ = some (.string (strL d.name)) ∧ wx.cell? ⟨b, 1, none⟩ = some (.int .i64 1) ∧ wx.cell? ⟨b, 2, none⟩ = some (.int .i64 d.bits) ∧ wx.cell? ⟨b, 3, none⟩ = some (.bool d.little) ∧ wx.cell? ⟨b, 4, none⟩ = some (.bool d.loose) ∧ wx.cell? ⟨b, 5, none⟩ = some (.int .i64 d.low) ∧ wx.cell? ⟨b, 6, none⟩ = some (.int .i64 d.high) ∧ wx.cell? ⟨b, 7, none⟩ = some (.int .i64 d.base) ∧ wx.cell? ⟨b, 8, none⟩ = some (.slice d.ta d.terms.length d.tc) ∧ wx.cell? ⟨b, 9, none⟩ = some (.string (strL d.of_)) ∧ wx.cell? ⟨b, 10, none⟩ = some (.string (strL d.tag)) ∧ wx.cell? ⟨b, 11, none⟩ = some (.string (strL d.from_)) ∧ wx.cell? ⟨b, 12, none⟩ = some (.slice d.ca d.cases.length d.cc) ∧ wx.cell? ⟨b, 13, none⟩ = some (.int .i64 d.check) ∧ wx.cell? ⟨b, 14, none⟩ = some (.int .i64 d.key)) := Lib.hid (fun wx hb => by
    have h := hbx.below hb hbx.lt
    exact ⟨h.c0, by have := h.c1; rwa [hk] at this, h.c2, h.c3, h.c4, h.c5, h.c6, h.c7, h.c8, h.c9, h.c10, h.c11, h.c12, h.c13, h.c14⟩)
  have hw2 := hw1
  have hcl := fun wx => cleared_1 d wx hk
  rw [hk] at hw2 hcl ⊢
  have HW := Lib.hid hw2
  have HCL := fun wx => Lib.hid (hcl wx)
  have EB := Lib.hid eb
  have HAL := Lib.hid hal
  obtain ⟨y0, y1, y2, y3, y4, y5, y6, y7, y8, y9, y10, y11, y12, y13, y14⟩ := KN.out w1 (Below.refl _ _)
  clear hal hbx eb hw1 hk hw2 hcl
  go_enter Try.func123, Try.ntmps123
  go_upto_region 1 with fail
  rw [HW.out, EB.out]
  go_region_held (fun wx => wx.cell? ⟨b, 0, none⟩ = some (.string (strL d.name)) ∧ wx.cell? ⟨b, 1, none⟩ = some (.int .i64 1) ∧ wx.cell? ⟨b, 2, none⟩ = some (.int .i64 d.bits) ∧ wx.cell? ⟨b, 3, none⟩ = some (.bool d.little) ∧ wx.cell? ⟨b, 4, none⟩ = some (.bool d.loose) ∧ wx.cell? ⟨b, 5, none⟩ = some (.int .i64 d.low) ∧ wx.cell? ⟨b, 6, none⟩ = some (.int .i64 d.high) ∧ wx.cell? ⟨b, 7, none⟩ = some (.int .i64 d.base) ∧ wx.cell? ⟨b, 8, none⟩ = some (.slice d.ta d.terms.length d.tc) ∧ wx.cell? ⟨b, 9, none⟩ = some (.string (strL d.of_)) ∧ wx.cell? ⟨b, 10, none⟩ = some (.string (strL d.tag)) ∧ wx.cell? ⟨b, 11, none⟩ = some (.string (strL d.from_)) ∧ wx.cell? ⟨b, 12, none⟩ = some (.slice d.ca d.cases.length d.cc) ∧ wx.cell? ⟨b, 13, none⟩ = some (.int .i64 d.check) ∧ wx.cell? ⟨b, 14, none⟩ = some (.int .i64 d.key)) (first | exact KN.out _ (Below.refl _ _).drew | exact KN.out _ HBc.out | exact KN.out _ HBb.out | exact KN.out _ HBa.out | exact KN.out _ (Below.refl _ _)) (first | (go_at_call 130; refine ((HCL _).out).mono ?_; rintro e wa ⟨rfl, hba⟩; have HBa := Lib.hid (by first | exact (Below.refl _ _).drew.trans hba | exact hba : Below w1.heap.size w1 wa); clear hba) | (go_at_call 78; refine (outline_any _ _ _ _ _ _ _ _ _ _ _ _ _ _ _ _ _ _ _ _).mono ?_; rintro e wb ⟨rfl, hbb⟩; first | (have HBc := Lib.hid (HBb.out.trans (hbb.mono HBb.out.size)); clear hbb) | (have HBb := Lib.hid (HBa.out.trans (hbb.mono HBa.out.size)); clear hbb)))
  all_goals
    go_wp2_with fail
    go_ret
    exact ⟨rfl, HAL.out.trans (HBc.out.mono HAL.out.size)⟩

/-- The outlines that are compared. -/
def outC4 (d : FieldD) : Value := .agg #[.string (strL d.name), .int .i64 4, .bool d.little, .bool d.loose, .int .i64 d.bits, .int .i64 d.low, .int .i64 d.high, .int .i64 0, .int .i64 0, .int .i64 (d.cases.length : Int), .int .i64 d.check, .int .i64 d.key, .string (strL d.of_), .string (strL d.tag), .string (strL d.from_)]
def outZ4 (d : FieldD) : Value := .agg #[.string (strL d.name), .int .i64 4, .bool false, .bool false, .int .i64 0, .int .i64 0, .int .i64 0, .int .i64 0, .int .i64 0, .int .i64 0, .int .i64 0, .int .i64 0, .string ⟨#[]⟩, .string ⟨#[]⟩, .string ⟨#[]⟩]
set_option maxRecDepth 100000 in
set_option maxHeartbeats 6400000 in
theorem spare_4 (d : FieldD) (R : Bool) (w : World) (hk : d.kind = 4) (hr : ∀ w, (binOp .neq 128 (outC4 d) (outZ4 d)).run Try.prog w = .ok (.bool R) w) :
    Calls Try.prog 123 #[d.agg] w fun e w' => e = .returned (.bool R) ∧ Below w.heap.size w w' := by
  unfold outC4 outZ4 at hr
  unfold FieldD.agg
  have hal := below_alloc w (.cells #[.string (strL d.name), .int .i64 d.kind, .int .i64 d.bits, .bool d.little, .bool d.loose, .int .i64 d.low, .int .i64 d.high, .int .i64 d.base, .slice d.ta d.terms.length d.tc, .string (strL d.of_), .string (strL d.tag), .string (strL d.from_), .slice d.ca d.cases.length d.cc, .int .i64 d.check, .int .i64 d.key] 28)
  have hbx := FBox.new w d
  obtain ⟨b, eb⟩ : ∃ b, w.heap.size = b := ⟨_, rfl⟩
  obtain ⟨w1, hw1⟩ : ∃ w1, w.alloc (.cells #[.string (strL d.name), .int .i64 d.kind, .int .i64 d.bits, .bool d.little, .bool d.loose, .int .i64 d.low, .int .i64 d.high, .int .i64 d.base, .slice d.ta d.terms.length d.tc, .string (strL d.of_), .string (strL d.tag), .string (strL d.from_), .slice d.ca d.cases.length d.cc, .int .i64 d.check, .int .i64 d.key] 28) = w1 := ⟨_, rfl⟩
  rw [hw1] at hal hbx
  rw [eb] at hbx
  have KN : Hid (∀ wx, Below w1.heap.size w1 wx → wx.cell? ⟨b, 0, none⟩ = some (.string (strL d.name)) ∧ wx.cell? ⟨b, 1, none⟩ = some (.int .i64 4) ∧ wx.cell? ⟨b, 2, none⟩ = some (.int .i64 d.bits) ∧ wx.cell? ⟨b, 3, none⟩ = some (.bool d.little) ∧ wx.cell? ⟨b, 4, none⟩ = some (.bool d.loose) ∧ wx.cell? ⟨b, 5, none⟩ = some (.int .i64 d.low) ∧ wx.cell? ⟨b, 6, none⟩ = some (.int .i64 d.high) ∧ wx.cell? ⟨b, 7, none⟩ = some (.int .i64 d.base) ∧ wx.cell? ⟨b, 8, none⟩ = some (.slice d.ta d.terms.length d.tc) ∧ wx.cell? ⟨b, 9, none⟩ = some (.string (strL d.of_)) ∧ wx.cell? ⟨b, 10, none⟩ = some (.string (strL d.tag)) ∧ wx.cell? ⟨b, 11, none⟩ = some (.string (strL d.from_)) ∧ wx.cell? ⟨b, 12, none⟩ = some (.slice d.ca d.cases.length d.cc) ∧ wx.cell? ⟨b, 13, none⟩ = some (.int .i64 d.check) ∧ wx.cell? ⟨b, 14, none⟩ = some (.int .i64 d.key)) := Lib.hid (fun wx hb => by
    have h := hbx.below hb hbx.lt
    exact ⟨h.c0, by have := h.c1; rwa [hk] at this, h.c2, h.c3, h.c4, h.c5, h.c6, h.c7, h.c8, h.c9, h.c10, h.c11, h.c12, h.c13, h.c14⟩)
  have hw2 := hw1
  have hcl := fun wx => cleared_4 d wx hk
  rw [hk] at hw2 hcl ⊢
  have HW := Lib.hid hw2
  have HCL := fun wx => Lib.hid (hcl wx)
  have EB := Lib.hid eb
  have HAL := Lib.hid hal
  obtain ⟨y0, y1, y2, y3, y4, y5, y6, y7, y8, y9, y10, y11, y12, y13, y14⟩ := KN.out w1 (Below.refl _ _)
  clear hal hbx eb hw1 hk hw2 hcl
  go_enter Try.func123, Try.ntmps123
  go_upto_region 1 with fail
  rw [HW.out, EB.out]
  go_region_held (fun wx => wx.cell? ⟨b, 0, none⟩ = some (.string (strL d.name)) ∧ wx.cell? ⟨b, 1, none⟩ = some (.int .i64 4) ∧ wx.cell? ⟨b, 2, none⟩ = some (.int .i64 d.bits) ∧ wx.cell? ⟨b, 3, none⟩ = some (.bool d.little) ∧ wx.cell? ⟨b, 4, none⟩ = some (.bool d.loose) ∧ wx.cell? ⟨b, 5, none⟩ = some (.int .i64 d.low) ∧ wx.cell? ⟨b, 6, none⟩ = some (.int .i64 d.high) ∧ wx.cell? ⟨b, 7, none⟩ = some (.int .i64 d.base) ∧ wx.cell? ⟨b, 8, none⟩ = some (.slice d.ta d.terms.length d.tc) ∧ wx.cell? ⟨b, 9, none⟩ = some (.string (strL d.of_)) ∧ wx.cell? ⟨b, 10, none⟩ = some (.string (strL d.tag)) ∧ wx.cell? ⟨b, 11, none⟩ = some (.string (strL d.from_)) ∧ wx.cell? ⟨b, 12, none⟩ = some (.slice d.ca d.cases.length d.cc) ∧ wx.cell? ⟨b, 13, none⟩ = some (.int .i64 d.check) ∧ wx.cell? ⟨b, 14, none⟩ = some (.int .i64 d.key)) (first | exact KN.out _ (Below.refl _ _).drew | exact KN.out _ HBc.out | exact KN.out _ HBb.out | exact KN.out _ HBa.out | exact KN.out _ (Below.refl _ _)) (first | (go_at_call 130; refine ((HCL _).out).mono ?_; rintro e wa ⟨rfl, hba⟩; have HBa := Lib.hid (by first | exact (Below.refl _ _).drew.trans hba | exact hba : Below w1.heap.size w1 wa); clear hba) | (go_at_call 78; refine (outline_any _ _ _ _ _ _ _ _ _ _ _ _ _ _ _ _ _ _ _ _).mono ?_; rintro e wb ⟨rfl, hbb⟩; first | (have HBc := Lib.hid (HBb.out.trans (hbb.mono HBb.out.size)); clear hbb) | (have HBb := Lib.hid (HBa.out.trans (hbb.mono HBa.out.size)); clear hbb)))
  all_goals
    go_wp2_with fail
    go_ret
    exact ⟨rfl, HAL.out.trans (HBc.out.mono HAL.out.size)⟩

/-- The outlines that are compared. -/
def outC7 (d : FieldD) : Value := .agg #[.string (strL d.name), .int .i64 7, .bool d.little, .bool d.loose, .int .i64 d.bits, .int .i64 d.low, .int .i64 d.high, .int .i64 0, .int .i64 0, .int .i64 (d.cases.length : Int), .int .i64 d.check, .int .i64 d.key, .string ⟨#[]⟩, .string (strL d.tag), .string (strL d.from_)]
def outZ7 (d : FieldD) : Value := .agg #[.string (strL d.name), .int .i64 7, .bool false, .bool false, .int .i64 0, .int .i64 0, .int .i64 0, .int .i64 0, .int .i64 0, .int .i64 0, .int .i64 0, .int .i64 0, .string ⟨#[]⟩, .string ⟨#[]⟩, .string ⟨#[]⟩]
set_option maxRecDepth 100000 in
set_option maxHeartbeats 6400000 in
theorem spare_7 (d : FieldD) (R : Bool) (w : World) (hk : d.kind = 7) (hr : ∀ w, (binOp .neq 128 (outC7 d) (outZ7 d)).run Try.prog w = .ok (.bool R) w) :
    Calls Try.prog 123 #[d.agg] w fun e w' => e = .returned (.bool R) ∧ Below w.heap.size w w' := by
  unfold outC7 outZ7 at hr
  unfold FieldD.agg
  have hal := below_alloc w (.cells #[.string (strL d.name), .int .i64 d.kind, .int .i64 d.bits, .bool d.little, .bool d.loose, .int .i64 d.low, .int .i64 d.high, .int .i64 d.base, .slice d.ta d.terms.length d.tc, .string (strL d.of_), .string (strL d.tag), .string (strL d.from_), .slice d.ca d.cases.length d.cc, .int .i64 d.check, .int .i64 d.key] 28)
  have hbx := FBox.new w d
  obtain ⟨b, eb⟩ : ∃ b, w.heap.size = b := ⟨_, rfl⟩
  obtain ⟨w1, hw1⟩ : ∃ w1, w.alloc (.cells #[.string (strL d.name), .int .i64 d.kind, .int .i64 d.bits, .bool d.little, .bool d.loose, .int .i64 d.low, .int .i64 d.high, .int .i64 d.base, .slice d.ta d.terms.length d.tc, .string (strL d.of_), .string (strL d.tag), .string (strL d.from_), .slice d.ca d.cases.length d.cc, .int .i64 d.check, .int .i64 d.key] 28) = w1 := ⟨_, rfl⟩
  rw [hw1] at hal hbx
  rw [eb] at hbx
  have KN : Hid (∀ wx, Below w1.heap.size w1 wx → wx.cell? ⟨b, 0, none⟩ = some (.string (strL d.name)) ∧ wx.cell? ⟨b, 1, none⟩ = some (.int .i64 7) ∧ wx.cell? ⟨b, 2, none⟩ = some (.int .i64 d.bits) ∧ wx.cell? ⟨b, 3, none⟩ = some (.bool d.little) ∧ wx.cell? ⟨b, 4, none⟩ = some (.bool d.loose) ∧ wx.cell? ⟨b, 5, none⟩ = some (.int .i64 d.low) ∧ wx.cell? ⟨b, 6, none⟩ = some (.int .i64 d.high) ∧ wx.cell? ⟨b, 7, none⟩ = some (.int .i64 d.base) ∧ wx.cell? ⟨b, 8, none⟩ = some (.slice d.ta d.terms.length d.tc) ∧ wx.cell? ⟨b, 9, none⟩ = some (.string (strL d.of_)) ∧ wx.cell? ⟨b, 10, none⟩ = some (.string (strL d.tag)) ∧ wx.cell? ⟨b, 11, none⟩ = some (.string (strL d.from_)) ∧ wx.cell? ⟨b, 12, none⟩ = some (.slice d.ca d.cases.length d.cc) ∧ wx.cell? ⟨b, 13, none⟩ = some (.int .i64 d.check) ∧ wx.cell? ⟨b, 14, none⟩ = some (.int .i64 d.key)) := Lib.hid (fun wx hb => by
    have h := hbx.below hb hbx.lt
    exact ⟨h.c0, by have := h.c1; rwa [hk] at this, h.c2, h.c3, h.c4, h.c5, h.c6, h.c7, h.c8, h.c9, h.c10, h.c11, h.c12, h.c13, h.c14⟩)
  have hw2 := hw1
  have hcl := fun wx => cleared_7 d wx hk
  rw [hk] at hw2 hcl ⊢
  have HW := Lib.hid hw2
  have HCL := fun wx => Lib.hid (hcl wx)
  have EB := Lib.hid eb
  have HAL := Lib.hid hal
  obtain ⟨y0, y1, y2, y3, y4, y5, y6, y7, y8, y9, y10, y11, y12, y13, y14⟩ := KN.out w1 (Below.refl _ _)
  clear hal hbx eb hw1 hk hw2 hcl
  go_enter Try.func123, Try.ntmps123
  go_upto_region 1 with fail
  rw [HW.out, EB.out]
  go_region_held (fun wx => wx.cell? ⟨b, 0, none⟩ = some (.string (strL d.name)) ∧ wx.cell? ⟨b, 1, none⟩ = some (.int .i64 7) ∧ wx.cell? ⟨b, 2, none⟩ = some (.int .i64 d.bits) ∧ wx.cell? ⟨b, 3, none⟩ = some (.bool d.little) ∧ wx.cell? ⟨b, 4, none⟩ = some (.bool d.loose) ∧ wx.cell? ⟨b, 5, none⟩ = some (.int .i64 d.low) ∧ wx.cell? ⟨b, 6, none⟩ = some (.int .i64 d.high) ∧ wx.cell? ⟨b, 7, none⟩ = some (.int .i64 d.base) ∧ wx.cell? ⟨b, 8, none⟩ = some (.slice d.ta d.terms.length d.tc) ∧ wx.cell? ⟨b, 9, none⟩ = some (.string (strL d.of_)) ∧ wx.cell? ⟨b, 10, none⟩ = some (.string (strL d.tag)) ∧ wx.cell? ⟨b, 11, none⟩ = some (.string (strL d.from_)) ∧ wx.cell? ⟨b, 12, none⟩ = some (.slice d.ca d.cases.length d.cc) ∧ wx.cell? ⟨b, 13, none⟩ = some (.int .i64 d.check) ∧ wx.cell? ⟨b, 14, none⟩ = some (.int .i64 d.key)) (first | exact KN.out _ (Below.refl _ _).drew | exact KN.out _ HBc.out | exact KN.out _ HBb.out | exact KN.out _ HBa.out | exact KN.out _ (Below.refl _ _)) (first | (go_at_call 130; refine ((HCL _).out).mono ?_; rintro e wa ⟨rfl, hba⟩; have HBa := Lib.hid (by first | exact (Below.refl _ _).drew.trans hba | exact hba : Below w1.heap.size w1 wa); clear hba) | (go_at_call 78; refine (outline_any _ _ _ _ _ _ _ _ _ _ _ _ _ _ _ _ _ _ _ _).mono ?_; rintro e wb ⟨rfl, hbb⟩; first | (have HBc := Lib.hid (HBb.out.trans (hbb.mono HBb.out.size)); clear hbb) | (have HBb := Lib.hid (HBa.out.trans (hbb.mono HBa.out.size)); clear hbb)))
  all_goals
    go_wp2_with fail
    go_ret
    exact ⟨rfl, HAL.out.trans (HBc.out.mono HAL.out.size)⟩
end Go.Proofs.Ytbpkppmbbpoohaa
