/- slices.IndexFunc and search of cases and messages; the case of a tag, the message with a name. Conditions: they lie in memory. The document's answers on a field: Number, HasValue, Range, Case. Conditions: the cases lie in memory. -/
import Derived.Test.YtbpkppmbbpoohaaJa
import Derived.Test.YtbpkppmbbpoohaaFb
import Derived.BigQuiet
namespace Go.Proofs.Ytbpkppmbbpoohaa
open Go.RowKit Go.Shelf

set_option maxRecDepth 100000 in
set_option maxHeartbeats 1600000 in
theorem casesIndex (F : Nat) (cap : Array Value) (eg : ∀ args w, (callFunc F args).run Try.prog w = .ok (.enter F args) w) (p : CaseD → Bool) (A : Option Addr) (c : Nat) (D : List CaseD) (S : Nat → Prop) (w : World) (h : SlAt CaseD.cells 3 S w A c D)
    (hF : ∀ d ∈ D, ∀ wx, Below w.heap.size w wx → Calls Try.prog F (#[d.agg] ++ cap) wx fun e w' => e = .returned (.bool (p d)) ∧ Below wx.heap.size wx w') :
    Calls Try.prog 62 #[.slice A D.length c, .func (.func F) #[] cap] w fun e w' => e = .returned (.int .i64 (idxOf p D)) ∧ Below w.heap.size w w' := by
  have hl : D.length ≤ 9223372036854775807 := Nat.le_trans h.1 h.2.1
  have H := Lib.hid h
  have HF := Lib.hid hF
  obtain ⟨R, hR⟩ : ∃ R, idxOf p D = R := ⟨_, rfl⟩
  rw [hR]
  have HR := Lib.hid hR
  clear h hR hF
  go_enter Try.func62, Try.ntmps62
  go_wp2
  go_loopw [8] (fun x8 wr => ∃ i : Nat, i ≤ D.length ∧ x8 = .int .i64 ((i : Nat) : Int) ∧ (∀ x ∈ D.take i, p x = false) ∧ Below w.heap.size w wr) (fun x8 _ => D.length - (intOf x8).toNat)
  case atStart => exact ⟨0, Nat.zero_le _, rfl, by simp, Below.refl _ _⟩
  case round =>
    obtain ⟨i, hi, rfl, hb, hbw⟩ := hrel
    have HB := Lib.hid hb
    have HBW := Lib.hid hbw
    clear hb hbw
    by_cases hlt : i < D.length
    · obtain ⟨d, hd⟩ : ∃ d, D[i]? = some d := ⟨_, List.getElem?_eq_getElem hlt⟩
      obtain ⟨g, o, rfl, hx⟩ := (H.out.rest (Rest.below HBW.out) (fun _ _ e => e)).at_ hd
      have HFD := Lib.hid (HF.out d (List.mem_of_getElem? hd) wr HBW.out)
      have y0 : wr.cell? ⟨g, o + i * 3, none⟩ = some (.int .i64 d.lo) := hx 0 _ rfl
      have y1 : wr.cell? ⟨g, o + i * 3 + 1, none⟩ = some (.int .i64 d.hi) := hx 1 _ rfl
      have y2 : wr.cell? ⟨g, o + i * 3 + 2, none⟩ = some (.string (strL d.of_)) := hx 2 _ rfl
      have HD := Lib.hid hd
      clear hd hx
      cases hv : p d with
      | true =>
        rw [hv] at HFD
        unfold CaseD.agg at HFD
        have hRi : R = ((i : Nat) : Int) := by rw [← HR.out]; exact idx_hit HD.out HB.out hv
        have HRI := Lib.hid hRi
        clear hRi hv
        go_wp2_with fail
        refine HFD.out.mono ?_
        rintro e w2 ⟨rfl, hb2⟩
        have HB2 := Lib.hid (HBW.out.trans (hb2.mono HBW.out.size))
        clear hb2
        go_wp2_with fail
        go_ret
        exact ⟨ret_int HRI.out.symm, HB2.out⟩
      | false =>
        rw [hv] at HFD
        unfold CaseD.agg at HFD
        have hn := take_none HD.out HB.out hv
        have HN := Lib.hid hn
        clear hn hv
        go_wp2_with fail
        refine HFD.out.mono ?_
        rintro e w2 ⟨rfl, hb2⟩
        have HB2 := Lib.hid (HBW.out.trans (hb2.mono HBW.out.size))
        clear hb2
        go_wp2_with fail
        go_roundw
        case rel => exact ⟨i + 1, by omega, by go_num, HN.out, HB2.out⟩
        case measure => simp [intOf]; omega
    · obtain rfl : i = D.length := by omega
      have hRi : R = -1 := by rw [← HR.out]; refine idx_miss ?_; have := HB.out; rwa [List.take_length] at this
      have HRI := Lib.hid hRi
      clear hRi
      go_wp2_with fail
      go_ret
      exact ⟨ret_int HRI.out.symm, HBW.out⟩

set_option maxRecDepth 100000 in
set_option maxHeartbeats 1600000 in
theorem casesSearch (F : Nat) (cap : Array Value) (eg : ∀ args w, (callFunc F args).run Try.prog w = .ok (.enter F args) w) (p : CaseD → Bool) (A : Option Addr) (c : Nat) (D : List CaseD) (S : Nat → Prop) (w : World) (h : SlAt CaseD.cells 3 S w A c D)
    (hF : ∀ d ∈ D, ∀ wx, Below w.heap.size w wx → Calls Try.prog F (#[d.agg] ++ cap) wx fun e w' => e = .returned (.bool (p d)) ∧ Below wx.heap.size wx w') :
    Calls Try.prog 39 #[.slice A D.length c, .func (.func F) #[] cap] w fun e w' => e = .returned (.tuple #[.int .i64 (max (idxOf p D) 0), .bool (D.any p)]) ∧ Below w.heap.size w w' := by
  have HI := Lib.hid (casesIndex F cap eg p A c D S w h hF)
  have hnn : decide (0 ≤ idxOf p D) = D.any p := by
    rw [Bool.eq_iff_iff, decide_eq_true_iff]
    exact idx_nonneg p D 0
  obtain ⟨k, hk⟩ : ∃ k, idxOf p D = k := ⟨_, rfl⟩
  rw [hk] at HI hnn ⊢
  obtain ⟨M, hM⟩ : ∃ M, max k 0 = M := ⟨_, rfl⟩
  rw [hM]
  have f1 : (if k < 0 then 0 else k) = M := by rw [← hM]; split <;> omega
  obtain ⟨bv, hbv⟩ : ∃ bv, D.any p = bv := ⟨_, rfl⟩
  rw [hbv] at hnn ⊢
  clear h hF hk hM hbv
  go_enter Try.func39, Try.ntmps39
  go_wp2_with fail
  refine HI.out.mono ?_
  rintro e w2 ⟨rfl, hb2⟩
  have HB2 := Lib.hid hb2
  clear hb2
  go_wp2_with fail
  go_ret2
  exact ⟨rfl, HB2.out⟩

set_option maxRecDepth 100000 in
set_option maxHeartbeats 1600000 in
theorem msgsIndex (F : Nat) (cap : Array Value) (eg : ∀ args w, (callFunc F args).run Try.prog w = .ok (.enter F args) w) (p : MsgD → Bool) (A : Option Addr) (c : Nat) (D : List MsgD) (S : Nat → Prop) (w : World) (h : SlAt MsgD.cells 2 S w A c D)
    (hF : ∀ d ∈ D, ∀ wx, Below w.heap.size w wx → Calls Try.prog F (#[d.agg] ++ cap) wx fun e w' => e = .returned (.bool (p d)) ∧ Below wx.heap.size wx w') :
    Calls Try.prog 63 #[.slice A D.length c, .func (.func F) #[] cap] w fun e w' => e = .returned (.int .i64 (idxOf p D)) ∧ Below w.heap.size w w' := by
  have hl : D.length ≤ 9223372036854775807 := Nat.le_trans h.1 h.2.1
  have H := Lib.hid h
  have HF := Lib.hid hF
  obtain ⟨R, hR⟩ : ∃ R, idxOf p D = R := ⟨_, rfl⟩
  rw [hR]
  have HR := Lib.hid hR
  clear h hR hF
  go_enter Try.func63, Try.ntmps63
  go_wp2
  go_loopw [8] (fun x8 wr => ∃ i : Nat, i ≤ D.length ∧ x8 = .int .i64 ((i : Nat) : Int) ∧ (∀ x ∈ D.take i, p x = false) ∧ Below w.heap.size w wr) (fun x8 _ => D.length - (intOf x8).toNat)
  case atStart => exact ⟨0, Nat.zero_le _, rfl, by simp, Below.refl _ _⟩
  case round =>
    obtain ⟨i, hi, rfl, hb, hbw⟩ := hrel
    have HB := Lib.hid hb
    have HBW := Lib.hid hbw
    clear hb hbw
    by_cases hlt : i < D.length
    · obtain ⟨d, hd⟩ : ∃ d, D[i]? = some d := ⟨_, List.getElem?_eq_getElem hlt⟩
      obtain ⟨g, o, rfl, hx⟩ := (H.out.rest (Rest.below HBW.out) (fun _ _ e => e)).at_ hd
      have HFD := Lib.hid (HF.out d (List.mem_of_getElem? hd) wr HBW.out)
      have y0 : wr.cell? ⟨g, o + i * 2, none⟩ = some (.string (strL d.name)) := hx 0 _ rfl
      have y1 : wr.cell? ⟨g, o + i * 2 + 1, none⟩ = some (.slice d.fa d.fields.length d.fc) := hx 1 _ rfl
      have HD := Lib.hid hd
      clear hd hx
      cases hv : p d with
      | true =>
        rw [hv] at HFD
        unfold MsgD.agg at HFD
        have hRi : R = ((i : Nat) : Int) := by rw [← HR.out]; exact idx_hit HD.out HB.out hv
        have HRI := Lib.hid hRi
        clear hRi hv
        go_wp2_with fail
        refine HFD.out.mono ?_
        rintro e w2 ⟨rfl, hb2⟩
        have HB2 := Lib.hid (HBW.out.trans (hb2.mono HBW.out.size))
        clear hb2
        go_wp2_with fail
        go_ret
        exact ⟨ret_int HRI.out.symm, HB2.out⟩
      | false =>
        rw [hv] at HFD
        unfold MsgD.agg at HFD
        have hn := take_none HD.out HB.out hv
        have HN := Lib.hid hn
        clear hn hv
        go_wp2_with fail
        refine HFD.out.mono ?_
        rintro e w2 ⟨rfl, hb2⟩
        have HB2 := Lib.hid (HBW.out.trans (hb2.mono HBW.out.size))
        clear hb2
        go_wp2_with fail
        go_roundw
        case rel => exact ⟨i + 1, by omega, by go_num, HN.out, HB2.out⟩
        case measure => simp [intOf]; omega
    · obtain rfl : i = D.length := by omega
      have hRi : R = -1 := by rw [← HR.out]; refine idx_miss ?_; have := HB.out; rwa [List.take_length] at this
      have HRI := Lib.hid hRi
      clear hRi
      go_wp2_with fail
      go_ret
      exact ⟨ret_int HRI.out.symm, HBW.out⟩

set_option maxRecDepth 100000 in
set_option maxHeartbeats 1600000 in
theorem msgsSearch (F : Nat) (cap : Array Value) (eg : ∀ args w, (callFunc F args).run Try.prog w = .ok (.enter F args) w) (p : MsgD → Bool) (A : Option Addr) (c : Nat) (D : List MsgD) (S : Nat → Prop) (w : World) (h : SlAt MsgD.cells 2 S w A c D)
    (hF : ∀ d ∈ D, ∀ wx, Below w.heap.size w wx → Calls Try.prog F (#[d.agg] ++ cap) wx fun e w' => e = .returned (.bool (p d)) ∧ Below wx.heap.size wx w') :
    Calls Try.prog 42 #[.slice A D.length c, .func (.func F) #[] cap] w fun e w' => e = .returned (.tuple #[.int .i64 (max (idxOf p D) 0), .bool (D.any p)]) ∧ Below w.heap.size w w' := by
  have HI := Lib.hid (msgsIndex F cap eg p A c D S w h hF)
  have hnn : decide (0 ≤ idxOf p D) = D.any p := by
    rw [Bool.eq_iff_iff, decide_eq_true_iff]
    exact idx_nonneg p D 0
  obtain ⟨k, hk⟩ : ∃ k, idxOf p D = k := ⟨_, rfl⟩
  rw [hk] at HI hnn ⊢
  obtain ⟨M, hM⟩ : ∃ M, max k 0 = M := ⟨_, rfl⟩
  rw [hM]
  have f1 : (if k < 0 then 0 else k) = M := by rw [← hM]; split <;> omega
  obtain ⟨bv, hbv⟩ : ∃ bv, D.any p = bv := ⟨_, rfl⟩
  rw [hbv] at hnn ⊢
  clear h hF hk hM hbv
  go_enter Try.func42, Try.ntmps42
  go_wp2_with fail
  refine HI.out.mono ?_
  rintro e w2 ⟨rfl, hb2⟩
  have HB2 := Lib.hid hb2
  clear hb2
  go_wp2_with fail
  go_ret2
  exact ⟨rfl, HB2.out⟩

theorem Try.entCase1 : ∀ args w, (callFunc 40 args).run Try.prog w = .ok (.enter 40 args) w := enters_of Try.func40 (by kernel_rfl) rfl
theorem Try.entFindM1 : ∀ args w, (callFunc 43 args).run Try.prog w = .ok (.enter 43 args) w := enters_of Try.func43 (by kernel_rfl) rfl

set_option maxRecDepth 100000 in
set_option maxHeartbeats 800000 in
theorem case1_any (d : CaseD) (s : Int) (b : Nat) (w : World) (h : w.cell? ⟨b, 0, none⟩ = some (.int .i64 s)) :
    Calls Try.prog 40 #[d.agg, .pointer (some ⟨b, 0, none⟩)] w fun e w' => e = .returned (.bool (inB s d.lo d.hi)) ∧ Below w.heap.size w w' := by
  unfold CaseD.agg
  have hbl := World.block_lt_of_cell? _ _ h
  have hal := below_alloc w (.cells #[.int .i64 d.lo, .int .i64 d.hi, .string (strL d.of_)] 62)
  have hbx : (w.alloc (.cells #[.int .i64 d.lo, .int .i64 d.hi, .string (strL d.of_)] 62)).heap[w.heap.size]? = some (.cells #[.int .i64 d.lo, .int .i64 d.hi, .string (strL d.of_)] 62 (0, 0)) := heap_alloc_new w _
  have h1 := (hal.cell (p := ⟨b, 0, none⟩) hbl).trans h
  obtain ⟨cb, eb⟩ : ∃ cb, w.heap.size = cb := ⟨_, rfl⟩
  obtain ⟨w1, hw1⟩ : ∃ w1, w.alloc (.cells #[.int .i64 d.lo, .int .i64 d.hi, .string (strL d.of_)] 62) = w1 := ⟨_, rfl⟩
  rw [hw1] at hal hbx h1
  rw [eb] at hbx
  have y0 : w1.cell? ⟨cb, 0, none⟩ = some (.int .i64 d.lo) := by simp [World.cell?, hbx]
  have y1 : w1.cell? ⟨cb, 1, none⟩ = some (.int .i64 d.hi) := by simp [World.cell?, hbx]
  have HWI := Lib.hid (withinS s d.lo d.hi w1)
  obtain ⟨R, hR⟩ : ∃ R, inB s d.lo d.hi = R := ⟨_, rfl⟩
  rw [hR] at HWI ⊢
  have HW := Lib.hid hw1
  have EB := Lib.hid eb
  have HAL := Lib.hid hal
  clear hal h hw1 eb hbx hR hbl
  go_enter Try.func40, Try.ntmps40
  go_upto_region 1 with fail
  rw [HW.out, EB.out]
  go_wp2_with fail
  refine HWI.out.mono ?_
  rintro e w' ⟨rfl, hw'⟩
  have hw'' := hw'.symm
  clear hw'
  subst hw''
  go_wp2_with fail
  go_ret
  exact ⟨rfl, HAL.out⟩

set_option maxRecDepth 100000 in
set_option maxHeartbeats 800000 in
theorem find1_any (d : MsgD) (s : List UInt8) (b : Nat) (w : World) (h : w.cell? ⟨b, 0, none⟩ = some (.string (strL s))) :
    Calls Try.prog 43 #[d.agg, .pointer (some ⟨b, 0, none⟩)] w fun e w' => e = .returned (.bool (d.name == s)) ∧ Below w.heap.size w w' := by
  unfold MsgD.agg
  have hbl := World.block_lt_of_cell? _ _ h
  have hal := below_alloc w (.cells #[.string (strL d.name), .slice d.fa d.fields.length d.fc] 50)
  have h1 := (hal.cell (p := ⟨b, 0, none⟩) hbl).trans h
  have HAL := Lib.hid hal
  clear hal h
  by_cases he : d.name = s
  · subst he
    go_enter Try.func43, Try.ntmps43
    go_wp2
    go_ret
    exact ⟨ret_bool (by simp), HAL.out⟩
  · have e1 := text_ne he
    have HE := Lib.hid he
    clear he
    go_enter Try.func43, Try.ntmps43
    go_wp2
    go_ret
    exact ⟨ret_bool (by simpa using HE.out), HAL.out⟩

set_option maxRecDepth 100000 in
set_option maxHeartbeats 1600000 in
theorem case_find (d : FieldD) (s : Int) (S : Nat → Prop) (w : World) (h : SlAt CaseD.cells 3 S w d.ca d.cc d.cases) :
    Calls Try.prog 11 #[d.agg, .int .i64 s] w fun e w' => e = .returned (.tuple #[.int .i64 (max (idxOf (fun c : CaseD => inB s c.lo c.hi) d.cases) 0), .bool (d.cases.any (fun c : CaseD => inB s c.lo c.hi))]) ∧ Below w.heap.size w w' := by
  unfold FieldD.agg
  obtain ⟨wa, hwa⟩ : ∃ wa, w.alloc (.cells #[.string (strL d.name), .int .i64 d.kind, .int .i64 d.bits, .bool d.little, .bool d.loose, .int .i64 d.low, .int .i64 d.high, .int .i64 d.base, .slice d.ta d.terms.length d.tc, .string (strL d.of_), .string (strL d.tag), .string (strL d.from_), .slice d.ca d.cases.length d.cc, .int .i64 d.check, .int .i64 d.key] 28) = wa := ⟨_, rfl⟩
  obtain ⟨w1, hw1⟩ : ∃ w1, wa.alloc (.cells #[.int .i64 s] 3) = w1 := ⟨_, rfl⟩
  have hw : (w.alloc (.cells #[.string (strL d.name), .int .i64 d.kind, .int .i64 d.bits, .bool d.little, .bool d.loose, .int .i64 d.low, .int .i64 d.high, .int .i64 d.base, .slice d.ta d.terms.length d.tc, .string (strL d.of_), .string (strL d.tag), .string (strL d.from_), .slice d.ca d.cases.length d.cc, .int .i64 d.check, .int .i64 d.key] 28)).alloc (.cells #[.int .i64 s] 3) = w1 := by rw [hwa, hw1]
  have ba : Below w.heap.size w wa := by rw [← hwa]; exact below_alloc _ _
  have b1 : Below wa.heap.size wa w1 := by rw [← hw1]; exact below_alloc _ _
  have hb0 : Below w.heap.size w w1 := ba.trans (b1.mono ba.size)
  have s1 : wa.heap.size = w.heap.size + 1 := by rw [← hwa]; simp
  have x1 : FBox w1 w.heap.size d := (by rw [← hwa]; exact FBox.new w d : FBox wa w.heap.size d).below b1 (by omega)
  have x2 : Boxed w1 (w.heap.size + 1) 3 (.int .i64 s) := by rw [← hw1, ← s1]; exact Boxed.new wa _ _
  have h1 := h.below hb0
  obtain ⟨b, eb⟩ : ∃ b, w.heap.size = b := ⟨_, rfl⟩
  rw [eb] at x1 x2
  have y1 := x1.c12
  have HS := Lib.hid (casesSearch 40 #[.pointer (some ⟨b + 1, 0, none⟩)] Try.entCase1 (fun c => inB s c.lo c.hi) d.ca d.cc d.cases S w1 h1 (fun c _ wx hb => case1_any c s (b + 1) wx (boxed_below x2 hb x2.lt).cell))
  obtain ⟨R1, hR1⟩ : ∃ R1, max (idxOf (fun c : CaseD => inB s c.lo c.hi) d.cases) 0 = R1 := ⟨_, rfl⟩
  obtain ⟨R2, hR2⟩ : ∃ R2, d.cases.any (fun c : CaseD => inB s c.lo c.hi) = R2 := ⟨_, rfl⟩
  rw [hR1, hR2] at HS ⊢
  have HW := Lib.hid hw
  have EB := Lib.hid eb
  have HB0 := Lib.hid hb0
  clear h hwa hw1 hw ba b1 hb0 s1 x1 x2 h1 eb hR1 hR2
  go_enter Try.func11, Try.ntmps11
  go_upto_region 1 with fail
  rw [HW.out, EB.out]
  go_wp2_with fail
  refine HS.out.mono ?_
  rintro e w2 ⟨rfl, hb2⟩
  have HB2 := Lib.hid (HB0.out.trans (hb2.mono HB0.out.size))
  clear hb2
  go_wp2_with fail
  go_ret2
  exact ⟨rfl, HB2.out⟩

set_option maxRecDepth 100000 in
set_option maxHeartbeats 1600000 in
theorem msg_find (nm st : List UInt8) (A : Option Addr) (c : Nat) (D : List MsgD) (s : List UInt8) (S : Nat → Prop) (w : World) (h : SlAt MsgD.cells 2 S w A c D) :
    Calls Try.prog 19 #[.agg #[.string (strL nm), .slice A D.length c, .string (strL st)], .string (strL s)] w fun e w' => e = .returned (.tuple #[.int .i64 (max (idxOf (fun d : MsgD => d.name == s) D) 0), .bool (D.any (fun d : MsgD => d.name == s))]) ∧ Below w.heap.size w w' := by
  obtain ⟨wa, hwa⟩ : ∃ wa, w.alloc (.cells #[.string (strL nm), .slice A D.length c, .string (strL st)] 44) = wa := ⟨_, rfl⟩
  obtain ⟨w1, hw1⟩ : ∃ w1, wa.alloc (.cells #[.string (strL s)] 9) = w1 := ⟨_, rfl⟩
  have hw : (w.alloc (.cells #[.string (strL nm), .slice A D.length c, .string (strL st)] 44)).alloc (.cells #[.string (strL s)] 9) = w1 := by rw [hwa, hw1]
  have ba : Below w.heap.size w wa := by rw [← hwa]; exact below_alloc _ _
  have b1 : Below wa.heap.size wa w1 := by rw [← hw1]; exact below_alloc _ _
  have hb0 : Below w.heap.size w w1 := ba.trans (b1.mono ba.size)
  have s1 : wa.heap.size = w.heap.size + 1 := by rw [← hwa]; simp
  have x1 : w1.heap[w.heap.size]? = some (.cells #[.string (strL nm), .slice A D.length c, .string (strL st)] 44 (0, 0)) := (b1.block _ (by omega)).trans (by rw [← hwa]; exact heap_alloc_new w _)
  have x2 : Boxed w1 (w.heap.size + 1) 9 (.string (strL s)) := by rw [← hw1, ← s1]; exact Boxed.new wa _ _
  have h1 := h.below hb0
  obtain ⟨b, eb⟩ : ∃ b, w.heap.size = b := ⟨_, rfl⟩
  rw [eb] at x1 x2
  have y1 : w1.cell? ⟨b, 1, none⟩ = some (.slice A D.length c) := by simp [World.cell?, x1]
  have HS := Lib.hid (msgsSearch 43 #[.pointer (some ⟨b + 1, 0, none⟩)] Try.entFindM1 (fun d => d.name == s) A c D S w1 h1 (fun d _ wx hb => find1_any d s (b + 1) wx (boxed_below x2 hb x2.lt).cell))
  obtain ⟨R1, hR1⟩ : ∃ R1, max (idxOf (fun d : MsgD => d.name == s) D) 0 = R1 := ⟨_, rfl⟩
  obtain ⟨R2, hR2⟩ : ∃ R2, D.any (fun d : MsgD => d.name == s) = R2 := ⟨_, rfl⟩
  rw [hR1, hR2] at HS ⊢
  have HW := Lib.hid hw
  have EB := Lib.hid eb
  have HB0 := Lib.hid hb0
  clear h hwa hw1 hw ba b1 hb0 s1 x1 x2 h1 eb hR1 hR2
  go_enter Try.func19, Try.ntmps19
  go_upto_region 1 with fail
  rw [HW.out, EB.out]
  go_wp2_with fail
  refine HS.out.mono ?_
  rintro e w2 ⟨rfl, hb2⟩
  have HB2 := Lib.hid (HB0.out.trans (hb2.mono HB0.out.size))
  clear hb2
  go_wp2_with fail
  go_ret2
  exact ⟨rfl, HB2.out⟩
end Go.Proofs.Ytbpkppmbbpoohaa

namespace Go.Proofs.Ytbpkppmbbpoohaa
open Go.RowKit Go.Shelf

theorem numB_eq (d : FieldD) : numB d = (decide (1 ≤ d.kind) && decide (d.kind ≤ 3)) := by
  rw [Bool.eq_iff_iff]; simp [numB]; omega

set_option maxRecDepth 100000 in
set_option maxHeartbeats 1600000 in
theorem refNumber_any (d : FieldD) (w : World) : Calls Try.prog 14 #[d.agg] w fun e w' => e = .returned (.bool (numB d)) ∧ Below w.heap.size w w' := by
  unfold FieldD.agg
  have hal := below_alloc w (.cells #[.string (strL d.name), .int .i64 d.kind, .int .i64 d.bits, .bool d.little, .bool d.loose, .int .i64 d.low, .int .i64 d.high, .int .i64 d.base, .slice d.ta d.terms.length d.tc, .string (strL d.of_), .string (strL d.tag), .string (strL d.from_), .slice d.ca d.cases.length d.cc, .int .i64 d.check, .int .i64 d.key] 28)
  have hbx := FBox.new w d
  obtain ⟨b, eb⟩ : ∃ b, w.heap.size = b := ⟨_, rfl⟩
  obtain ⟨w1, hw1⟩ : ∃ w1, w.alloc (.cells #[.string (strL d.name), .int .i64 d.kind, .int .i64 d.bits, .bool d.little, .bool d.loose, .int .i64 d.low, .int .i64 d.high, .int .i64 d.base, .slice d.ta d.terms.length d.tc, .string (strL d.of_), .string (strL d.tag), .string (strL d.from_), .slice d.ca d.cases.length d.cc, .int .i64 d.check, .int .i64 d.key] 28) = w1 := ⟨_, rfl⟩
  rw [hw1] at hal hbx
  rw [eb] at hbx
  have HW := Lib.hid hw1
  have EB := Lib.hid eb
  have HAL := Lib.hid hal
  have y1 := hbx.c1
  obtain ⟨s1, e1⟩ : ∃ s, decide (1 ≤ d.kind) = s := ⟨_, rfl⟩
  obtain ⟨s2, e2⟩ : ∃ s, decide (d.kind ≤ 3) = s := ⟨_, rfl⟩
  have hr : numB d = (s1 && s2) := by rw [numB_eq, e1, e2]
  rw [hr]
  clear hal hbx eb hw1 hr
  cases s1 <;> cases s2
  all_goals
    go_enter Try.func14, Try.ntmps14
    go_upto_region 1 with fail
    rw [HW.out, EB.out]
    go_wp2_with fail
    go_ret
    exact ⟨rfl, HAL.out⟩

set_option maxRecDepth 100000 in
set_option maxHeartbeats 1600000 in
theorem refHasvalue_any (d : FieldD) (w : World) : Calls Try.prog 16 #[d.agg] w fun e w' => e = .returned (.bool (hasvB d)) ∧ Below w.heap.size w w' := by
  unfold FieldD.agg
  have hal := below_alloc w (.cells #[.string (strL d.name), .int .i64 d.kind, .int .i64 d.bits, .bool d.little, .bool d.loose, .int .i64 d.low, .int .i64 d.high, .int .i64 d.base, .slice d.ta d.terms.length d.tc, .string (strL d.of_), .string (strL d.tag), .string (strL d.from_), .slice d.ca d.cases.length d.cc, .int .i64 d.check, .int .i64 d.key] 28)
  have hbx := FBox.new w d
  obtain ⟨b, eb⟩ : ∃ b, w.heap.size = b := ⟨_, rfl⟩
  obtain ⟨w1, hw1⟩ : ∃ w1, w.alloc (.cells #[.string (strL d.name), .int .i64 d.kind, .int .i64 d.bits, .bool d.little, .bool d.loose, .int .i64 d.low, .int .i64 d.high, .int .i64 d.base, .slice d.ta d.terms.length d.tc, .string (strL d.of_), .string (strL d.tag), .string (strL d.from_), .slice d.ca d.cases.length d.cc, .int .i64 d.check, .int .i64 d.key] 28) = w1 := ⟨_, rfl⟩
  rw [hw1] at hal hbx
  rw [eb] at hbx
  have HW := Lib.hid hw1
  have EB := Lib.hid eb
  have HAL := Lib.hid hal
  have y1 := hbx.c1
  obtain ⟨s2, e2⟩ : ∃ s, (d.kind == 2) = s := ⟨_, rfl⟩
  obtain ⟨s10, e10⟩ : ∃ s, (d.kind == 10) = s := ⟨_, rfl⟩
  obtain ⟨s11, e11⟩ : ∃ s, (d.kind == 11) = s := ⟨_, rfl⟩
  obtain ⟨R, hR⟩ : ∃ R, hasvB d = R := ⟨_, rfl⟩
  have hr : R = (!s2 && !s10 && !s11) := by rw [← hR]; unfold hasvB; rw [e2, e10, e11]
  rw [hR]
  have HR := Lib.hid hr
  have f2 : (d.kind != 2) = !s2 := by rw [← e2]; rfl
  have f10 : (d.kind != 10) = !s10 := by rw [← e10]; rfl
  have f11 : (d.kind != 11) = !s11 := by rw [← e11]; rfl
  clear hal hbx eb hw1 hR hr
  cases s2
  · cases s10
    · cases s11
      all_goals
        go_enter Try.func16, Try.ntmps16
        go_upto_region 1 with fail
        rw [HW.out, EB.out]
        go_wp2_with fail
        go_ret
        exact ⟨ret_bool HR.out.symm, HAL.out⟩
    · go_enter Try.func16, Try.ntmps16
      go_upto_region 1 with fail
      rw [HW.out, EB.out]
      go_wp2_with fail
      go_ret
      exact ⟨ret_bool HR.out.symm, HAL.out⟩
  · go_enter Try.func16, Try.ntmps16
    go_upto_region 1 with fail
    rw [HW.out, EB.out]
    go_wp2_with fail
    go_ret
    exact ⟨ret_bool HR.out.symm, HAL.out⟩

set_option maxRecDepth 100000 in
set_option maxHeartbeats 1600000 in
theorem refRange_any (d : FieldD) (w : World) : Calls Try.prog 17 #[d.agg] w fun e w' => e = .returned (.tuple #[.int .i64 (ranP d).1, .int .i64 (ranP d).2]) ∧ Below w.heap.size w w' := by
  unfold FieldD.agg
  have hal := below_alloc w (.cells #[.string (strL d.name), .int .i64 d.kind, .int .i64 d.bits, .bool d.little, .bool d.loose, .int .i64 d.low, .int .i64 d.high, .int .i64 d.base, .slice d.ta d.terms.length d.tc, .string (strL d.of_), .string (strL d.tag), .string (strL d.from_), .slice d.ca d.cases.length d.cc, .int .i64 d.check, .int .i64 d.key] 28)
  have hbx := FBox.new w d
  obtain ⟨b, eb⟩ : ∃ b, w.heap.size = b := ⟨_, rfl⟩
  obtain ⟨w1, hw1⟩ : ∃ w1, w.alloc (.cells #[.string (strL d.name), .int .i64 d.kind, .int .i64 d.bits, .bool d.little, .bool d.loose, .int .i64 d.low, .int .i64 d.high, .int .i64 d.base, .slice d.ta d.terms.length d.tc, .string (strL d.of_), .string (strL d.tag), .string (strL d.from_), .slice d.ca d.cases.length d.cc, .int .i64 d.check, .int .i64 d.key] 28) = w1 := ⟨_, rfl⟩
  rw [hw1] at hal hbx
  rw [eb] at hbx
  have HW := Lib.hid hw1
  have EB := Lib.hid eb
  have HAL := Lib.hid hal
  have y1 := hbx.c1
  have y5 := hbx.c5
  have y6 := hbx.c6
  obtain ⟨⟨a, c⟩, hR⟩ : ∃ R, ranP d = R := ⟨_, rfl⟩
  rw [hR]
  have HR := Lib.hid hR
  obtain ⟨s2, e2⟩ : ∃ s, (d.kind == 2) = s := ⟨_, rfl⟩
  clear hal hbx eb hw1 hR
  cases s2
  · have hR : (d.low, d.high) = (a, c) := by
      have := HR.out
      unfold ranP at this
      rwa [e2, if_neg (by simp)] at this
    simp only [Prod.mk.injEq] at hR
    obtain ⟨rfl, rfl⟩ := hR
    clear HR
    go_enter Try.func17, Try.ntmps17
    go_upto_region 1 with fail
    rw [HW.out, EB.out]
    go_wp2_with fail
    go_quiet (fail)
    go_wp2_with fail
    go_ret2
    exact ⟨rfl, HAL.out.trans ((below_drewN _ _).mono HAL.out.size)⟩
  · have hR : (d.low, d.low) = (a, c) := by
      have := HR.out
      unfold ranP at this
      rwa [e2, if_pos rfl] at this
    simp only [Prod.mk.injEq] at hR
    obtain ⟨rfl, rfl⟩ := hR
    clear HR
    go_enter Try.func17, Try.ntmps17
    go_upto_region 1 with fail
    rw [HW.out, EB.out]
    go_wp2_with fail
    go_quiet (fail)
    go_wp2_with fail
    go_ret2
    exact ⟨rfl, HAL.out.trans ((below_drewN _ _).mono HAL.out.size)⟩

set_option maxRecDepth 100000 in
set_option maxHeartbeats 1600000 in
theorem refCase_any (d : FieldD) (s : Int) (S : Nat → Prop) (w : World) (h : SlAt CaseD.cells 3 S w d.ca d.cc d.cases) :
    Calls Try.prog 12 #[d.agg, .int .i64 s] w fun e w' => e = .returned (.int .i64 (idxOf (fun c : CaseD => inB s c.lo c.hi) d.cases)) ∧ Below w.heap.size w w' := by
  have hl : d.cases.length ≤ 9223372036854775807 := Nat.le_trans h.1 h.2.1
  unfold FieldD.agg
  have hal := below_alloc w (.cells #[.string (strL d.name), .int .i64 d.kind, .int .i64 d.bits, .bool d.little, .bool d.loose, .int .i64 d.low, .int .i64 d.high, .int .i64 d.base, .slice d.ta d.terms.length d.tc, .string (strL d.of_), .string (strL d.tag), .string (strL d.from_), .slice d.ca d.cases.length d.cc, .int .i64 d.check, .int .i64 d.key] 28)
  have hbx := FBox.new w d
  have h1 := h.below hal
  obtain ⟨b, eb⟩ : ∃ b, w.heap.size = b := ⟨_, rfl⟩
  obtain ⟨w1, hw1⟩ : ∃ w1, w.alloc (.cells #[.string (strL d.name), .int .i64 d.kind, .int .i64 d.bits, .bool d.little, .bool d.loose, .int .i64 d.low, .int .i64 d.high, .int .i64 d.base, .slice d.ta d.terms.length d.tc, .string (strL d.of_), .string (strL d.tag), .string (strL d.from_), .slice d.ca d.cases.length d.cc, .int .i64 d.check, .int .i64 d.key] 28) = w1 := ⟨_, rfl⟩
  rw [hw1] at hal hbx h1
  rw [eb] at hbx
  have HW := Lib.hid hw1
  have EB := Lib.hid eb
  have HAL := Lib.hid hal
  have y1 := hbx.c12
  have H := Lib.hid h1
  obtain ⟨R, hR⟩ : ∃ R, idxOf (fun c : CaseD => inB s c.lo c.hi) d.cases = R := ⟨_, rfl⟩
  rw [hR]
  have HR := Lib.hid hR
  clear hal hbx eb hw1 h h1 hR
  go_enter Try.func12, Try.ntmps12
  go_upto_region 1 with fail
  rw [HW.out, EB.out]
  go_wp2_with fail
  go_loop [5] (fun x5 => ∃ i : Nat, i ≤ d.cases.length ∧ x5 = .int .i64 ((i : Nat) : Int) ∧ ∀ x ∈ d.cases.take i, inB s x.lo x.hi = false) (fun x5 => d.cases.length - (intOf x5).toNat)
  case atStart => exact ⟨0, Nat.zero_le _, rfl, by simp⟩
  case round =>
    obtain ⟨i, hi, rfl, hb⟩ := hrel
    have HB := Lib.hid hb
    clear hb
    by_cases hlt : i < d.cases.length
    · obtain ⟨c, hc⟩ : ∃ c, d.cases[i]? = some c := ⟨_, List.getElem?_eq_getElem hlt⟩
      obtain ⟨g, o, hA, hx⟩ := H.out.at_ hc
      have y2 := y1
      rw [hA] at y2
      have x0 : w1.cell? ⟨g, o + i * 3, none⟩ = some (.int .i64 c.lo) := hx 0 _ rfl
      have x1 : w1.cell? ⟨g, o + i * 3 + 1, none⟩ = some (.int .i64 c.hi) := hx 1 _ rfl
      have HC := Lib.hid hc
      clear hA hx hc y1
      by_cases h1 : c.lo ≤ s
      · have e1 : decide (c.lo ≤ s) = true := by simpa using h1
        by_cases h2 : s ≤ c.hi
        · have e2 : decide (s ≤ c.hi) = true := by simpa using h2
          have hRi : R = ((i : Nat) : Int) := by rw [← HR.out]; exact idx_hit HC.out HB.out (by show inB s c.lo c.hi = true; simp [inB, h1, h2])
          have HRI := Lib.hid hRi
          clear hRi h1 h2
          go_wp2_with fail
          go_ret
          exact ⟨ret_int HRI.out.symm, HAL.out⟩
        · have e2 : decide (s ≤ c.hi) = false := by simpa using h2
          have HN := Lib.hid (take_none (p := fun c : CaseD => inB s c.lo c.hi) HC.out HB.out (by show inB s c.lo c.hi = false; simp [inB, h2]))
          clear h1 h2
          go_wp2_with fail
          go_round
          case rel => exact ⟨i + 1, by omega, by go_num, HN.out⟩
          case measure => simp [intOf]; omega
      · have e1 : decide (c.lo ≤ s) = false := by simpa using h1
        have HN := Lib.hid (take_none (p := fun c : CaseD => inB s c.lo c.hi) HC.out HB.out (by show inB s c.lo c.hi = false; simp [inB, h1]))
        clear h1
        go_wp2_with fail
        go_round
        case rel => exact ⟨i + 1, by omega, by go_num, HN.out⟩
        case measure => simp [intOf]; omega
    · obtain rfl : i = d.cases.length := by omega
      have hRi : R = -1 := by rw [← HR.out]; refine idx_miss ?_; have := HB.out; rwa [List.take_length] at this
      have HRI := Lib.hid hRi
      clear hRi
      go_wp2_with fail
      go_ret
      exact ⟨ret_int HRI.out.symm, HAL.out⟩
end Go.Proofs.Ytbpkppmbbpoohaa
