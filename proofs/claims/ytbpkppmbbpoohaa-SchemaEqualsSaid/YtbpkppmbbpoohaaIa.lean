/- slices.IndexFunc and search; the field with a name. Conditions: the fields lie in memory. -/
import Derived.Test.YtbpkppmbbpoohaaGa
namespace Go.Proofs.Ytbpkppmbbpoohaa
open Go.RowKit Go.Shelf

set_option maxRecDepth 100000 in
set_option maxHeartbeats 1600000 in
theorem fieldsIndex (F : Nat) (cap : Array Value) (eg : ∀ args w, (callFunc F args).run Try.prog w = .ok (.enter F args) w) (p : FieldD → Bool) (A : Option Addr) (c : Nat) (D : List FieldD) (S : Nat → Prop) (w : World) (h : SlAt FieldD.cells 15 S w A c D)
    (hF : ∀ d ∈ D, ∀ wx, Below w.heap.size w wx → Calls Try.prog F (#[d.agg] ++ cap) wx fun e w' => e = .returned (.bool (p d)) ∧ Below wx.heap.size wx w') :
    Calls Try.prog 64 #[.slice A D.length c, .func (.func F) #[] cap] w fun e w' => e = .returned (.int .i64 (idxOf p D)) ∧ Below w.heap.size w w' := by
  have hl : D.length ≤ 9223372036854775807 := Nat.le_trans h.1 h.2.1
  have H := Lib.hid h
  have HF := Lib.hid hF
  obtain ⟨R, hR⟩ : ∃ R, idxOf p D = R := ⟨_, rfl⟩
  rw [hR]
  have HR := Lib.hid hR
  clear h hR hF
  go_enter Try.func64, Try.ntmps64
  go_wp2
  go_loopw [8] (fun x8 wr => ∃ i : Nat, i ≤ D.length ∧ x8 = .int .i64 ((i : Nat) : Int) ∧ (∀ x ∈ D.take i, p x = false) ∧ Below w.heap.size w wr) (fun x8 _ => D.length - (intOf x8).toNat)
  case atStart => exact ⟨0, Nat.zero_le _, rfl, by simp, Below.refl _ _⟩
  case round =>
    obtain ⟨i, hi, rfl, hb, hbw⟩ := hrel
    have HB := Lib.hid hb
    have HBW := Lib.hid hbw
    clear hb hbw
    by_cases hlt : i < D.length
    · obtain ⟨d, hd⟩ : ∃ d, D[i]? = some d := ⟨_, List.getElem?_eq_getElem hlt⟩
      obtain ⟨g, o, rfl, hx⟩ := (H.out.rest (Rest.below HBW.out) (fun _ _ e => e)).at_ hd
      have HFD := Lib.hid (HF.out d (List.mem_of_getElem? hd) wr HBW.out)
      have y0 : wr.cell? ⟨g, o + i * 15, none⟩ = some (.string (strL d.name)) := hx 0 _ rfl
      have y1 : wr.cell? ⟨g, o + i * 15 + 1, none⟩ = some (.int .i64 d.kind) := hx 1 _ rfl
      have y2 : wr.cell? ⟨g, o + i * 15 + 2, none⟩ = some (.int .i64 d.bits) := hx 2 _ rfl
      have y3 : wr.cell? ⟨g, o + i * 15 + 3, none⟩ = some (.bool d.little) := hx 3 _ rfl
      have y4 : wr.cell? ⟨g, o + i * 15 + 4, none⟩ = some (.bool d.loose) := hx 4 _ rfl
      have y5 : wr.cell? ⟨g, o + i * 15 + 5, none⟩ = some (.int .i64 d.low) := hx 5 _ rfl
      have y6 : wr.cell? ⟨g, o + i * 15 + 6, none⟩ = some (.int .i64 d.high) := hx 6 _ rfl
      have y7 : wr.cell? ⟨g, o + i * 15 + 7, none⟩ = some (.int .i64 d.base) := hx 7 _ rfl
      have y8 : wr.cell? ⟨g, o + i * 15 + 8, none⟩ = some (.slice d.ta d.terms.length d.tc) := hx 8 _ rfl
      have y9 : wr.cell? ⟨g, o + i * 15 + 9, none⟩ = some (.string (strL d.of_)) := hx 9 _ rfl
      have y10 : wr.cell? ⟨g, o + i * 15 + 10, none⟩ = some (.string (strL d.tag)) := hx 10 _ rfl
      have y11 : wr.cell? ⟨g, o + i * 15 + 11, none⟩ = some (.string (strL d.from_)) := hx 11 _ rfl
      have y12 : wr.cell? ⟨g, o + i * 15 + 12, none⟩ = some (.slice d.ca d.cases.length d.cc) := hx 12 _ rfl
      have y13 : wr.cell? ⟨g, o + i * 15 + 13, none⟩ = some (.int .i64 d.check) := hx 13 _ rfl
      have y14 : wr.cell? ⟨g, o + i * 15 + 14, none⟩ = some (.int .i64 d.key) := hx 14 _ rfl
      have HD := Lib.hid hd
      clear hd hx
      cases hv : p d with
      | true =>
        rw [hv] at HFD
        unfold FieldD.agg at HFD
        have hRi : R = ((i : Nat) : Int) := by rw [← HR.out]; exact idx_hit HD.out HB.out hv
        have HRI := Lib.hid hRi
        clear hRi hv
        go_wp2_with fail
        refine HFD.out.mono ?_
        rintro e w2 ⟨rfl, hb2⟩
        have HB2 := Lib.hid (HBW.out.trans (hb2.mono HBW.out.size))
        clear hb2
        go_wp2_with fail
        go_ret
        exact ⟨ret_int HRI.out.symm, HB2.out⟩
      | false =>
        rw [hv] at HFD
        unfold FieldD.agg at HFD
        have hn := take_none HD.out HB.out hv
        have HN := Lib.hid hn
        clear hn hv
        go_wp2_with fail
        refine HFD.out.mono ?_
        rintro e w2 ⟨rfl, hb2⟩
        have HB2 := Lib.hid (HBW.out.trans (hb2.mono HBW.out.size))
        clear hb2
        go_wp2_with fail
        go_roundw
        case rel => exact ⟨i + 1, by omega, by go_num, HN.out, HB2.out⟩
        case measure => simp [intOf]; omega
    · obtain rfl : i = D.length := by omega
      have hRi : R = -1 := by rw [← HR.out]; refine idx_miss ?_; have := HB.out; rwa [List.take_length] at this
      have HRI := Lib.hid hRi
      clear hRi
      go_wp2_with fail
      go_ret
      exact ⟨ret_int HRI.out.symm, HBW.out⟩

set_option maxRecDepth 100000 in
set_option maxHeartbeats 1600000 in
theorem fieldsSearch (F : Nat) (cap : Array Value) (eg : ∀ args w, (callFunc F args).run Try.prog w = .ok (.enter F args) w) (p : FieldD → Bool) (A : Option Addr) (c : Nat) (D : List FieldD) (S : Nat → Prop) (w : World) (h : SlAt FieldD.cells 15 S w A c D)
    (hF : ∀ d ∈ D, ∀ wx, Below w.heap.size w wx → Calls Try.prog F (#[d.agg] ++ cap) wx fun e w' => e = .returned (.bool (p d)) ∧ Below wx.heap.size wx w') :
    Calls Try.prog 44 #[.slice A D.length c, .func (.func F) #[] cap] w fun e w' => e = .returned (.tuple #[.int .i64 (max (idxOf p D) 0), .bool (D.any p)]) ∧ Below w.heap.size w w' := by
  have HI := Lib.hid (fieldsIndex F cap eg p A c D S w h hF)
  have hnn : decide (0 ≤ idxOf p D) = D.any p := by
    rw [Bool.eq_iff_iff, decide_eq_true_iff]
    exact idx_nonneg p D 0
  obtain ⟨k, hk⟩ : ∃ k, idxOf p D = k := ⟨_, rfl⟩
  rw [hk] at HI hnn ⊢
  obtain ⟨M, hM⟩ : ∃ M, max k 0 = M := ⟨_, rfl⟩
  rw [hM]
  have f1 : (if k < 0 then 0 else k) = M := by rw [← hM]; split <;> omega
  obtain ⟨bv, hbv⟩ : ∃ bv, D.any p = bv := ⟨_, rfl⟩
  rw [hbv] at hnn ⊢
  clear h hF hk hM hbv
  go_enter Try.func44, Try.ntmps44
  go_wp2_with fail
  refine HI.out.mono ?_
  rintro e w2 ⟨rfl, hb2⟩
  have HB2 := Lib.hid hb2
  clear hb2
  go_wp2_with fail
  go_ret2
  exact ⟨rfl, HB2.out⟩

theorem Try.entField1 : ∀ args w, (callFunc 45 args).run Try.prog w = .ok (.enter 45 args) w := enters_of Try.func45 (by kernel_rfl) rfl

set_option maxRecDepth 100000 in
set_option maxHeartbeats 800000 in
theorem field1_any (d : FieldD) (s : List UInt8) (b : Nat) (w : World) (h : w.cell? ⟨b, 0, none⟩ = some (.string (strL s))) :
    Calls Try.prog 45 #[d.agg, .pointer (some ⟨b, 0, none⟩)] w fun e w' => e = .returned (.bool (d.name == s)) ∧ Below w.heap.size w w' := by
  unfold FieldD.agg
  have hbl := World.block_lt_of_cell? _ _ h
  have hal := below_alloc w (.cells #[.string (strL d.name), .int .i64 d.kind, .int .i64 d.bits, .bool d.little, .bool d.loose, .int .i64 d.low, .int .i64 d.high, .int .i64 d.base, .slice d.ta d.terms.length d.tc, .string (strL d.of_), .string (strL d.tag), .string (strL d.from_), .slice d.ca d.cases.length d.cc, .int .i64 d.check, .int .i64 d.key] 28)
  have h1 := (hal.cell (p := ⟨b, 0, none⟩) hbl).trans h
  have HAL := Lib.hid hal
  clear hal h
  by_cases he : d.name = s
  · subst he
    go_enter Try.func45, Try.ntmps45
    go_wp2
    go_ret
    exact ⟨ret_bool (by simp), HAL.out⟩
  · have e1 := text_ne he
    have HE := Lib.hid he
    clear he
    go_enter Try.func45, Try.ntmps45
    go_wp2
    go_ret
    exact ⟨ret_bool (by simpa using HE.out), HAL.out⟩

set_option maxRecDepth 100000 in
set_option maxHeartbeats 1600000 in
theorem field_find (nm : List UInt8) (A : Option Addr) (c : Nat) (D : List FieldD) (s : List UInt8) (S : Nat → Prop) (w : World) (h : SlAt FieldD.cells 15 S w A c D) :
    Calls Try.prog 21 #[.agg #[.string (strL nm), .slice A D.length c], .string (strL s)] w fun e w' => e = .returned (.tuple #[.int .i64 (max (idxOf (fun d => d.name == s) D) 0), .bool (D.any (fun d => d.name == s))]) ∧ Below w.heap.size w w' := by
  obtain ⟨wa, hwa⟩ : ∃ wa, w.alloc (.cells #[.string (strL nm), .slice A D.length c] 50) = wa := ⟨_, rfl⟩
  obtain ⟨w1, hw1⟩ : ∃ w1, wa.alloc (.cells #[.string (strL s)] 9) = w1 := ⟨_, rfl⟩
  have hw : (w.alloc (.cells #[.string (strL nm), .slice A D.length c] 50)).alloc (.cells #[.string (strL s)] 9) = w1 := by rw [hwa, hw1]
  have ba : Below w.heap.size w wa := by rw [← hwa]; exact below_alloc _ _
  have b1 : Below wa.heap.size wa w1 := by rw [← hw1]; exact below_alloc _ _
  have hb0 : Below w.heap.size w w1 := ba.trans (b1.mono ba.size)
  have s1 : wa.heap.size = w.heap.size + 1 := by rw [← hwa]; simp
  have x1 : w1.heap[w.heap.size]? = some (.cells #[.string (strL nm), .slice A D.length c] 50 (0, 0)) := (b1.block _ (by omega)).trans (by rw [← hwa]; exact heap_alloc_new w _)
  have x2 : Boxed w1 (w.heap.size + 1) 9 (.string (strL s)) := by rw [← hw1, ← s1]; exact Boxed.new wa _ _
  have h1 := h.below hb0
  obtain ⟨b, eb⟩ : ∃ b, w.heap.size = b := ⟨_, rfl⟩
  rw [eb] at x1 x2
  have y1 : w1.cell? ⟨b, 1, none⟩ = some (.slice A D.length c) := by simp [World.cell?, x1]
  have HS := Lib.hid (fieldsSearch 45 #[.pointer (some ⟨b + 1, 0, none⟩)] Try.entField1 (fun d => d.name == s) A c D S w1 h1 (fun d _ wx hb => field1_any d s (b + 1) wx (boxed_below x2 hb x2.lt).cell))
  obtain ⟨R1, hR1⟩ : ∃ R1, max (idxOf (fun d : FieldD => d.name == s) D) 0 = R1 := ⟨_, rfl⟩
  obtain ⟨R2, hR2⟩ : ∃ R2, D.any (fun d : FieldD => d.name == s) = R2 := ⟨_, rfl⟩
  rw [hR1, hR2] at HS ⊢
  have HW := Lib.hid hw
  have EB := Lib.hid eb
  have HB0 := Lib.hid hb0
  clear h hwa hw1 hw ba b1 hb0 s1 x1 x2 h1 eb hR1 hR2
  go_enter Try.func21, Try.ntmps21
  go_upto_region 1 with fail
  rw [HW.out, EB.out]
  go_wp2_with fail
  refine HS.out.mono ?_
  rintro e w2 ⟨rfl, hb2⟩
  have HB2 := Lib.hid (HB0.out.trans (hb2.mono HB0.out.size))
  clear hb2
  go_wp2_with fail
  go_ret2
  exact ⟨rfl, HB2.out⟩
end Go.Proofs.Ytbpkppmbbpoohaa
