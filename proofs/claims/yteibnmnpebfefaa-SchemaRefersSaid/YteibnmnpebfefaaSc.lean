/- slices.IndexFunc of terms, and find. Conditions: the terms lie in memory. -/
import Derived.Test.YteibnmnpebfefaaSb
namespace Go.Proofs.Yteibnmnpebfefaa
open Go.RowKit Go.Shelf

theorem text_ne {a b : List UInt8} (h : a ≠ b) : ((strL a).toList == (strL b).toList) = false := by rw [strL_toList, strL_toList]; simpa using h
/-- A term of a size. -/
structure TermD where
  f : List UInt8
  k : Int
def TermD.cells (d : TermD) : List Value := [.string (strL d.f), .int .i64 d.k]
def TermD.agg (d : TermD) : Value := .agg #[.string (strL d.f), .int .i64 d.k]

set_option maxRecDepth 100000 in
set_option maxHeartbeats 1600000 in
theorem termsIndex (F : Nat) (cap : Array Value) (eg : ∀ args w, (callFunc F args).run Try.prog w = .ok (.enter F args) w) (p : TermD → Bool) (A : Option Addr) (c : Nat) (D : List TermD) (S : Nat → Prop) (w : World) (h : SlAt TermD.cells 2 S w A c D)
    (hF : ∀ d ∈ D, ∀ wx, Below w.heap.size w wx → Calls Try.prog F (#[d.agg] ++ cap) wx fun e w' => e = .returned (.bool (p d)) ∧ Below wx.heap.size wx w') :
    Calls Try.prog 128 #[.slice A D.length c, .func (.func F) #[] cap] w fun e w' => e = .returned (.int .i64 (idxOf p D)) ∧ Below w.heap.size w w' := by
  have hl : D.length ≤ 9223372036854775807 := Nat.le_trans h.1 h.2.1
  have H := Lib.hid h
  have HF := Lib.hid hF
  have EG := Lib.hid eg
  obtain ⟨R, hR⟩ : ∃ R, idxOf p D = R := ⟨_, rfl⟩
  rw [hR]
  have HR := Lib.hid hR
  clear h hR hF
  go_enter Try.func128, Try.ntmps128
  go_wp2
  go_loopw [8] (fun x8 wr => ∃ i : Nat, i ≤ D.length ∧ x8 = .int .i64 ((i : Nat) : Int) ∧ (∀ x ∈ D.take i, p x = false) ∧ Below w.heap.size w wr) (fun x8 _ => D.length - (intOf x8).toNat)
  case atStart => exact ⟨0, Nat.zero_le _, rfl, by simp, Below.refl _ _⟩
  case round =>
    obtain ⟨i, hi, rfl, hb, hbw⟩ := hrel
    have HB := Lib.hid hb
    have HBW := Lib.hid hbw
    clear hb hbw
    by_cases hlt : i < D.length
    · obtain ⟨d, hd⟩ : ∃ d, D[i]? = some d := ⟨_, List.getElem?_eq_getElem hlt⟩
      obtain ⟨g, o, rfl, hx⟩ := (H.out.rest (Rest.below HBW.out) (fun _ _ e => e)).at_ hd
      have HFD := Lib.hid (HF.out d (List.mem_of_getElem? hd) wr HBW.out)
      have y0 : wr.cell? ⟨g, o + i * 2, none⟩ = some (.string (strL d.f)) := hx 0 _ rfl
      have y1 : wr.cell? ⟨g, o + i * 2 + 1, none⟩ = some (.int .i64 d.k) := hx 1 _ rfl
      have HD := Lib.hid hd
      clear hd hx
      cases hv : p d with
      | true =>
        rw [hv] at HFD
        unfold TermD.agg at HFD
        have hRi : R = ((i : Nat) : Int) := by rw [← HR.out]; exact idx_hit HD.out HB.out hv
        have HRI := Lib.hid hRi
        clear hRi hv
        go_wp2_with fail
        refine HFD.out.mono ?_
        rintro e w2 ⟨rfl, hb2⟩
        have HB2 := Lib.hid (HBW.out.trans (hb2.mono HBW.out.size))
        clear hb2
        go_wp2_with fail
        go_ret
        exact ⟨ret_int HRI.out.symm, HB2.out⟩
      | false =>
        rw [hv] at HFD
        unfold TermD.agg at HFD
        have hn := take_none HD.out HB.out hv
        have HN := Lib.hid hn
        clear hn hv
        go_wp2_with fail
        refine HFD.out.mono ?_
        rintro e w2 ⟨rfl, hb2⟩
        have HB2 := Lib.hid (HBW.out.trans (hb2.mono HBW.out.size))
        clear hb2
        go_wp2_with fail
        go_roundw
        case rel => exact ⟨i + 1, by omega, by go_num, HN.out, HB2.out⟩
        case measure => simp [intOf]; omega
    · obtain rfl : i = D.length := by omega
      have hRi : R = -1 := by rw [← HR.out]; refine idx_miss ?_; have := HB.out; rwa [List.take_length] at this
      have HRI := Lib.hid hRi
      clear hRi
      go_wp2_with fail
      go_ret
      exact ⟨ret_int HRI.out.symm, HBW.out⟩

theorem Try.entFind1 : ∀ args w, (callFunc 129 args).run Try.prog w = .ok (.enter 129 args) w := enters_of Try.func129 (by kernel_rfl) rfl

set_option maxRecDepth 100000 in
set_option maxHeartbeats 800000 in
theorem sizeFind1 (d : TermD) (s : List UInt8) (b : Nat) (w : World) (h : w.cell? ⟨b, 0, none⟩ = some (.string (strL s))) :
    Calls Try.prog 129 #[d.agg, .pointer (some ⟨b, 0, none⟩)] w fun e w' => e = .returned (.bool (d.f == s)) ∧ Below w.heap.size w w' := by
  unfold TermD.agg
  have hbl := World.block_lt_of_cell? _ _ h
  have hal := below_alloc w (.cells #[.string (strL d.f), .int .i64 d.k] 76)
  have h1 := (hal.cell (p := ⟨b, 0, none⟩) hbl).trans h
  have HAL := Lib.hid hal
  clear hal h
  by_cases he : d.f = s
  · subst he
    go_enter Try.func129, Try.ntmps129
    go_wp2
    go_ret
    exact ⟨ret_bool (by simp), HAL.out⟩
  · have e1 := text_ne he
    have HE := Lib.hid he
    clear he
    go_enter Try.func129, Try.ntmps129
    go_wp2
    go_ret
    exact ⟨ret_bool (by simpa using HE.out), HAL.out⟩

set_option maxRecDepth 100000 in
set_option maxHeartbeats 800000 in
theorem sizeFind (A : Option Addr) (c : Nat) (D : List TermD) (s : List UInt8) (S : Nat → Prop) (w : World) (h : SlAt TermD.cells 2 S w A c D) :
    Calls Try.prog 120 #[.slice A D.length c, .string (strL s)] w fun e w' => e = .returned (.int .i64 (idxOf (fun d => d.f == s) D)) ∧ Below w.heap.size w w' := by
  have hal := below_alloc w (.cells #[.string (strL s)] 9)
  have hbx := Boxed.new w 9 (.string (strL s))
  have h1 := h.below hal
  obtain ⟨b, eb⟩ : ∃ b, w.heap.size = b := ⟨_, rfl⟩
  obtain ⟨w1, hw1⟩ : ∃ w1, w.alloc (.cells #[.string (strL s)] 9) = w1 := ⟨_, rfl⟩
  rw [hw1] at hal hbx h1
  rw [eb] at hbx
  have HI := Lib.hid (termsIndex 129 #[.pointer (some ⟨b, 0, none⟩)] Try.entFind1 (fun d => d.f == s) A c D S w1 h1 (fun d _ wx hb => sizeFind1 d s b wx (boxed_below hbx hb hbx.lt).cell))
  have HW := Lib.hid hw1
  have EB := Lib.hid eb
  have HAL := Lib.hid hal
  obtain ⟨R, hR⟩ : ∃ R, idxOf (fun d : TermD => d.f == s) D = R := ⟨_, rfl⟩
  rw [hR] at HI ⊢
  clear h hw1 eb hal hbx h1 hR
  go_enter Try.func120, Try.ntmps120
  go_upto_region 1 with fail
  rw [HW.out, EB.out]
  go_wp2_with fail
  refine HI.out.mono ?_
  rintro e w2 ⟨rfl, hb2⟩
  have HB2 := Lib.hid (HAL.out.trans (hb2.mono HAL.out.size))
  clear hb2
  go_wp2_with fail
  go_ret
  exact ⟨rfl, HB2.out⟩
end Go.Proofs.Yteibnmnpebfefaa
