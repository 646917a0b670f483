/- fits of the statements, and the document's Find and Field. Conditions: the messages and fields lie in memory. Depth and HasValue, from examine's contract. Conditions: the messages lie in memory. The document's answers on a field: Number, HasValue, Range, Case. Conditions: the cases lie in memory. -/
import Derived.Test.YtbpkppmbbpoohaaGreatGa
import Derived.Test.YtbpkppmbbpoohaaGreatJh
import Derived.BigQuiet
namespace Go.Proofs.YtbpkppmbbpoohaaGreat
open Go.RowKit Go.Shelf

def okF (f : FieldD) : Prop := f.cases.length ≤ 50 ∧ f.terms.length ≤ 10
def sumF (D : List MsgD) : Nat := (D.map (·.fields.length)).sum
/-- The bounds of the statements' definitions. -/
def FitsP (D : List MsgD) : Prop := D.length ≤ 70 ∧ sumF D ≤ 400 ∧ ∀ m ∈ D, ∀ f ∈ m.fields, okF f
/-- No sum of lengths goes past the greatest number. -/
def HSZ (D : List MsgD) : Prop := ∀ i m, D[i]? = some m → i = 0 ∨ m.fields.length ≤ 9223372036854775407
def PreF (D : List MsgD) (i : Nat) (n : Int) : Prop := HSZ D → n = (sumF (D.take i) : Nat) ∧ sumF (D.take i) ≤ 400 ∧ ∀ m ∈ D.take i, ∀ f ∈ m.fields, okF f
theorem PreF.zero (D : List MsgD) : PreF D 0 0 := fun _ => ⟨by simp [sumF], by simp [sumF], fun m hm => by simp at hm⟩
theorem sumF_snoc (D : List MsgD) (m : MsgD) : sumF (D ++ [m]) = sumF D + m.fields.length := by simp [sumF]
theorem PreF.step {D : List MsgD} {i : Nat} {n : Int} {m : MsgD} (h : PreF D i n) (hm : D[i]? = some m) (hl : m.fields.length ≤ 9223372036854775807) (hs : ¬ 400 < wrap64 (n + (m.fields.length : Nat))) (hf : ∀ f ∈ m.fields, okF f) : PreF D (i + 1) (wrap64 (n + (m.fields.length : Nat))) := by
  intro hz
  obtain ⟨h1, h2, h3⟩ := h hz
  have hd : D.take (i + 1) = D.take i ++ [m] := by
    obtain ⟨h4, h5⟩ := List.getElem?_eq_some_iff.1 hm
    subst h5
    exact List.take_succ_eq_append_getElem h4
  have hi0 : i = 0 → sumF (D.take i) = 0 := fun e => by subst e; simp [sumF]
  have e : wrap64 (n + (m.fields.length : Nat)) = n + (m.fields.length : Nat) := by
    have := hz i m hm
    have hb : -9223372036854775808 ≤ n + (m.fields.length : Nat) ∧ n + (m.fields.length : Nat) ≤ 9223372036854775807 := by
      rcases this with e | e
      · have := hi0 e
        omega
      · omega
    unfold wrap64
    omega
  rw [e] at hs ⊢
  rw [hd, sumF_snoc]
  refine ⟨by omega, by omega, fun x hx => ?_⟩
  rcases List.mem_append.1 hx with hx | hx
  · exact h3 x hx
  · simp only [List.mem_singleton] at hx
    subst hx
    exact hf

/-- What fits answers. -/
def FitsE (D : List MsgD) (w : World) (e : Ending) (w' : World) : Prop := ∃ b, e = .returned (.bool b) ∧ (b = true → HSZ D → FitsP D) ∧ Below w.heap.size w w'

set_option maxRecDepth 100000 in
set_option maxHeartbeats 3200000 in
theorem fits_any (nm st : List UInt8) (A : Option Addr) (c : Nat) (D : List MsgD) (S : Nat → Prop) (w : World) (h : MsgsAt S w A c D) :
    Calls Tryz.prog 10 #[.agg #[.string (strL nm), .slice A D.length c, .string (strL st)]] w (FitsE D w) := by
  have hl : D.length ≤ 9223372036854775807 := Nat.le_trans h.1.1 h.1.2.1
  have hal := below_alloc w (.cells #[.string (strL nm), .slice A D.length c, .string (strL st)] 24)
  have hbx : (w.alloc (.cells #[.string (strL nm), .slice A D.length c, .string (strL st)] 24)).heap[w.heap.size]? = some (.cells #[.string (strL nm), .slice A D.length c, .string (strL st)] 24 (0, 0)) := heap_alloc_new w _
  have h1 := h.below hal
  obtain ⟨b, eb⟩ : ∃ b, w.heap.size = b := ⟨_, rfl⟩
  obtain ⟨w1, hw1⟩ : ∃ w1, w.alloc (.cells #[.string (strL nm), .slice A D.length c, .string (strL st)] 24) = w1 := ⟨_, rfl⟩
  rw [hw1] at hal hbx h1
  rw [eb] at hbx
  have y1 : w1.cell? ⟨b, 1, none⟩ = some (.slice A D.length c) := by simp [World.cell?, hbx]
  have HW := Lib.hid hw1
  have EB := Lib.hid eb
  have HAL := Lib.hid hal
  have H := Lib.hid h1
  clear h hal hbx h1 eb hw1
  go_enter Tryz.func10, Tryz.ntmps10
  go_upto_region 1 with fail
  rw [HW.out, EB.out]
  go_wp2_with fail
  go_loop [3, 4] (fun x3 x4 => ∃ (i : Nat) (n : Int), i ≤ D.length ∧ i ≤ 71 ∧ x4 = .int .i64 ((i : Nat) : Int) ∧ x3 = .int .i64 n ∧ PreF D i n) (fun _ x4 => D.length - (intOf x4).toNat)
  case atStart => exact ⟨0, 0, Nat.zero_le _, Nat.zero_le _, rfl, rfl, PreF.zero D⟩
  case round =>
    obtain ⟨i, n, hi, hi2, rfl, rfl, hp⟩ := hrel
    have HP := Lib.hid hp
    clear hp
    by_cases hlt : i < D.length
    · by_cases h70 : i ≤ 70
      · obtain ⟨m, hm⟩ : ∃ m, D[i]? = some m := ⟨_, List.getElem?_eq_getElem hlt⟩
        obtain ⟨g, o, rfl, hx⟩ := H.out.1.at_ hm
        have hfs := H.out.2 m (List.mem_of_getElem? hm)
        obtain ⟨mn, fa, fc, fs⟩ := m
        have x1 : w1.cell? ⟨g, o + i * 2 + 1, none⟩ = some (.slice fa fs.length fc) := hx 1 _ rfl
        have hfl : fs.length ≤ 9223372036854775807 := Nat.le_trans hfs.1.1 hfs.1.2.1
        have HM := Lib.hid hm
        have HFS := Lib.hid hfs
        clear hm hx hfs
        go_upto_region 7 with fail
        generalize hn' : wrap64 (n + (fs.length : Nat)) = n'
        have HN := Lib.hid hn'
        clear hn' x1
        by_cases h4 : 400 < n'
        · go_wp2_with fail
          go_ret
          exact ⟨false, rfl, (fun e => by cases e), HAL.out⟩
        · go_wp2_with fail
          go_loop [6] (fun x6 => ∃ k : Nat, k ≤ fs.length ∧ x6 = .int .i64 ((k : Nat) : Int) ∧ ∀ f ∈ fs.take k, okF f) (fun x6 => fs.length - (intOf x6).toNat)
          case atStart => exact ⟨0, Nat.zero_le _, rfl, fun f hf => by simp at hf⟩
          case round =>
            obtain ⟨k, hk, rfl, hok⟩ := hrel
            have HOK := Lib.hid hok
            clear hok
            by_cases hkl : k < fs.length
            · obtain ⟨f, hf⟩ : ∃ f, fs[k]? = some f := ⟨_, List.getElem?_eq_getElem hkl⟩
              obtain ⟨fg, fo, rfl, hxf⟩ := HFS.out.1.at_ hf
              have z8 : w1.cell? ⟨fg, fo + k * 15 + 8, none⟩ = some (.slice f.ta f.terms.length f.tc) := hxf 8 _ rfl
              have z12 : w1.cell? ⟨fg, fo + k * 15 + 12, none⟩ = some (.slice f.ca f.cases.length f.cc) := hxf 12 _ rfl
              have HF := Lib.hid hf
              clear hf hxf
              by_cases hc : 50 < f.cases.length
              · go_wp2_with fail
                go_ret
                exact ⟨false, rfl, (fun e => by cases e), HAL.out⟩
              · by_cases ht : 10 < f.terms.length
                · go_wp2_with fail
                  go_ret
                  exact ⟨false, rfl, (fun e => by cases e), HAL.out⟩
                · go_wp2_with fail
                  go_round
                  case rel => exact ⟨k + 1, by omega, by go_num, fun x hx => by
                    rw [(drop_of HF.out).2] at hx
                    rcases List.mem_append.1 hx with hx | hx
                    · exact HOK.out x hx
                    · simp only [List.mem_singleton] at hx
                      subst hx
                      exact ⟨by omega, by omega⟩⟩
                  case measure => simp [intOf]; omega
            · obtain rfl : k = fs.length := by omega
              have hok := HOK.out
              rw [List.take_length] at hok
              have HOK2 := Lib.hid hok
              clear hok HOK
              go_wp2_with fail
              go_round
              case rel => exact ⟨i + 1, n', by omega, by omega, by go_num, rfl, by
                have := HP.out.step HM.out hfl (by rw [HN.out]; omega) HOK2.out
                rwa [HN.out] at this⟩
              case measure => simp [intOf]; omega
      · have h71 : i = 71 := by omega
        have hD : ¬ D.length ≤ 70 := by omega
        go_wp2_with fail
        go_ret
        exact ⟨false, ret_bool (by simp; omega), (fun e => by cases e), HAL.out⟩
    · obtain rfl : i = D.length := by omega
      by_cases h70 : D.length ≤ 70
      · have hpp := HP.out
        unfold PreF at hpp
        rw [List.take_length] at hpp
        have HPP := Lib.hid hpp
        clear hpp
        go_wp2_with fail
        go_ret
        exact ⟨true, ret_bool (by simp; omega), fun _ hz => ⟨h70, (HPP.out hz).2.1, (HPP.out hz).2.2⟩, HAL.out⟩
      · go_wp2_with fail
        go_ret
        exact ⟨false, ret_bool (by simp; omega), (fun e => by cases e), HAL.out⟩

set_option maxRecDepth 100000 in
set_option maxHeartbeats 1600000 in
theorem refFind_any (nm st : List UInt8) (A : Option Addr) (c : Nat) (D : List MsgD) (s : List UInt8) (k : Nat) (hk : k ≤ D.length) (S : Nat → Prop) (w : World) (h : SlAt MsgD.cells 2 S w A c D) :
    Calls Tryz.prog 50 #[.agg #[.string (strL nm), .slice A D.length c, .string (strL st)], .string (strL s), .int .i64 ((k : Nat) : Int)] w fun e w' => e = .returned (.int .i64 (idxOf (fun d : MsgD => d.name == s) (D.take k))) ∧ Below w.heap.size w w' := by
  have hl : D.length ≤ 9223372036854775807 := Nat.le_trans h.1 h.2.1
  have hal := below_alloc w (.cells #[.string (strL nm), .slice A D.length c, .string (strL st)] 24)
  have hbx : (w.alloc (.cells #[.string (strL nm), .slice A D.length c, .string (strL st)] 24)).heap[w.heap.size]? = some (.cells #[.string (strL nm), .slice A D.length c, .string (strL st)] 24 (0, 0)) := heap_alloc_new w _
  have h1 := h.below hal
  obtain ⟨b, eb⟩ : ∃ b, w.heap.size = b := ⟨_, rfl⟩
  obtain ⟨w1, hw1⟩ : ∃ w1, w.alloc (.cells #[.string (strL nm), .slice A D.length c, .string (strL st)] 24) = w1 := ⟨_, rfl⟩
  rw [hw1] at hal hbx h1
  rw [eb] at hbx
  have y1 : w1.cell? ⟨b, 1, none⟩ = some (.slice A D.length c) := by simp [World.cell?, hbx]
  obtain ⟨R, hR⟩ : ∃ R, idxOf (fun d : MsgD => d.name == s) (D.take k) = R := ⟨_, rfl⟩
  rw [hR]
  have HR := Lib.hid hR
  have HW := Lib.hid hw1
  have EB := Lib.hid eb
  have HAL := Lib.hid hal
  have H := Lib.hid h1
  clear h hal hbx h1 eb hw1 hR
  go_enter Tryz.func50, Tryz.ntmps50
  go_upto_region 1 with fail
  rw [HW.out, EB.out]
  go_wp2_with fail
  go_loop [7] (fun x7 => ∃ i : Nat, i ≤ k ∧ x7 = .int .i64 ((i : Nat) : Int) ∧ ∀ x ∈ D.take i, (x.name == s) = false) (fun x7 => k - (intOf x7).toNat)
  case atStart => exact ⟨0, Nat.zero_le _, rfl, by simp⟩
  case round =>
    obtain ⟨i, hi, rfl, hb⟩ := hrel
    have HB := Lib.hid hb
    clear hb
    by_cases hlt : i < k
    · have hlt2 : i < D.length := by omega
      obtain ⟨d, hd⟩ : ∃ d, D[i]? = some d := ⟨_, List.getElem?_eq_getElem hlt2⟩
      obtain ⟨g, o, rfl, hx⟩ := H.out.at_ hd
      have x0 : w1.cell? ⟨g, o + i * 2, none⟩ = some (.string (strL d.name)) := hx 0 _ rfl
      have HD := Lib.hid hd
      clear hd hx
      by_cases he : d.name = s
      · have hRi : R = ((i : Nat) : Int) := by
          rw [← HR.out]
          refine idx_hit (d := d) (by rw [List.getElem?_take_of_lt hlt]; exact HD.out) (by rw [List.take_take, Nat.min_eq_left (by omega)]; exact HB.out) (by simpa using he)
        have HRI := Lib.hid hRi
        clear hRi HR HB HD
        subst he
        go_wp2_with fail
        go_ret
        exact ⟨ret_int HRI.out.symm, HAL.out⟩
      · have e1 := text_ne he
        have HN := Lib.hid (take_none (p := fun d : MsgD => d.name == s) HD.out HB.out (by simpa using he))
        clear he
        go_wp2_with fail
        go_round
        case rel => exact ⟨i + 1, by omega, by go_num, HN.out⟩
        case measure => simp [intOf]; omega
    · obtain rfl : i = k := by omega
      have hRi : R = -1 := by rw [← HR.out]; exact idx_miss HB.out
      have HRI := Lib.hid hRi
      clear hRi
      go_wp2_with fail
      go_ret
      exact ⟨ret_int HRI.out.symm, HAL.out⟩

set_option maxRecDepth 100000 in
set_option maxHeartbeats 1600000 in
theorem refField_any (nm : List UInt8) (A : Option Addr) (c : Nat) (D : List FieldD) (s : List UInt8) (k : Nat) (hk : k ≤ D.length) (S : Nat → Prop) (w : World) (h : SlAt FieldD.cells 15 S w A c D) :
    Calls Tryz.prog 59 #[.agg #[.string (strL nm), .slice A D.length c], .string (strL s), .int .i64 ((k : Nat) : Int)] w fun e w' => e = .returned (.int .i64 (idxOf (fun d : FieldD => d.name == s) (D.take k))) ∧ Below w.heap.size w w' := by
  have hl : D.length ≤ 9223372036854775807 := Nat.le_trans h.1 h.2.1
  have hal := below_alloc w (.cells #[.string (strL nm), .slice A D.length c] 36)
  have hbx : (w.alloc (.cells #[.string (strL nm), .slice A D.length c] 36)).heap[w.heap.size]? = some (.cells #[.string (strL nm), .slice A D.length c] 36 (0, 0)) := heap_alloc_new w _
  have h1 := h.below hal
  obtain ⟨b, eb⟩ : ∃ b, w.heap.size = b := ⟨_, rfl⟩
  obtain ⟨w1, hw1⟩ : ∃ w1, w.alloc (.cells #[.string (strL nm), .slice A D.length c] 36) = w1 := ⟨_, rfl⟩
  rw [hw1] at hal hbx h1
  rw [eb] at hbx
  have y1 : w1.cell? ⟨b, 1, none⟩ = some (.slice A D.length c) := by simp [World.cell?, hbx]
  obtain ⟨R, hR⟩ : ∃ R, idxOf (fun d : FieldD => d.name == s) (D.take k) = R := ⟨_, rfl⟩
  rw [hR]
  have HR := Lib.hid hR
  have HW := Lib.hid hw1
  have EB := Lib.hid eb
  have HAL := Lib.hid hal
  have H := Lib.hid h1
  clear h hal hbx h1 eb hw1 hR
  go_enter Tryz.func59, Tryz.ntmps59
  go_upto_region 1 with fail
  rw [HW.out, EB.out]
  go_wp2_with fail
  go_loop [7] (fun x7 => ∃ i : Nat, i ≤ k ∧ x7 = .int .i64 ((i : Nat) : Int) ∧ ∀ x ∈ D.take i, (x.name == s) = false) (fun x7 => k - (intOf x7).toNat)
  case atStart => exact ⟨0, Nat.zero_le _, rfl, by simp⟩
  case round =>
    obtain ⟨i, hi, rfl, hb⟩ := hrel
    have HB := Lib.hid hb
    clear hb
    by_cases hlt : i < k
    · have hlt2 : i < D.length := by omega
      obtain ⟨d, hd⟩ : ∃ d, D[i]? = some d := ⟨_, List.getElem?_eq_getElem hlt2⟩
      obtain ⟨g, o, rfl, hx⟩ := H.out.at_ hd
      have x0 : w1.cell? ⟨g, o + i * 15, none⟩ = some (.string (strL d.name)) := hx 0 _ rfl
      have HD := Lib.hid hd
      clear hd hx
      by_cases he : d.name = s
      · have hRi : R = ((i : Nat) : Int) := by
          rw [← HR.out]
          refine idx_hit (d := d) (by rw [List.getElem?_take_of_lt hlt]; exact HD.out) (by rw [List.take_take, Nat.min_eq_left (by omega)]; exact HB.out) (by simpa using he)
        have HRI := Lib.hid hRi
        clear hRi HR HB HD
        subst he
        go_wp2_with fail
        go_ret
        exact ⟨ret_int HRI.out.symm, HAL.out⟩
      · have e1 := text_ne he
        have HN := Lib.hid (take_none (p := fun d : FieldD => d.name == s) HD.out HB.out (by simpa using he))
        clear he
        go_wp2_with fail
        go_round
        case rel => exact ⟨i + 1, by omega, by go_num, HN.out⟩
        case measure => simp [intOf]; omega
    · obtain rfl : i = k := by omega
      have hRi : R = -1 := by rw [← HR.out]; exact idx_miss HB.out
      have HRI := Lib.hid hRi
      clear hRi
      go_wp2_with fail
      go_ret
      exact ⟨ret_int HRI.out.symm, HAL.out⟩
end Go.Proofs.YtbpkppmbbpoohaaGreat

namespace Go.Proofs.YtbpkppmbbpoohaaGreat
open Go.RowKit Go.Shelf

def hasvB (d : FieldD) : Bool := !(d.kind == 2) && !(d.kind == 10) && !(d.kind == 11)
set_option maxRecDepth 100000 in
set_option maxHeartbeats 1600000 in
theorem hasvalue_any (d : FieldD) (w : World) : Calls Tryz.prog 41 #[d.agg] w fun e w' => e = .returned (.bool (hasvB d)) ∧ Below w.heap.size w w' := by
  unfold FieldD.agg
  have hal := below_alloc w (.cells #[.string (strL d.name), .int .i64 d.kind, .int .i64 d.bits, .bool d.little, .bool d.loose, .int .i64 d.low, .int .i64 d.high, .int .i64 d.base, .slice d.ta d.terms.length d.tc, .string (strL d.of_), .string (strL d.tag), .string (strL d.from_), .slice d.ca d.cases.length d.cc, .int .i64 d.check, .int .i64 d.key] 55)
  have hbx := FBox.new w d
  obtain ⟨b, eb⟩ : ∃ b, w.heap.size = b := ⟨_, rfl⟩
  obtain ⟨w1, hw1⟩ : ∃ w1, w.alloc (.cells #[.string (strL d.name), .int .i64 d.kind, .int .i64 d.bits, .bool d.little, .bool d.loose, .int .i64 d.low, .int .i64 d.high, .int .i64 d.base, .slice d.ta d.terms.length d.tc, .string (strL d.of_), .string (strL d.tag), .string (strL d.from_), .slice d.ca d.cases.length d.cc, .int .i64 d.check, .int .i64 d.key] 55) = w1 := ⟨_, rfl⟩
  rw [hw1] at hal hbx
  rw [eb] at hbx
  have HW := Lib.hid hw1
  have EB := Lib.hid eb
  have HAL := Lib.hid hal
  have y1 := hbx.c1
  obtain ⟨s2, e2⟩ : ∃ s, (d.kind == 2) = s := ⟨_, rfl⟩
  obtain ⟨s10, e10⟩ : ∃ s, (d.kind == 10) = s := ⟨_, rfl⟩
  obtain ⟨s11, e11⟩ : ∃ s, (d.kind == 11) = s := ⟨_, rfl⟩
  obtain ⟨R, hR⟩ : ∃ R, hasvB d = R := ⟨_, rfl⟩
  have hr : R = (!s2 && !s10 && !s11) := by rw [← hR]; unfold hasvB; rw [e2, e10, e11]
  rw [hR]
  have HR := Lib.hid hr
  have f2 : (d.kind != 2) = !s2 := by rw [← e2]; rfl
  have f10 : (d.kind != 10) = !s10 := by rw [← e10]; rfl
  have f11 : (d.kind != 11) = !s11 := by rw [← e11]; rfl
  clear hal hbx eb hw1 hR hr
  cases s2
  · cases s10
    · cases s11
      all_goals
        go_enter Tryz.func41, Tryz.ntmps41
        go_upto_region 1 with fail
        rw [HW.out, EB.out]
        go_wp2_with fail
        go_ret
        exact ⟨ret_bool HR.out.symm, HAL.out⟩
    · go_enter Tryz.func41, Tryz.ntmps41
      go_upto_region 1 with fail
      rw [HW.out, EB.out]
      go_wp2_with fail
      go_ret
      exact ⟨ret_bool HR.out.symm, HAL.out⟩
  · go_enter Tryz.func41, Tryz.ntmps41
    go_upto_region 1 with fail
    rw [HW.out, EB.out]
    go_wp2_with fail
    go_ret
    exact ⟨ret_bool HR.out.symm, HAL.out⟩

/-- The nature of a message of a definition, and the error. -/
def natInR (r : Option (Int × Int × Int)) (E : Nats) (D : List MsgD) (mi : Int) : (Int × Bool) × Int :=
  if r.isSome then ((0, false), 2) else if inB mi 0 ((D.length : Int) - 1) then ((D[mi.toNat]?).elim (0, false) (fun d => (getN E d.name).getD (0, false)), 0) else ((0, false), 3)

theorem nat_set (W : World) (b : Nat) (u : Int) (v : Bool) (h : NBox W b (0, false)) : NBox ((W.setCell ⟨b, 0, none⟩ (.int .i64 u)).setCell ⟨b, 1, none⟩ (.bool v)) b (u, v) ∧ Rest (fun k => k = b) W ((W.setCell ⟨b, 0, none⟩ (.int .i64 u)).setCell ⟨b, 1, none⟩ (.bool v)) :=
  ⟨(h.set0 u).set1 v, ((Rest.refl (fun k => k = b) W).setCell (S := fun k => k = b) (p := ⟨b, 0, none⟩) (fun _ => rfl) _).setCell (S := fun k => k = b) (p := ⟨b, 1, none⟩) (fun _ => rfl) _⟩

set_option maxRecDepth 100000 in
set_option maxHeartbeats 3200000 in
theorem naturein_of (nm st : List UInt8) (A : Option Addr) (c : Nat) (D : List MsgD) (S : Nat → Prop) (mi : Int) (r : Option (Int × Int × Int)) (E : Nats) (w : World) (h : SlAt MsgD.cells 2 S w A c D) (hd1 : r = none → 1 ≤ D.length)
    (he : ∀ wx, Below w.heap.size w wx → Calls Tryz.prog 48 #[.agg #[.string (strL nm), .slice A D.length c, .string (strL st)]] wx (ExPost r E wx)) :
    Calls Tryz.prog 76 #[.agg #[.string (strL nm), .slice A D.length c, .string (strL st)], .int .i64 mi] w fun e w' => e = .returned (.tuple #[natV (natInR r E D mi).1, .int .i64 (natInR r E D mi).2]) ∧ Below w.heap.size w w' := by
  have hl : D.length ≤ 9223372036854775807 := Nat.le_trans h.1 h.2.1
  obtain ⟨wa, hwa⟩ : ∃ wa, w.alloc (.cells #[.string (strL nm), .slice A D.length c, .string (strL st)] 24) = wa := ⟨_, rfl⟩
  obtain ⟨w1, hw1⟩ : ∃ w1, wa.alloc (.cells #[.int .i64 0, .bool false] 123) = w1 := ⟨_, rfl⟩
  have hw : (w.alloc (.cells #[.string (strL nm), .slice A D.length c, .string (strL st)] 24)).alloc (.cells #[.int .i64 0, .bool false] 123) = w1 := by rw [hwa, hw1]
  have ba : Below w.heap.size w wa := by rw [← hwa]; exact below_alloc _ _
  have b1 : Below wa.heap.size wa w1 := by rw [← hw1]; exact below_alloc _ _
  have sa : wa.heap.size = w.heap.size + 1 := by rw [← hwa]; simp
  have hb1 : Below w.heap.size w w1 := ba.trans (b1.mono (by omega))
  have s1 : w1.heap.size = w.heap.size + 2 := by rw [← hw1]; simp; omega
  have hxd : w1.heap[w.heap.size]? = some (.cells #[.string (strL nm), .slice A D.length c, .string (strL st)] 24 (0, 0)) := (b1.block _ (by omega)).trans (by rw [← hwa]; exact heap_alloc_new w _)
  have hxn : NBox w1 (w.heap.size + 1) (0, false) := by rw [← hw1, ← sa]; exact NBox.new wa 0 false
  have h1 := h.below hb1
  obtain ⟨b, eb⟩ : ∃ b, w.heap.size = b := ⟨_, rfl⟩
  rw [eb] at hxd hxn s1
  have KD : Hid (∀ wx, Below w1.heap.size w1 wx → wx.cell? ⟨b, 0, none⟩ = some (.string (strL nm)) ∧ wx.cell? ⟨b, 1, none⟩ = some (.slice A D.length c) ∧ wx.cell? ⟨b, 2, none⟩ = some (.string (strL st)) ∧ NBox wx (b + 1) (0, false)) := Lib.hid (fun wx hb => by
    have := (hb.block b (by omega)).trans hxd
    exact ⟨by simp [World.cell?, this], by simp [World.cell?, this], by simp [World.cell?, this], hxn.below hb hxn.lt⟩)
  have HEX : Hid (Calls Tryz.prog 48 #[.agg #[.string (strL nm), .slice A D.length c, .string (strL st)]] w1 (ExPost r E w1)) := Lib.hid (he w1 hb1)
  obtain ⟨⟨⟨zd, zs⟩, ze⟩, hz⟩ : ∃ z, natInR r E D mi = z := ⟨_, rfl⟩
  rw [hz]
  have HZ := Lib.hid hz
  have HW := Lib.hid hw
  have EB := Lib.hid eb
  have HB1 := Lib.hid hb1
  have H1 := Lib.hid h1
  have HD1 := Lib.hid hd1
  have S1 := Lib.hid s1
  have HFIN : Hid (∀ wx, Below w1.heap.size w1 wx → NBox ((wx.setCell ⟨b + 1, 0, none⟩ (.int .i64 zd)).setCell ⟨b + 1, 1, none⟩ (.bool zs)) (b + 1) (zd, zs) ∧ Below w.heap.size w ((wx.setCell ⟨b + 1, 0, none⟩ (.int .i64 zd)).setCell ⟨b + 1, 1, none⟩ (.bool zs))) := Lib.hid (fun wx hb => by
    have hs := nat_set wx (b + 1) zd zs (hxn.below hb hxn.lt)
    exact ⟨hs.1, (hb1.trans (hb.mono hb1.size)).trans (hs.2.toBelow w.heap.size (by have := hb1.size; have := hb.size; omega) (fun i hi e => by omega))⟩)
  have HWI := fun w => Lib.hid (withinS mi 0 ((D.length : Int) - 1) w)
  obtain ⟨d0, d1, d2, _⟩ := KD.out w1 (Below.refl _ _)
  clear h hd1 he hwa hw1 hw ba b1 sa hb1 s1 hxd hxn h1 eb hz
  go_enter Tryz.func76, Tryz.ntmps76
  go_upto_region 1 with fail
  rw [HW.out, EB.out]
  go_wp2_with fail
  refine HEX.out.mono ?_
  rintro e w2 hp
  clear d0 d1 d2
  cases r with
  | some p =>
    obtain ⟨hb2, rfl⟩ := hp
    obtain ⟨m, f, cd⟩ := p
    have hz : ((0, false), (2 : Int)) = ((zd, zs), ze) := HZ.out
    simp only [Prod.mk.injEq] at hz
    obtain ⟨⟨rfl, rfl⟩, rfl⟩ := hz
    have hb3 := hb2.trans ((below_alloc w2 (.cells #[.int .i64 m, .int .i64 f, .int .i64 cd] 30)).mono hb2.size)
    obtain ⟨w3, hw3⟩ : ∃ w3, w2.alloc (.cells #[.int .i64 m, .int .i64 f, .int .i64 cd] 30) = w3 := ⟨_, rfl⟩
    rw [hw3] at hb3
    obtain ⟨_, _, _, hn3⟩ := KD.out w3 hb3
    have v0 := hn3.c0
    have v1 := hn3.c1
    have g0 := hn3.fr 0
    have g1 := hn3.fr 1
    have HF := Lib.hid (HFIN.out w3 hb3)
    have W3 := Lib.hid hw3
    clear hb2 hb3 hw3 hn3
    dsimp only
    go_upto_region 2 with fail
    rw [W3.out]
    go_wp2_with fail
    obtain ⟨hn, hb⟩ := HF.out
    obtain ⟨w4, hw4⟩ : ∃ w4, (w3.setCell ⟨b + 1, 0, none⟩ (.int .i64 0)).setCell ⟨b + 1, 1, none⟩ (.bool false) = w4 := ⟨_, rfl⟩
    rw [hw4] at hn hb ⊢
    have p0 := hn.c0
    have p1 := hn.c1
    refine bodyPost_ret (by simp [results, Tryz.results76, go_sem, p0, p1]; try rfl) rfl ?_
    exact ⟨rfl, hb⟩
  | none =>
    obtain ⟨hb2, kr, hkr, rfl, hm⟩ := hp
    have hb3 := hb2.trans ((below_alloc w2 (.cells #[.int .i64 0, .int .i64 0, .int .i64 0] 30)).mono hb2.size)
    have hm3 := hm.below (below_alloc w2 (.cells #[.int .i64 0, .int .i64 0, .int .i64 0] 30)) hm.lt
    obtain ⟨w3, hw3⟩ : ∃ w3, w2.alloc (.cells #[.int .i64 0, .int .i64 0, .int .i64 0] 30) = w3 := ⟨_, rfl⟩
    rw [hw3] at hb3 hm3
    obtain ⟨q0, q1, _, hn3⟩ := KD.out w3 hb3
    have v0 := hn3.c0
    have v1 := hn3.c1
    have g0 := hn3.fr 0
    have g1 := hn3.fr 1
    have hd1 := HD1.out rfl
    have HS3 := Lib.hid (H1.out.below hb3)
    have HF := Lib.hid (HFIN.out w3 hb3)
    have M3 := Lib.hid hm3
    have W3 := Lib.hid hw3
    clear hb2 hb3 hw3 hn3 hkr hm hm3
    cases hwi : inB mi 0 ((D.length : Int) - 1) with
    | false =>
      have hz : ((0, false), (3 : Int)) = ((zd, zs), ze) := by
        have := HZ.out
        unfold natInR at this
        rw [hwi] at this
        exact this
      simp only [Prod.mk.injEq] at hz
      obtain ⟨⟨rfl, rfl⟩, rfl⟩ := hz
      rw [hwi] at HWI
      clear hwi
      dsimp only
      go_upto_region 2 with fail
      rw [W3.out]
      go_wp2_with (go_at_call 102; refine ((HWI _).out).mono ?_; rintro e w' ⟨rfl, hw'⟩; have hw'' := hw'.symm; clear hw'; subst hw'')
      obtain ⟨hn, hb⟩ := HF.out
      obtain ⟨w4, hw4⟩ : ∃ w4, (w3.setCell ⟨b + 1, 0, none⟩ (.int .i64 0)).setCell ⟨b + 1, 1, none⟩ (.bool false) = w4 := ⟨_, rfl⟩
      rw [hw4] at hn hb ⊢
      have p0 := hn.c0
      have p1 := hn.c1
      refine bodyPost_ret (by simp [results, Tryz.results76, go_sem, p0, p1]; try rfl) rfl ?_
      exact ⟨rfl, hb⟩
    | true =>
      have hbd : 0 ≤ mi ∧ mi ≤ (D.length : Int) - 1 := by simpa [inB] using hwi
      obtain ⟨k, rfl⟩ : ∃ k : Nat, mi = (k : Int) := ⟨mi.toNat, by omega⟩
      have hk : k < D.length := by omega
      obtain ⟨d, hd⟩ : ∃ d, D[k]? = some d := ⟨_, List.getElem?_eq_getElem hk⟩
      have hz : ((getN E d.name).getD (0, false), (0 : Int)) = ((zd, zs), ze) := by
        have := HZ.out
        unfold natInR at this
        rw [hwi] at this
        simp only [Option.isSome_none, Bool.false_eq_true, if_false, if_true, Int.toNat_natCast, hd, Option.elim] at this
        exact this
      simp only [Prod.mk.injEq] at hz
      obtain ⟨hz1, rfl⟩ := hz
      rw [hwi] at HWI
      obtain ⟨g, o, rfl, hx⟩ := HS3.out.at_ hd
      have x0 : w3.cell? ⟨g, o + k * 2, none⟩ = some (.string (strL d.name)) := hx 0 _ rfl
      have hrun := run_look (P := Tryz.prog) Tryz.underlying88 Tryz.ustr (Tryz.zeroNat w3) M3.out d.name
      rw [look_nat, hz1] at hrun
      unfold natV at hrun
      clear hwi hbd hd hx hz1
      dsimp only
      go_upto_region 2 with fail
      rw [W3.out]
      go_wp2_with (go_at_call 102; refine ((HWI _).out).mono ?_; rintro e w' ⟨rfl, hw'⟩; have hw'' := hw'.symm; clear hw'; subst hw'')
      obtain ⟨hn, hb⟩ := HF.out
      obtain ⟨w4, hw4⟩ : ∃ w4, (w3.setCell ⟨b + 1, 0, none⟩ (.int .i64 zd)).setCell ⟨b + 1, 1, none⟩ (.bool zs) = w4 := ⟨_, rfl⟩
      rw [hw4] at hn hb ⊢
      have p0 := hn.c0
      have p1 := hn.c1
      refine bodyPost_ret (by simp [results, Tryz.results76, go_sem, p0, p1]; try rfl) rfl ?_
      exact ⟨rfl, hb⟩
end Go.Proofs.YtbpkppmbbpoohaaGreat

namespace Go.Proofs.YtbpkppmbbpoohaaGreat
open Go.RowKit Go.Shelf

theorem numB_eq (d : FieldD) : numB d = (decide (1 ≤ d.kind) && decide (d.kind ≤ 3)) := by
  rw [Bool.eq_iff_iff]; simp [numB]; omega

set_option maxRecDepth 100000 in
set_option maxHeartbeats 1600000 in
theorem refNumber_any (d : FieldD) (w : World) : Calls Tryz.prog 61 #[d.agg] w fun e w' => e = .returned (.bool (numB d)) ∧ Below w.heap.size w w' := by
  unfold FieldD.agg
  have hal := below_alloc w (.cells #[.string (strL d.name), .int .i64 d.kind, .int .i64 d.bits, .bool d.little, .bool d.loose, .int .i64 d.low, .int .i64 d.high, .int .i64 d.base, .slice d.ta d.terms.length d.tc, .string (strL d.of_), .string (strL d.tag), .string (strL d.from_), .slice d.ca d.cases.length d.cc, .int .i64 d.check, .int .i64 d.key] 55)
  have hbx := FBox.new w d
  obtain ⟨b, eb⟩ : ∃ b, w.heap.size = b := ⟨_, rfl⟩
  obtain ⟨w1, hw1⟩ : ∃ w1, w.alloc (.cells #[.string (strL d.name), .int .i64 d.kind, .int .i64 d.bits, .bool d.little, .bool d.loose, .int .i64 d.low, .int .i64 d.high, .int .i64 d.base, .slice d.ta d.terms.length d.tc, .string (strL d.of_), .string (strL d.tag), .string (strL d.from_), .slice d.ca d.cases.length d.cc, .int .i64 d.check, .int .i64 d.key] 55) = w1 := ⟨_, rfl⟩
  rw [hw1] at hal hbx
  rw [eb] at hbx
  have HW := Lib.hid hw1
  have EB := Lib.hid eb
  have HAL := Lib.hid hal
  have y1 := hbx.c1
  obtain ⟨s1, e1⟩ : ∃ s, decide (1 ≤ d.kind) = s := ⟨_, rfl⟩
  obtain ⟨s2, e2⟩ : ∃ s, decide (d.kind ≤ 3) = s := ⟨_, rfl⟩
  have hr : numB d = (s1 && s2) := by rw [numB_eq, e1, e2]
  rw [hr]
  clear hal hbx eb hw1 hr
  cases s1 <;> cases s2
  all_goals
    go_enter Tryz.func61, Tryz.ntmps61
    go_upto_region 1 with fail
    rw [HW.out, EB.out]
    go_wp2_with fail
    go_ret
    exact ⟨rfl, HAL.out⟩

set_option maxRecDepth 100000 in
set_option maxHeartbeats 1600000 in
theorem refRange_any (d : FieldD) (w : World) : Calls Tryz.prog 125 #[d.agg] w fun e w' => e = .returned (.tuple #[.int .i64 (ranP d).1, .int .i64 (ranP d).2]) ∧ Below w.heap.size w w' := by
  unfold FieldD.agg
  have hal := below_alloc w (.cells #[.string (strL d.name), .int .i64 d.kind, .int .i64 d.bits, .bool d.little, .bool d.loose, .int .i64 d.low, .int .i64 d.high, .int .i64 d.base, .slice d.ta d.terms.length d.tc, .string (strL d.of_), .string (strL d.tag), .string (strL d.from_), .slice d.ca d.cases.length d.cc, .int .i64 d.check, .int .i64 d.key] 55)
  have hbx := FBox.new w d
  obtain ⟨b, eb⟩ : ∃ b, w.heap.size = b := ⟨_, rfl⟩
  obtain ⟨w1, hw1⟩ : ∃ w1, w.alloc (.cells #[.string (strL d.name), .int .i64 d.kind, .int .i64 d.bits, .bool d.little, .bool d.loose, .int .i64 d.low, .int .i64 d.high, .int .i64 d.base, .slice d.ta d.terms.length d.tc, .string (strL d.of_), .string (strL d.tag), .string (strL d.from_), .slice d.ca d.cases.length d.cc, .int .i64 d.check, .int .i64 d.key] 55) = w1 := ⟨_, rfl⟩
  rw [hw1] at hal hbx
  rw [eb] at hbx
  have HW := Lib.hid hw1
  have EB := Lib.hid eb
  have HAL := Lib.hid hal
  have y1 := hbx.c1
  have y5 := hbx.c5
  have y6 := hbx.c6
  obtain ⟨⟨a, c⟩, hR⟩ : ∃ R, ranP d = R := ⟨_, rfl⟩
  rw [hR]
  have HR := Lib.hid hR
  obtain ⟨s2, e2⟩ : ∃ s, (d.kind == 2) = s := ⟨_, rfl⟩
  clear hal hbx eb hw1 hR
  cases s2
  · have hR : (d.low, d.high) = (a, c) := by
      have := HR.out
      unfold ranP at this
      rwa [e2, if_neg (by simp)] at this
    simp only [Prod.mk.injEq] at hR
    obtain ⟨rfl, rfl⟩ := hR
    clear HR
    go_enter Tryz.func125, Tryz.ntmps125
    go_upto_region 1 with fail
    rw [HW.out, EB.out]
    go_wp2_with fail
    go_quiet (fail)
    go_wp2_with fail
    go_ret2
    exact ⟨rfl, HAL.out.trans ((below_drewN _ _).mono HAL.out.size)⟩
  · have hR : (d.low, d.low) = (a, c) := by
      have := HR.out
      unfold ranP at this
      rwa [e2, if_pos rfl] at this
    simp only [Prod.mk.injEq] at hR
    obtain ⟨rfl, rfl⟩ := hR
    clear HR
    go_enter Tryz.func125, Tryz.ntmps125
    go_upto_region 1 with fail
    rw [HW.out, EB.out]
    go_wp2_with fail
    go_quiet (fail)
    go_wp2_with fail
    go_ret2
    exact ⟨rfl, HAL.out.trans ((below_drewN _ _).mono HAL.out.size)⟩

end Go.Proofs.YtbpkppmbbpoohaaGreat
