/- fits of the statements, and the document's Find and Field. Conditions: the messages and fields lie in memory. -/
import Derived.Test.YtbpkppmbbpoohaaGa
namespace Go.Proofs.Ytbpkppmbbpoohaa
open Go.RowKit Go.Shelf

def okF (f : FieldD) : Prop := f.cases.length ≤ 50 ∧ f.terms.length ≤ 10
def sumF (D : List MsgD) : Nat := (D.map (·.fields.length)).sum
/-- The bounds of the statements' definitions. -/
def FitsP (D : List MsgD) : Prop := D.length ≤ 70 ∧ sumF D ≤ 400 ∧ ∀ m ∈ D, ∀ f ∈ m.fields, okF f
/-- No sum of lengths goes past the greatest number. -/
def HSZ (D : List MsgD) : Prop := ∀ i m, D[i]? = some m → i = 0 ∨ m.fields.length ≤ 9223372036854775407
def PreF (D : List MsgD) (i : Nat) (n : Int) : Prop := HSZ D → n = (sumF (D.take i) : Nat) ∧ sumF (D.take i) ≤ 400 ∧ ∀ m ∈ D.take i, ∀ f ∈ m.fields, okF f
theorem PreF.zero (D : List MsgD) : PreF D 0 0 := fun _ => ⟨by simp [sumF], by simp [sumF], fun m hm => by simp at hm⟩
theorem sumF_snoc (D : List MsgD) (m : MsgD) : sumF (D ++ [m]) = sumF D + m.fields.length := by simp [sumF]
theorem PreF.step {D : List MsgD} {i : Nat} {n : Int} {m : MsgD} (h : PreF D i n) (hm : D[i]? = some m) (hl : m.fields.length ≤ 9223372036854775807) (hs : ¬ 400 < wrap64 (n + (m.fields.length : Nat))) (hf : ∀ f ∈ m.fields, okF f) : PreF D (i + 1) (wrap64 (n + (m.fields.length : Nat))) := by
  intro hz
  obtain ⟨h1, h2, h3⟩ := h hz
  have hd : D.take (i + 1) = D.take i ++ [m] := by
    obtain ⟨h4, h5⟩ := List.getElem?_eq_some_iff.1 hm
    subst h5
    exact List.take_succ_eq_append_getElem h4
  have hi0 : i = 0 → sumF (D.take i) = 0 := fun e => by subst e; simp [sumF]
  have e : wrap64 (n + (m.fields.length : Nat)) = n + (m.fields.length : Nat) := by
    have := hz i m hm
    have hb : -9223372036854775808 ≤ n + (m.fields.length : Nat) ∧ n + (m.fields.length : Nat) ≤ 9223372036854775807 := by
      rcases this with e | e
      · have := hi0 e
        omega
      · omega
    unfold wrap64
    omega
  rw [e] at hs ⊢
  rw [hd, sumF_snoc]
  refine ⟨by omega, by omega, fun x hx => ?_⟩
  rcases List.mem_append.1 hx with hx | hx
  · exact h3 x hx
  · simp only [List.mem_singleton] at hx
    subst hx
    exact hf

/-- What fits answers. -/
def FitsE (D : List MsgD) (w : World) (e : Ending) (w' : World) : Prop := ∃ b, e = .returned (.bool b) ∧ (b = true → HSZ D → FitsP D) ∧ Below w.heap.size w w'

set_option maxRecDepth 100000 in
set_option maxHeartbeats 3200000 in
theorem fits_any (nm st : List UInt8) (A : Option Addr) (c : Nat) (D : List MsgD) (S : Nat → Prop) (w : World) (h : MsgsAt S w A c D) :
    Calls Try.prog 18 #[.agg #[.string (strL nm), .slice A D.length c, .string (strL st)]] w (FitsE D w) := by
  have hl : D.length ≤ 9223372036854775807 := Nat.le_trans h.1.1 h.1.2.1
  have hal := below_alloc w (.cells #[.string (strL nm), .slice A D.length c, .string (strL st)] 44)
  have hbx : (w.alloc (.cells #[.string (strL nm), .slice A D.length c, .string (strL st)] 44)).heap[w.heap.size]? = some (.cells #[.string (strL nm), .slice A D.length c, .string (strL st)] 44 (0, 0)) := heap_alloc_new w _
  have h1 := h.below hal
  obtain ⟨b, eb⟩ : ∃ b, w.heap.size = b := ⟨_, rfl⟩
  obtain ⟨w1, hw1⟩ : ∃ w1, w.alloc (.cells #[.string (strL nm), .slice A D.length c, .string (strL st)] 44) = w1 := ⟨_, rfl⟩
  rw [hw1] at hal hbx h1
  rw [eb] at hbx
  have y1 : w1.cell? ⟨b, 1, none⟩ = some (.slice A D.length c) := by simp [World.cell?, hbx]
  have HW := Lib.hid hw1
  have EB := Lib.hid eb
  have HAL := Lib.hid hal
  have H := Lib.hid h1
  clear h hal hbx h1 eb hw1
  go_enter Try.func18, Try.ntmps18
  go_upto_region 1 with fail
  rw [HW.out, EB.out]
  go_wp2_with fail
  go_loop [3, 4] (fun x3 x4 => ∃ (i : Nat) (n : Int), i ≤ D.length ∧ i ≤ 71 ∧ x4 = .int .i64 ((i : Nat) : Int) ∧ x3 = .int .i64 n ∧ PreF D i n) (fun _ x4 => D.length - (intOf x4).toNat)
  case atStart => exact ⟨0, 0, Nat.zero_le _, Nat.zero_le _, rfl, rfl, PreF.zero D⟩
  case round =>
    obtain ⟨i, n, hi, hi2, rfl, rfl, hp⟩ := hrel
    have HP := Lib.hid hp
    clear hp
    by_cases hlt : i < D.length
    · by_cases h70 : i ≤ 70
      · obtain ⟨m, hm⟩ : ∃ m, D[i]? = some m := ⟨_, List.getElem?_eq_getElem hlt⟩
        obtain ⟨g, o, rfl, hx⟩ := H.out.1.at_ hm
        have hfs := H.out.2 m (List.mem_of_getElem? hm)
        obtain ⟨mn, fa, fc, fs⟩ := m
        have x1 : w1.cell? ⟨g, o + i * 2 + 1, none⟩ = some (.slice fa fs.length fc) := hx 1 _ rfl
        have hfl : fs.length ≤ 9223372036854775807 := Nat.le_trans hfs.1.1 hfs.1.2.1
        have HM := Lib.hid hm
        have HFS := Lib.hid hfs
        clear hm hx hfs
        go_upto_region 7 with fail
        generalize hn' : wrap64 (n + (fs.length : Nat)) = n'
        have HN := Lib.hid hn'
        clear hn' x1
        by_cases h4 : 400 < n'
        · go_wp2_with fail
          go_ret
          exact ⟨false, rfl, (fun e => by cases e), HAL.out⟩
        · go_wp2_with fail
          go_loop [6] (fun x6 => ∃ k : Nat, k ≤ fs.length ∧ x6 = .int .i64 ((k : Nat) : Int) ∧ ∀ f ∈ fs.take k, okF f) (fun x6 => fs.length - (intOf x6).toNat)
          case atStart => exact ⟨0, Nat.zero_le _, rfl, fun f hf => by simp at hf⟩
          case round =>
            obtain ⟨k, hk, rfl, hok⟩ := hrel
            have HOK := Lib.hid hok
            clear hok
            by_cases hkl : k < fs.length
            · obtain ⟨f, hf⟩ : ∃ f, fs[k]? = some f := ⟨_, List.getElem?_eq_getElem hkl⟩
              obtain ⟨fg, fo, rfl, hxf⟩ := HFS.out.1.at_ hf
              have z8 : w1.cell? ⟨fg, fo + k * 15 + 8, none⟩ = some (.slice f.ta f.terms.length f.tc) := hxf 8 _ rfl
              have z12 : w1.cell? ⟨fg, fo + k * 15 + 12, none⟩ = some (.slice f.ca f.cases.length f.cc) := hxf 12 _ rfl
              have HF := Lib.hid hf
              clear hf hxf
              by_cases hc : 50 < f.cases.length
              · go_wp2_with fail
                go_ret
                exact ⟨false, rfl, (fun e => by cases e), HAL.out⟩
              · by_cases ht : 10 < f.terms.length
                · go_wp2_with fail
                  go_ret
                  exact ⟨false, rfl, (fun e => by cases e), HAL.out⟩
                · go_wp2_with fail
                  go_round
                  case rel => exact ⟨k + 1, by omega, by go_num, fun x hx => by
                    rw [(drop_of HF.out).2] at hx
                    rcases List.mem_append.1 hx with hx | hx
                    · exact HOK.out x hx
                    · simp only [List.mem_singleton] at hx
                      subst hx
                      exact ⟨by omega, by omega⟩⟩
                  case measure => simp [intOf]; omega
            · obtain rfl : k = fs.length := by omega
              have hok := HOK.out
              rw [List.take_length] at hok
              have HOK2 := Lib.hid hok
              clear hok HOK
              go_wp2_with fail
              go_round
              case rel => exact ⟨i + 1, n', by omega, by omega, by go_num, rfl, by
                have := HP.out.step HM.out hfl (by rw [HN.out]; omega) HOK2.out
                rwa [HN.out] at this⟩
              case measure => simp [intOf]; omega
      · have h71 : i = 71 := by omega
        have hD : ¬ D.length ≤ 70 := by omega
        go_wp2_with fail
        go_ret
        exact ⟨false, ret_bool (by simp; omega), (fun e => by cases e), HAL.out⟩
    · obtain rfl : i = D.length := by omega
      by_cases h70 : D.length ≤ 70
      · have hpp := HP.out
        unfold PreF at hpp
        rw [List.take_length] at hpp
        have HPP := Lib.hid hpp
        clear hpp
        go_wp2_with fail
        go_ret
        exact ⟨true, ret_bool (by simp; omega), fun _ hz => ⟨h70, (HPP.out hz).2.1, (HPP.out hz).2.2⟩, HAL.out⟩
      · go_wp2_with fail
        go_ret
        exact ⟨false, ret_bool (by simp; omega), (fun e => by cases e), HAL.out⟩

set_option maxRecDepth 100000 in
set_option maxHeartbeats 1600000 in
theorem refFind_any (nm st : List UInt8) (A : Option Addr) (c : Nat) (D : List MsgD) (s : List UInt8) (k : Nat) (hk : k ≤ D.length) (S : Nat → Prop) (w : World) (h : SlAt MsgD.cells 2 S w A c D) :
    Calls Try.prog 20 #[.agg #[.string (strL nm), .slice A D.length c, .string (strL st)], .string (strL s), .int .i64 ((k : Nat) : Int)] w fun e w' => e = .returned (.int .i64 (idxOf (fun d : MsgD => d.name == s) (D.take k))) ∧ Below w.heap.size w w' := by
  have hl : D.length ≤ 9223372036854775807 := Nat.le_trans h.1 h.2.1
  have hal := below_alloc w (.cells #[.string (strL nm), .slice A D.length c, .string (strL st)] 44)
  have hbx : (w.alloc (.cells #[.string (strL nm), .slice A D.length c, .string (strL st)] 44)).heap[w.heap.size]? = some (.cells #[.string (strL nm), .slice A D.length c, .string (strL st)] 44 (0, 0)) := heap_alloc_new w _
  have h1 := h.below hal
  obtain ⟨b, eb⟩ : ∃ b, w.heap.size = b := ⟨_, rfl⟩
  obtain ⟨w1, hw1⟩ : ∃ w1, w.alloc (.cells #[.string (strL nm), .slice A D.length c, .string (strL st)] 44) = w1 := ⟨_, rfl⟩
  rw [hw1] at hal hbx h1
  rw [eb] at hbx
  have y1 : w1.cell? ⟨b, 1, none⟩ = some (.slice A D.length c) := by simp [World.cell?, hbx]
  obtain ⟨R, hR⟩ : ∃ R, idxOf (fun d : MsgD => d.name == s) (D.take k) = R := ⟨_, rfl⟩
  rw [hR]
  have HR := Lib.hid hR
  have HW := Lib.hid hw1
  have EB := Lib.hid eb
  have HAL := Lib.hid hal
  have H := Lib.hid h1
  clear h hal hbx h1 eb hw1 hR
  go_enter Try.func20, Try.ntmps20
  go_upto_region 1 with fail
  rw [HW.out, EB.out]
  go_wp2_with fail
  go_loop [7] (fun x7 => ∃ i : Nat, i ≤ k ∧ x7 = .int .i64 ((i : Nat) : Int) ∧ ∀ x ∈ D.take i, (x.name == s) = false) (fun x7 => k - (intOf x7).toNat)
  case atStart => exact ⟨0, Nat.zero_le _, rfl, by simp⟩
  case round =>
    obtain ⟨i, hi, rfl, hb⟩ := hrel
    have HB := Lib.hid hb
    clear hb
    by_cases hlt : i < k
    · have hlt2 : i < D.length := by omega
      obtain ⟨d, hd⟩ : ∃ d, D[i]? = some d := ⟨_, List.getElem?_eq_getElem hlt2⟩
      obtain ⟨g, o, rfl, hx⟩ := H.out.at_ hd
      have x0 : w1.cell? ⟨g, o + i * 2, none⟩ = some (.string (strL d.name)) := hx 0 _ rfl
      have HD := Lib.hid hd
      clear hd hx
      by_cases he : d.name = s
      · have hRi : R = ((i : Nat) : Int) := by
          rw [← HR.out]
          refine idx_hit (d := d) (by rw [List.getElem?_take_of_lt hlt]; exact HD.out) (by rw [List.take_take, Nat.min_eq_left (by omega)]; exact HB.out) (by simpa using he)
        have HRI := Lib.hid hRi
        clear hRi HR HB HD
        subst he
        go_wp2_with fail
        go_ret
        exact ⟨ret_int HRI.out.symm, HAL.out⟩
      · have e1 := text_ne he
        have HN := Lib.hid (take_none (p := fun d : MsgD => d.name == s) HD.out HB.out (by simpa using he))
        clear he
        go_wp2_with fail
        go_round
        case rel => exact ⟨i + 1, by omega, by go_num, HN.out⟩
        case measure => simp [intOf]; omega
    · obtain rfl : i = k := by omega
      have hRi : R = -1 := by rw [← HR.out]; exact idx_miss HB.out
      have HRI := Lib.hid hRi
      clear hRi
      go_wp2_with fail
      go_ret
      exact ⟨ret_int HRI.out.symm, HAL.out⟩

set_option maxRecDepth 100000 in
set_option maxHeartbeats 1600000 in
theorem refField_any (nm : List UInt8) (A : Option Addr) (c : Nat) (D : List FieldD) (s : List UInt8) (k : Nat) (hk : k ≤ D.length) (S : Nat → Prop) (w : World) (h : SlAt FieldD.cells 15 S w A c D) :
    Calls Try.prog 22 #[.agg #[.string (strL nm), .slice A D.length c], .string (strL s), .int .i64 ((k : Nat) : Int)] w fun e w' => e = .returned (.int .i64 (idxOf (fun d : FieldD => d.name == s) (D.take k))) ∧ Below w.heap.size w w' := by
  have hl : D.length ≤ 9223372036854775807 := Nat.le_trans h.1 h.2.1
  have hal := below_alloc w (.cells #[.string (strL nm), .slice A D.length c] 50)
  have hbx : (w.alloc (.cells #[.string (strL nm), .slice A D.length c] 50)).heap[w.heap.size]? = some (.cells #[.string (strL nm), .slice A D.length c] 50 (0, 0)) := heap_alloc_new w _
  have h1 := h.below hal
  obtain ⟨b, eb⟩ : ∃ b, w.heap.size = b := ⟨_, rfl⟩
  obtain ⟨w1, hw1⟩ : ∃ w1, w.alloc (.cells #[.string (strL nm), .slice A D.length c] 50) = w1 := ⟨_, rfl⟩
  rw [hw1] at hal hbx h1
  rw [eb] at hbx
  have y1 : w1.cell? ⟨b, 1, none⟩ = some (.slice A D.length c) := by simp [World.cell?, hbx]
  obtain ⟨R, hR⟩ : ∃ R, idxOf (fun d : FieldD => d.name == s) (D.take k) = R := ⟨_, rfl⟩
  rw [hR]
  have HR := Lib.hid hR
  have HW := Lib.hid hw1
  have EB := Lib.hid eb
  have HAL := Lib.hid hal
  have H := Lib.hid h1
  clear h hal hbx h1 eb hw1 hR
  go_enter Try.func22, Try.ntmps22
  go_upto_region 1 with fail
  rw [HW.out, EB.out]
  go_wp2_with fail
  go_loop [7] (fun x7 => ∃ i : Nat, i ≤ k ∧ x7 = .int .i64 ((i : Nat) : Int) ∧ ∀ x ∈ D.take i, (x.name == s) = false) (fun x7 => k - (intOf x7).toNat)
  case atStart => exact ⟨0, Nat.zero_le _, rfl, by simp⟩
  case round =>
    obtain ⟨i, hi, rfl, hb⟩ := hrel
    have HB := Lib.hid hb
    clear hb
    by_cases hlt : i < k
    · have hlt2 : i < D.length := by omega
      obtain ⟨d, hd⟩ : ∃ d, D[i]? = some d := ⟨_, List.getElem?_eq_getElem hlt2⟩
      obtain ⟨g, o, rfl, hx⟩ := H.out.at_ hd
      have x0 : w1.cell? ⟨g, o + i * 15, none⟩ = some (.string (strL d.name)) := hx 0 _ rfl
      have HD := Lib.hid hd
      clear hd hx
      by_cases he : d.name = s
      · have hRi : R = ((i : Nat) : Int) := by
          rw [← HR.out]
          refine idx_hit (d := d) (by rw [List.getElem?_take_of_lt hlt]; exact HD.out) (by rw [List.take_take, Nat.min_eq_left (by omega)]; exact HB.out) (by simpa using he)
        have HRI := Lib.hid hRi
        clear hRi HR HB HD
        subst he
        go_wp2_with fail
        go_ret
        exact ⟨ret_int HRI.out.symm, HAL.out⟩
      · have e1 := text_ne he
        have HN := Lib.hid (take_none (p := fun d : FieldD => d.name == s) HD.out HB.out (by simpa using he))
        clear he
        go_wp2_with fail
        go_round
        case rel => exact ⟨i + 1, by omega, by go_num, HN.out⟩
        case measure => simp [intOf]; omega
    · obtain rfl : i = k := by omega
      have hRi : R = -1 := by rw [← HR.out]; exact idx_miss HB.out
      have HRI := Lib.hid hRi
      clear hRi
      go_wp2_with fail
      go_ret
      exact ⟨ret_int HRI.out.symm, HAL.out⟩
end Go.Proofs.Ytbpkppmbbpoohaa
