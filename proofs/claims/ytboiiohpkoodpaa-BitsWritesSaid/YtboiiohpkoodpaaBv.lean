/- The document's own answers: Value is the number of bits, Bytes their bytes, Read the bits from a place on. Conditions: at most 8388608 bits (Value: at most 32). -/
import Derived.Test.YtboiiohpkoodpaaRf
import Derived.Test.YtboiiohpkoodpaaBp
namespace Go.Proofs.Ytboiiohpkoodpaa
open Go.RowKit Go.Shelf

/-- The bits of a slice value, nil or not; no bits, at any place. -/
def BitE (w : World) (s : Value) (l : List Bool) : Prop :=
  (s = .slice none 0 0 ∧ l = []) ∨ ∃ g o c, s = .slice (some ⟨g, o, none⟩) l.length c ∧ l.length ≤ c ∧ ∀ (j : Nat) (b : Bool), l[j]? = some b → g < w.heap.size ∧ w.cell? ⟨g, o + j, none⟩ = some (.bool b)

theorem BitE.of_row {w : World} {base n : Nat} {v : Value} {l : List Bool} (h : w.ownsRow base 4 1 v n (bools l)) : BitE w v l := by
  have hn : n = l.length := by have := h.1; rw [bools_length] at this; omega
  subst hn
  rcases h.2 with ⟨rfl, h0⟩ | ⟨g, cap, cur, rfl, _, hg, h1, _⟩
  · exact .inl ⟨rfl, List.eq_nil_of_length_eq_zero h0⟩
  · refine .inr ⟨g, 0, cap, rfl, h1, fun j b hj => ⟨(Array.getElem?_eq_some_iff.1 hg).1, ?_⟩⟩
    have hjl := (List.getElem?_eq_some_iff.1 hj).1
    rw [Nat.zero_add, h.cellAt j (by omega)]
    simp [bools, hj]
theorem BitE.later {w w' : World} {s : Value} {l : List Bool} (h : BitE w s l) (hb : Below w.heap.size w w') : BitE w' s l := by
  rcases h with h | ⟨g, o, c, rfl, hc, hl⟩
  · exact .inl h
  · exact .inr ⟨g, o, c, rfl, hc, fun j b hj => ⟨Nat.lt_of_lt_of_le (hl j b hj).1 hb.size, (hb.cell (p := ⟨g, o + j, none⟩) (hl j b hj).1).trans (hl j b hj).2⟩⟩
theorem take_snoc_bit (l : List Bool) (k : Nat) (b : Bool) (h : l[k]? = some b) : l.take (k + 1) = l.take k ++ [b] := by
  obtain ⟨hk, rfl⟩ := List.getElem?_eq_some_iff.1 h
  exact List.take_succ_eq_append_getElem hk
theorem val_take (l : List Bool) (k : Nat) (hl : l.length ≤ 32) : val (l.take k) < 4294967296 := by
  refine Nat.lt_of_lt_of_le (val_lt _) (Nat.pow_le_pow_right (n := 2) (by omega) (show (l.take k).length ≤ 32 from ?_))
  rw [List.length_take]; omega

set_option maxRecDepth 100000 in
set_option maxHeartbeats 800000 in
theorem refValue (s : Value) (l : List Bool) (w : World) (h : BitE w s l) (hl : l.length ≤ 32) :
    Calls Try.prog 42 #[s] w fun e w' => e = .returned (.int .i64 (val l : Nat)) ∧ w = w' := by
  rcases h with ⟨rfl, rfl⟩ | ⟨g, o, c, rfl, _, hc⟩
  · go_enter Try.func42, Try.ntmps42
    go_wp2
    go_loop [3, 4] (fun v i => v = .int .i64 0 ∧ i = .int .i64 0) (fun _ _ => 0)
    case atStart => exact ⟨rfl, rfl⟩
    case round =>
      obtain ⟨rfl, rfl⟩ := hrel
      go_wp2
      go_ret
      exact ⟨rfl, rfl⟩
  · have HC := Lib.hid hc
    clear hc
    go_enter Try.func42, Try.ntmps42
    go_wp2
    go_loop [3, 4] (fun v i => ∃ k : Nat, k ≤ l.length ∧ i = .int .i64 k ∧ v = .int .i64 (val (l.take k) : Nat)) (fun _ i => l.length - (intOf i).toNat)
    case atStart => exact ⟨0, Nat.zero_le _, rfl, by simp [val]⟩
    case round =>
      obtain ⟨k, hk, rfl, rfl⟩ := hrel
      have hv := val_take l k hl
      by_cases hlt : k < l.length
      · obtain ⟨b, hb⟩ : ∃ b, l[k]? = some b := ⟨_, List.getElem?_eq_getElem hlt⟩
        have hcell := (HC.out k b hb).2
        have hs : val (l.take (k + 1)) = 2 * val (l.take k) + b.toNat := by rw [take_snoc_bit l k b hb, val_snoc]
        obtain ⟨V, hV⟩ : ∃ V, val (l.take k) = V := ⟨_, rfl⟩
        rw [hV] at hs hv ⊢
        have HS := Lib.hid hs
        clear hs hV hb
        cases b
        all_goals
          go_wp2
          go_round
          case rel =>
            refine ⟨k + 1, by omega, by go_num, ?_⟩
            rw [HS.out]
            simp
          case measure => simp [intOf]; omega
      · obtain rfl : k = l.length := by omega
        rw [List.take_of_length_le (Nat.le_refl _)] at hv ⊢
        go_wp2
        go_ret
        exact ⟨rfl, rfl⟩

/-- New bytes. -/
def NewB8 (w : World) (B : List Nat) (e : Ending) (w' : World) : Prop :=
  ∃ r, e = .returned r ∧ w'.ownsRow w.heap.size 5 1 r B.length (u8s B) ∧ Below w.heap.size w w'

/-- The bits of a byte, up to the j-th one. -/
def bitsAt (l : List Bool) (i j : Nat) : List Bool := (List.range j).map fun t => l.getD (i + t) false
theorem bitsAt_len (l : List Bool) (i j : Nat) : (bitsAt l i j).length = j := by simp [bitsAt]
theorem bitsAt_succ (l : List Bool) (i j : Nat) : bitsAt l i (j + 1) = bitsAt l i j ++ [l.getD (i + j) false] := by simp [bitsAt, List.range_succ]
theorem bitsAt_byte (l : List Bool) (q : Nat) : val (bitsAt l (8 * q) 8) = byteOf l q := rfl
theorem packs_take_succ (l : List Bool) (q : Nat) (h : 8 * q < l.length) : (packs l).take (q + 1) = (packs l).take q ++ [byteOf l q] := by
  have hq : q < (l.length + 7) / 8 := by omega
  rw [List.take_succ_eq_append_getElem (by rw [packs_length]; exact hq), packs_get l q hq]
theorem packs_take_all (l : List Bool) (q : Nat) (h : l.length ≤ 8 * q) : (packs l).take q = packs l := List.take_of_length_le (by rw [packs_length]; omega)
theorem packs_take_len (l : List Bool) (q : Nat) (h : 8 * q < l.length) : ((packs l).take q).length = q := by rw [List.length_take, packs_length]; omega

set_option maxRecDepth 100000 in
set_option maxHeartbeats 800000 in
theorem refBytes_nil (w : World) (s : Value) (hs : s = .slice none 0 0 ∨ ∃ a c, s = .slice (some a) 0 c) : Calls Try.prog 17 #[s] w (NewB8 w []) := by
  rcases hs with rfl | ⟨a, c, rfl⟩
  all_goals
    go_enter Try.func17, Try.ntmps17
    go_wp2
    go_loopw [3, 4] (fun o i wr => o = .slice none 0 0 ∧ i = .int .i64 0 ∧ wr = w) (fun _ _ _ => 0)
    case atStart => exact ⟨rfl, rfl, rfl⟩
    case round =>
      obtain ⟨rfl, rfl, rfl⟩ := hrel
      go_wp2
      go_ret
      exact ⟨_, rfl, ⟨by simp [u8s], .inl ⟨rfl, by simp⟩⟩, Below.refl _ _⟩

set_option maxRecDepth 100000 in
set_option maxHeartbeats 1600000 in
theorem refBytes_some (g o c : Nat) (l : List Bool) (w : World) (hc : ∀ (j : Nat) (b : Bool), l[j]? = some b → g < w.heap.size ∧ w.cell? ⟨g, o + j, none⟩ = some (.bool b)) (hl : l.length ≤ 8388608) :
    Calls Try.prog 17 #[.slice (some ⟨g, o, none⟩) l.length c] w (NewB8 w (packs l)) := by
  obtain ⟨i4, hi4, hz40, hz41, hz42⟩ := info_parts Try.info4
  obtain ⟨i5, hi5, hz50, hz51, hz52⟩ := info_parts Try.info5
  have HI4 := Lib.hid hi4
  have HI5 := Lib.hid hi5
  have HC := Lib.hid hc
  clear hi4 hi5 hc
  go_enter Try.func17, Try.ntmps17
  go_wp2
  go_loopw [3, 4] (fun out i wr => ∃ q : Nat, 8 * q < l.length + 8 ∧ i = .int .i64 (8 * q : Nat) ∧ wr.ownsRow w.heap.size 5 1 out ((packs l).take q).length (u8s ((packs l).take q)) ∧ Below w.heap.size w wr) (fun _ i _ => l.length + 8 - (intOf i).toNat)
  case atStart => exact ⟨0, by omega, rfl, ⟨by simp [u8s], .inl ⟨rfl, by simp⟩⟩, Below.refl _ _⟩
  case round =>
    obtain ⟨q, hq, rfl, hrow, hb⟩ := hrel
    have HR := Lib.hid hrow
    have HB := Lib.hid hb
    clear hrow hb
    by_cases hlt : 8 * q < l.length
    · obtain ⟨I, hI⟩ : ∃ I, 8 * q = I := ⟨_, rfl⟩
      have hI8 : I ≤ 8388608 := by omega
      rw [hI] at hlt ⊢
      have HQ := Lib.hid hI
      clear hI
      obtain ⟨wo, rfl⟩ : ∃ wo : World, wo = wr := ⟨_, rfl⟩
      go_wp2
      go_loopw [5, 6] (fun x k wr => ∃ j : Nat, j ≤ 8 ∧ k = .int .i64 (I + j : Nat) ∧ wr.ownsRow w.heap.size 4 1 x (bitsAt l I j).length (bools (bitsAt l I j)) ∧ wr.ownsRow w.heap.size 5 1 u3 ((packs l).take q).length (u8s ((packs l).take q)) ∧ Below w.heap.size w wr) (fun _ k _ => I + 8 - (intOf k).toNat)
      case atStart => exact ⟨0, by omega, by simp, ⟨by simp [bools], .inl ⟨rfl, by simp [bitsAt]⟩⟩, HR.out, HB.out⟩
      case round =>
        obtain ⟨j, hj, rfl, hrx, hro, hb⟩ := hrel
        have HX := Lib.hid hrx
        have HO := Lib.hid hro
        have HB2 := Lib.hid hb
        clear hrx hro hb
        by_cases hj8 : j < 8
        · obtain ⟨m, hm⟩ : ∃ m, I + j = m := ⟨_, rfl⟩
          have hm8 : m < I + 8 := by omega
          have hbs := bitsAt_succ l I j
          rw [hm] at hbs ⊢
          have hlen := bitsAt_len l I j
          obtain ⟨X, hX⟩ : ∃ X, bitsAt l I j = X := ⟨_, rfl⟩
          have hX0 := HX.out
          rw [hX] at hX0 hbs hlen
          have HX0 := Lib.hid hX0
          have HBS := Lib.hid hbs
          have HM := Lib.hid hm
          have HLN := Lib.hid hlen
          have hXl : X.length < 8 := by omega
          clear hX0 hbs hX hm hlen HX
          have KO : ∀ (o : Obj) (w1 : World), (wr.alloc o).grownBy w1 u5.ownBlock → w1.ownsRow w.heap.size 5 1 u3 ((packs l).take q).length (u8s ((packs l).take q)) := fun o w1 hg =>
            Rest.row (S := fun q => some q = u5.ownBlock) (((Rest.refl _ wr).alloc _).grown hg (fun q e _ => e.symm)) HO.out (fun q hq e => rows_apart HO.out HX0.out (by decide) q hq e.symm)
          have KO := Lib.hid KO
          by_cases hml : m < l.length
          · obtain ⟨b, hbit⟩ : ∃ b, l[m]? = some b := ⟨_, List.getElem?_eq_getElem hml⟩
            have hcell : wr.cell? ⟨g, o + m, none⟩ = some (.bool b) := (HB2.out.cell (p := ⟨g, o + m, none⟩) (HC.out m b hbit).1).trans (HC.out m b hbit).2
            have hgd : l.getD m false = b := by rw [List.getD_eq_getElem?_getD, hbit]; rfl
            have HGD := Lib.hid hgd
            clear hgd hbit
            go_wp2_with (at_builtin; go_must (refine wpList_append_own_at _ rfl _ _ 27 rfl w.heap.size 4 i4 (.bool false) 1 1 Try.underlying27 HI4.out hz40 hz41 hz42 rfl (by decide) _ _ _ rfl (HX0.out.alloc _) ⟨wr.heap.size, 0, none⟩ 1 1 [.bool b] rfl rfl (cell_one_new _ _ _) (by simp [Value.oneCell']) (by unfold maxLen; omega) (by omega) (by have := HB2.out.size; simp; omega) ?_); go_must (intro v1 w1 hown1 hgrow1 _ _); have hb1 := (HB2.out.alloc HB2.out.size (.cells #[.bool b] 4)).grown hgrow1 (by have := HB2.out.size; simp; omega) (fun k e => row_ge HX0.out k e); have HB1 := Lib.hid hb1; have HO1 := Lib.hid hown1; have HK1 := Lib.hid (KO.out _ _ hgrow1); clear hb1 hown1 hgrow1)
            go_roundw
            case rel =>
              refine ⟨j + 1, by omega, by rw [show I + (j + 1) = m + 1 by have := HM.out; omega]; go_num, ?_, HK1.out, HB1.out⟩
              rw [HBS.out, HGD.out, bools_append, List.length_append]
              exact HO1.out
            case measure => simp [intOf]; have := HM.out; omega
          · have hgd : l.getD m false = false := by rw [List.getD_eq_getElem?_getD, List.getElem?_eq_none (by omega)]; rfl
            have HGD := Lib.hid hgd
            have hdm : decide (m < l.length) = false := by simpa using hml
            clear hgd
            go_wp2_with (at_builtin; go_must (refine wpList_append_own_at _ rfl _ _ 27 rfl w.heap.size 4 i4 (.bool false) 1 1 Try.underlying27 HI4.out hz40 hz41 hz42 rfl (by decide) _ _ _ rfl (HX0.out.alloc _) ⟨wr.heap.size, 0, none⟩ 1 1 [.bool false] rfl rfl (cell_one_new _ _ _) (by simp [Value.oneCell']) (by unfold maxLen; omega) (by omega) (by have := HB2.out.size; simp; omega) ?_); go_must (intro v1 w1 hown1 hgrow1 _ _); have hb1 := (HB2.out.alloc HB2.out.size (.cells #[.bool false] 4)).grown hgrow1 (by have := HB2.out.size; simp; omega) (fun k e => row_ge HX0.out k e); have HB1 := Lib.hid hb1; have HO1 := Lib.hid hown1; have HK1 := Lib.hid (KO.out _ _ hgrow1); clear hb1 hown1 hgrow1)
            go_roundw
            case rel =>
              refine ⟨j + 1, by omega, by rw [show I + (j + 1) = m + 1 by have := HM.out; omega]; go_num, ?_, HK1.out, HB1.out⟩
              rw [HBS.out, HGD.out, bools_append, List.length_append]
              exact HO1.out
            case measure => simp [intOf]; have := HM.out; omega
        · obtain rfl : j = 8 := by omega
          have hV : val (bitsAt l I 8) = byteOf l q := by rw [← HQ.out]; exact bitsAt_byte l q
          have hV256 := byteOf_lt l q
          have hpt := packs_take_succ l q (by rw [HQ.out]; exact hlt)
          have hpl := packs_take_len l q (by rw [HQ.out]; exact hlt)
          have HV := refValue u5 (bitsAt l I 8) wr (BitE.of_row HX.out) (by rw [bitsAt_len]; omega)
          rw [hV] at HV
          obtain ⟨y, hy⟩ : ∃ y, byteOf l q = y := ⟨_, rfl⟩
          rw [hy] at HV hV256 hpt
          have HV := Lib.hid HV
          have HPT := Lib.hid hpt
          have HPL := Lib.hid hpl
          have hq20 : ((packs l).take q).length ≤ 1048576 := by rw [hpl]; have := HQ.out; omega
          clear hV hpt hy hpl
          go_wp2_with fail
          refine HV.out.mono ?_
          rintro e w' ⟨rfl, rfl⟩
          have hy64 : ((y : Nat) : Int) < 256 := by omega
          go_wp2_with (at_builtin; go_must (refine wpList_append_own_at _ rfl _ _ 28 rfl w.heap.size 5 i5 (.int .u8 0) 1 1 Try.underlying28 HI5.out hz50 hz51 hz52 rfl (by decide) _ _ _ rfl (HO.out.alloc _) ⟨wr.heap.size, 0, none⟩ 1 1 [.int .u8 (y : Nat)] rfl rfl (cell_one_new _ _ _) (by simp [Value.oneCell']) (by unfold maxLen; omega) (by omega) (by have := HB2.out.size; simp; omega) ?_); go_must (intro v1 w1 hown1 hgrow1 _ _); have hb1 := (HB2.out.alloc HB2.out.size (.cells #[.int .u8 (y : Nat)] 5)).grown hgrow1 (by have := HB2.out.size; simp; omega) (fun k e => row_ge HO.out k e); have HB1 := Lib.hid hb1; have HO1 := Lib.hid hown1; clear hb1 hown1 hgrow1)
          go_roundw
          case rel =>
            refine ⟨q + 1, by have := HQ.out; omega, by rw [show 8 * (q + 1) = I + 8 by have := HQ.out; omega]; go_num, ?_, HB1.out⟩
            rw [HPT.out, u8s_append, List.length_append]
            exact HO1.out
          case measure => simp [intOf]; omega
    · have hpa := packs_take_all l q (by omega)
      rw [hpa] at HR
      go_wp2
      go_ret
      exact ⟨_, rfl, HR.out, HB.out⟩

theorem refBytes (s : Value) (l : List Bool) (w : World) (h : BitE w s l) (hl : l.length ≤ 8388608) : Calls Try.prog 17 #[s] w (NewB8 w (packs l)) := by
  rcases h with ⟨rfl, rfl⟩ | ⟨g, o, c, rfl, _, hc⟩
  · exact refBytes_nil w _ (.inl rfl)
  · exact refBytes_some g o c l w hc hl
end Go.Proofs.Ytboiiohpkoodpaa
