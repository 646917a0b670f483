/- The document's own answers on a reader: GetLittle, Pad. Conditions: the bits are those of at most 1048576 bytes, and the place lies in them. -/
import Derived.Test.YtboiiohpkoodpaaBg
namespace Go.Proofs.Ytboiiohpkoodpaa
open Go.RowKit Go.Shelf

theorem leVal_drop (l : List Nat) (j c : Nat) (h : l[j]? = some c) : leVal (l.drop j) = c + 256 * leVal (l.drop (j + 1)) := by
  obtain ⟨hj, rfl⟩ := List.getElem?_eq_some_iff.1 h
  rw [List.drop_eq_getElem_cons hj]
  rfl
theorem leVal_drop_lt (l : List Nat) (j : Nat) (hB : ∀ c ∈ l, c < 256) (hl : l.length ≤ 4) : leVal (l.drop j) < 4294967296 :=
  Nat.lt_of_lt_of_le (leVal_lt _ (fun c hc => hB c (List.mem_of_mem_drop hc))) (Nat.pow_le_pow_right (n := 2) (by omega) (show 8 * (l.drop j).length ≤ 32 by rw [List.length_drop]; omega))

set_option maxRecDepth 100000 in
set_option maxHeartbeats 800000 in
theorem refLittle_arg (s : Value) (p : Nat) (N : Int) (w : World) (h : N < 1 ∨ 4 < N) :
    Calls Try.prog 55 #[s, .int .i64 p, .int .i64 N] w fun e w' => e = .returned (.tuple #[.int .i64 0, .int .i64 2]) ∧ Below w.heap.size w w' := by
  by_cases h1 : N < 1
  · clear h
    go_enter Try.func55, Try.ntmps55
    go_wp2
    go_ret2
    exact ⟨rfl, Below.refl _ _⟩
  · have h2 : 4 < N := by omega
    clear h
    go_enter Try.func55, Try.ntmps55
    go_wp2
    go_ret2
    exact ⟨rfl, Below.refl _ _⟩

set_option maxRecDepth 100000 in
set_option maxHeartbeats 1600000 in
theorem refLittle_in (s : Value) (p : Nat) (N : Int) (bs : List Nat) (code : Int) (w : World) (h1 : 1 ≤ N) (h4 : N ≤ 4) (hT : Calls Try.prog 56 #[s, .int .i64 p, .int .i64 N] w (RefTook w bs code)) (hB : ∀ c ∈ bs, c < 256) (hl : bs.length ≤ 4) :
    Calls Try.prog 55 #[s, .int .i64 p, .int .i64 N] w fun e w' => e = .returned (.tuple #[.int .i64 (leVal bs : Nat), .int .i64 code]) ∧ Below w.heap.size w w' := by
  have HT := Lib.hid hT
  have HBB := Lib.hid hB
  clear hT hB
  go_enter Try.func55, Try.ntmps55
  go_wp2_with fail
  refine HT.out.mono ?_
  rintro e w1 ⟨A, c, rfl, hrow, hb⟩
  have HROW := Lib.hid hrow
  have HB := Lib.hid hb
  clear hrow hb
  go_wp2_with fail
  go_loop [10, 11] (fun v i => ∃ j : Nat, j ≤ bs.length ∧ i = .int .i64 ((j : Int) - 1) ∧ v = .int .i64 (leVal (bs.drop j) : Nat)) (fun _ i => (intOf i + 1).toNat)
  case atStart => exact ⟨bs.length, Nat.le_refl _, rfl, by simp [leVal]⟩
  case round =>
    obtain ⟨j, hj, rfl, rfl⟩ := hrel
    have hv := leVal_drop_lt bs j HBB.out hl
    by_cases hlt : 0 < j
    · obtain ⟨i, rfl⟩ : ∃ i, j = i + 1 := ⟨j - 1, by omega⟩
      obtain ⟨y, hy⟩ : ∃ y, bs[i]? = some y := ⟨_, List.getElem?_eq_getElem (by omega)⟩
      have hy2 : y < 256 := HBB.out y (List.mem_of_getElem? hy)
      have hs := leVal_drop bs i y hy
      rcases Joins.ownsRow_forms HROW.out with ⟨_, h0⟩ | ⟨g, cap, e⟩
      · omega
      · simp only [Value.slice.injEq] at e
        obtain ⟨rfl, _, rfl⟩ := e
        have hcell : w1.cell? ⟨g, i, none⟩ = some (.int .u8 y) := by
          rw [HROW.out.cellAt i (by omega)]
          simp [u8s, hy]
        obtain ⟨V, hV⟩ : ∃ V, leVal (bs.drop (i + 1)) = V := ⟨_, rfl⟩
        rw [hV] at hs hv ⊢
        rw [show (((i + 1 : Nat) : Int) - 1) = (i : Nat) by omega]
        have HS := Lib.hid hs
        have hil : i < bs.length := by omega
        clear hs hV hy
        go_wp2
        go_round
        case rel =>
          refine ⟨i, by omega, rfl, ?_⟩
          rw [HS.out]
          rw [show ((256 : Int) * V + y) = ((y + 256 * V : Nat) : Int) by omega]
        case measure => simp [intOf]
    · obtain rfl : j = 0 := by omega
      go_wp2
      go_ret2
      exact ⟨rfl, HB.out⟩

/-- GetLittle on the bits of bytes. -/
theorem refLittle (s : Value) (B : List Nat) (p : Nat) (N : Int) (w : World) (h : BitE w s (unpack B)) (hB : ∀ c ∈ B, c < 256) (hBl : B.length ≤ 1048576) (hp : p ≤ 8 * B.length) :
    Calls Try.prog 55 #[s, .int .i64 p, .int .i64 N] w fun e w' => e = .returned (.tuple #[.int .i64 ((if rlittleCode B.length p N = 0 then leVal ((B.drop (p / 8)).take N.toNat) else 0 : Nat) : Int), .int .i64 (rlittleCode B.length p N)]) ∧ Below w.heap.size w w' := by
  by_cases h1 : N < 1 ∨ 4 < N
  · have hc : rlittleCode B.length p N = 2 := by unfold rlittleCode; rw [if_neg (by simp [withinB]; omega)]
    rw [hc]
    exact refLittle_arg s p N w h1
  · have hT := refTake s B p N w h hB hBl hp
    have hc : rlittleCode B.length p N = takeCode B.length p N := by
      unfold rlittleCode takeCode
      rw [if_pos (show withinB N 1 4 = true by simp [withinB]; omega), if_neg (show ¬ N < 0 by omega)]
      by_cases h8 : ((p : Int) % 8 == 0) = true
      · rw [if_pos h8, if_pos h8]
        have h8' : (p : Int) % 8 = 0 := by simpa using h8
        by_cases h2 : 8 * (B.length : Int) - p < 8 * N
        · rw [if_pos h2, if_pos (by omega)]
        · rw [if_neg h2, if_neg (by omega)]
      · rw [if_neg h8, if_neg h8]
    rw [hc]
    have hlen : (tBytes B p N).length ≤ 4 := by
      unfold tBytes
      split
      · rw [List.length_take]; omega
      · simp
    have hb : ∀ c ∈ tBytes B p N, c < 256 := by
      intro c hcm
      unfold tBytes at hcm
      split at hcm
      · exact hB c (mem_part hcm)
      · simp at hcm
    have hfin := refLittle_in s p N (tBytes B p N) (takeCode B.length p N) w (by omega) (by omega) hT hb hlen
    have e : leVal (tBytes B p N) = if takeCode B.length p N = 0 then leVal ((B.drop (p / 8)).take N.toNat) else 0 := by
      unfold tBytes
      split <;> rfl
    rw [e] at hfin
    exact hfin

theorem bord_mod (k n : Nat) : bord k n % n = 0 := by unfold bord; exact Nat.mul_mod_left _ _
theorem bord_first (k n t : Nat) (h1 : k ≤ t) (h2 : t < bord k n) (hn : 1 ≤ n) : ¬ t % n = 0 := by
  intro h
  obtain ⟨q, rfl⟩ : ∃ q, t = n * q := ⟨t / n, by have := Nat.div_add_mod t n; omega⟩
  unfold bord at h2
  have h3 : q < (k + n - 1) / n := by
    rw [Nat.mul_comm n q] at h2
    exact Nat.lt_of_mul_lt_mul_right h2
  have h4 : (q + 1) * n ≤ k + n - 1 := (Nat.le_div_iff_mul_le (by omega)).1 h3
  rw [Nat.add_mul, Nat.mul_comm q n] at h4
  omega
theorem zeros_take (l : List Bool) (k : Nat) (b : Bool) (h : l[k]? = some b) (hz : zerosB (l.take k) = true) : zerosB (l.take (k + 1)) = !b := by
  rw [take_snoc_bit l k b h]
  simp only [zerosB, List.all_append, List.all_cons, List.all_nil, Bool.and_true] at hz ⊢
  rw [hz, Bool.true_and]
theorem zeros_not (l : List Bool) (k : Nat) (h : l[k]? = some true) : zerosB l = false := by
  simp only [zerosB, List.all_eq_false]
  exact ⟨true, List.mem_of_getElem? h, by simp⟩

set_option maxRecDepth 100000 in
set_option maxHeartbeats 800000 in
theorem refPad_arg (s : Value) (p : Nat) (N : Int) (w : World) (h : N < 1 ∨ 4096 < N) :
    Calls Try.prog 58 #[s, .int .i64 p, .int .i64 N] w fun e w' => e = .returned (.tuple #[.int .i64 p, .int .i64 2]) ∧ w = w' := by
  by_cases h1 : N < 1
  · clear h
    go_enter Try.func58, Try.ntmps58
    go_wp2
    go_ret2
    exact ⟨rfl, rfl⟩
  · have h2 : 4096 < N := by omega
    clear h
    go_enter Try.func58, Try.ntmps58
    go_wp2
    go_ret2
    exact ⟨rfl, rfl⟩

set_option maxRecDepth 100000 in
set_option maxHeartbeats 1600000 in
theorem refPad_short (A : Option Addr) (m c p n t : Nat) (w : World) (hl : m ≤ 8388608) (hp : p ≤ m) (h1 : 1 ≤ n) (h2 : n ≤ 4096) (ht : bord p n = t) (hmt : m < t) :
    Calls Try.prog 58 #[.slice A m c, .int .i64 p, .int .i64 n] w fun e w' => e = .returned (.tuple #[.int .i64 p, .int .i64 4]) ∧ w = w' := by
  have hge := bord_ge p n h1
  have hlt := bord_lt p n h1
  have hm0 := bord_mod p n
  have hfst := fun t a b => bord_first p n t a b h1
  rw [ht] at hge hlt hm0 hfst
  have HFST := Lib.hid hfst
  have HM0 := Lib.hid hm0
  have HR := Lib.hid (refRead_no A m c p ((t : Int) - p) w hl hp (by omega))
  clear hfst hm0 ht
  go_enter Try.func58, Try.ntmps58
  go_wp2_with fail
  go_loop [8] (fun x => ∃ k : Nat, p ≤ k ∧ k ≤ t ∧ x = .int .i64 k) (fun x => t - (intOf x).toNat)
  case atStart => exact ⟨p, Nat.le_refl _, hge, rfl⟩
  case round =>
    obtain ⟨k, hk1, hk2, rfl⟩ := hrel
    by_cases hkt : k < t
    · have hne := HFST.out k hk1 hkt
      have q0 : ((k : Int) % (n : Int) == 0) = false := by rw [beq_eq_false_iff_ne]; intro e; exact hne (by omega)
      have q1 : ((k : Int) % (n : Int) != 0) = true := by simp [bne, q0]
      go_wp2
      go_round
      case rel => exact ⟨k + 1, by omega, by omega, by go_num⟩
      case measure => simp [intOf]; omega
    · obtain rfl : k = t := by omega
      have hm := HM0.out
      have q0 : ((k : Int) % (n : Int) == 0) = true := by rw [beq_iff_eq]; omega
      have q1 : ((k : Int) % (n : Int) != 0) = false := by simp [bne, q0]
      clear hm
      go_wp2_with fail
      refine HR.out.mono ?_
      rintro e w' ⟨rfl, rfl⟩
      go_wp2
      go_ret2
      exact ⟨rfl, rfl⟩

/-- What Pad answers where enough bits are left. -/
def PadPost (b : List Bool) (t p : Nat) (w : World) (e : Ending) (w' : World) : Prop :=
  e = .returned (.tuple #[.int .i64 ((if zerosB b = true then t else p : Nat) : Int), .int .i64 (if zerosB b = true then 0 else 6)]) ∧ w = w'

set_option maxRecDepth 100000 in
set_option maxHeartbeats 1600000 in
theorem refPad_in (s : Value) (l : List Bool) (p n t : Nat) (w : World) (h : BitE w s l) (hl : l.length ≤ 8388608) (h1 : 1 ≤ n) (h2 : n ≤ 4096) (ht : bord p n = t) (htl : t ≤ l.length) :
    Calls Try.prog 58 #[s, .int .i64 p, .int .i64 n] w (PadPost ((l.drop p).take (t - p)) t p w) := by
  have hge := bord_ge p n h1
  have hlt := bord_lt p n h1
  have hm0 := bord_mod p n
  have hfst := fun t a b => bord_first p n t a b h1
  rw [ht] at hge hlt hm0 hfst
  have hr := refRead_ok s l p (t - p) w h hl (by omega)
  have hlen := part_len l p (t - p) (by omega)
  obtain ⟨b, hb⟩ : ∃ b, (l.drop p).take (t - p) = b := ⟨_, rfl⟩
  rw [hb] at hr hlen ⊢
  rw [show ((t - p : Nat) : Int) = (t : Int) - p by omega] at hr
  have HFST := Lib.hid hfst
  have HM0 := Lib.hid hm0
  have HR := Lib.hid hr
  have HLEN := Lib.hid hlen
  clear hfst hm0 ht h hr hb hlen
  go_enter Try.func58, Try.ntmps58
  go_wp2_with fail
  go_loop [8] (fun x => ∃ k : Nat, p ≤ k ∧ k ≤ t ∧ x = .int .i64 k) (fun x => t - (intOf x).toNat)
  case atStart => exact ⟨p, Nat.le_refl _, hge, rfl⟩
  case round =>
    obtain ⟨k, hk1, hk2, rfl⟩ := hrel
    by_cases hkt : k < t
    · have hne := HFST.out k hk1 hkt
      have q0 : ((k : Int) % (n : Int) == 0) = false := by rw [beq_eq_false_iff_ne]; intro e; exact hne (by omega)
      have q1 : ((k : Int) % (n : Int) != 0) = true := by simp [bne, q0]
      go_wp2
      go_round
      case rel => exact ⟨k + 1, by omega, by omega, by go_num⟩
      case measure => simp [intOf]; omega
    · obtain rfl : k = t := by omega
      have hm := HM0.out
      have q0 : ((k : Int) % (n : Int) == 0) = true := by rw [beq_iff_eq]; omega
      have q1 : ((k : Int) % (n : Int) != 0) = false := by simp [bne, q0]
      clear hm
      go_wp2_with fail
      refine HR.out.mono ?_
      rintro e w' ⟨A, c, rfl, hbe, rfl⟩
      have HBE := Lib.hid hbe
      clear hbe
      rw [← HLEN.out]
      have hbl : b.length ≤ 8388608 := by rw [HLEN.out]; omega
      go_wp2_with fail
      go_loop [11] (fun x => ∃ j : Nat, j ≤ b.length ∧ x = .int .i64 j ∧ zerosB (b.take j) = true) (fun x => b.length - (intOf x).toNat)
      case atStart => exact ⟨0, Nat.zero_le _, rfl, by simp [zerosB]⟩
      case round =>
        obtain ⟨j, hj, rfl, hz⟩ := hrel
        by_cases hjl : j < b.length
        · obtain ⟨x, hx⟩ : ∃ x, b[j]? = some x := ⟨_, List.getElem?_eq_getElem hjl⟩
          rcases HBE.out with ⟨_, h0⟩ | ⟨g, o, c', e, _, hc⟩
          · rw [h0] at hjl; simp at hjl
          · simp only [Value.slice.injEq] at e
            obtain ⟨rfl, _, rfl⟩ := e
            have hcell := (hc j x hx).2
            have hn := zeros_take b j x hx hz
            cases x
            · have HN := Lib.hid hn
              clear hz hn hx hc
              go_wp2
              go_round
              case rel => exact ⟨j + 1, by omega, by go_num, HN.out⟩
              case measure => simp [intOf]; omega
            · have hfz := Lib.hid (zeros_not b j hx)
              clear hz hn hx hc
              go_wp2
              go_ret2
              unfold PadPost
              rw [hfz.out]
              exact ⟨rfl, rfl⟩
        · obtain rfl : j = b.length := by omega
          rw [List.take_of_length_le (Nat.le_refl _)] at hz
          have HZ := Lib.hid hz
          clear hz
          go_wp2
          go_ret2
          unfold PadPost
          rw [HZ.out]
          exact ⟨rfl, rfl⟩

/-- Pad on the bits of bytes. -/
theorem refPad (s : Value) (B : List Nat) (p : Nat) (N : Int) (w : World) (h : BitE w s (unpack B)) (hBl : B.length ≤ 1048576) (hp : p ≤ 8 * B.length) :
    Calls Try.prog 58 #[s, .int .i64 p, .int .i64 N] w fun e w' => e = .returned (.tuple #[.int .i64 ((if padCode B p N = 0 then bord p N.toNat else p : Nat) : Int), .int .i64 (padCode B p N)]) ∧ w = w' := by
  have hul := unpack_length B
  by_cases h1 : N < 1 ∨ 4096 < N
  · have hc : padCode B p N = 2 := by unfold padCode; rw [if_neg (by simp [withinB]; omega)]
    rw [hc]
    exact refPad_arg s p N w h1
  · obtain ⟨n, rfl⟩ := Int.eq_ofNat_of_zero_le (show 0 ≤ N by omega)
    have en : ((n : Nat) : Int).toNat = n := by omega
    rw [en]
    by_cases h2 : 8 * B.length < bord p n
    · have hc : padCode B p n = 4 := by unfold padCode; rw [if_pos (by simp [withinB]; omega), en, if_pos (by omega)]
      rw [hc]
      obtain ⟨A, c, rfl⟩ := h.form
      rw [hul]
      exact refPad_short A _ c p n _ w (by omega) (by omega) (by omega) (by omega) rfl (by omega)
    · have hc : padCode B p n = if zerosB (((unpack B).drop p).take (bord p n - p)) = true then 0 else 6 := by unfold padCode; rw [if_pos (by simp [withinB]; omega), en, if_neg (by omega)]
      have := refPad_in s (unpack B) p n (bord p n) w h (by omega) (by omega) (by omega) rfl (by omega)
      rw [hc]
      cases hz : zerosB (((unpack B).drop p).take (bord p n - p))
      all_goals
        refine this.mono ?_
        rintro e w' ⟨rfl, rfl⟩
        rw [hz]
        exact ⟨rfl, rfl⟩
end Go.Proofs.Ytboiiohpkoodpaa
