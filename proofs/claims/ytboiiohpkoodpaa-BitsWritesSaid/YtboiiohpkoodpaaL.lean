/- Little puts a little number behind a writer's bit string, or returns the error that the chapter asks. Conditions: the writer lies in memory and has at most 8388608 bits. -/
import Derived.Test.YtboiiohpkoodpaaK
import Derived.Deep.RegionHeld3
namespace Go.Proofs.Ytboiiohpkoodpaa
open Go.RowKit Go.Shelf

set_option maxHeartbeats 400000 in
theorem little1_any (B1 B2 : Nat) (v k : Int) (w : World) (hn : w.cell? ⟨B1, 0, none⟩ = some (.int .i64 k)) (hv : w.cell? ⟨B2, 0, none⟩ = some (.int .i64 v)) :
    Calls Try.prog 79 #[.pointer (some ⟨B1, 0, none⟩), .pointer (some ⟨B2, 0, none⟩)] w fun e w' => e = .returned (.bool (!(withinB k 1 4 && fitsB v (8 * k)))) ∧ w = w' := by
  by_cases h : withinB k 1 4 = true
  · obtain ⟨h1, h2⟩ : 1 ≤ k ∧ k ≤ 4 := by simpa [withinB] using h
    go_enter Try.func79, Try.ntmps79
    go_wp2_with (first | (go_at_call 45; go_must (refine (within_ok k 1 4 _).mono ?_); rw [h]; rintro e w1 ⟨rfl, rfl⟩) | (go_at_call 46; go_must (refine (fits_any v (8 * k) (by omega) (by omega) _).mono ?_); rintro e w1 ⟨rfl, rfl⟩))
    go_ret
    exact ⟨ret_bool (by simp [h]), rfl⟩
  · have h' : withinB k 1 4 = false := by simpa using h
    go_enter Try.func79, Try.ntmps79
    go_wp2_with (first | (go_at_call 45; go_must (refine (within_ok k 1 4 _).mono ?_); rw [h']; rintro e w1 ⟨rfl, rfl⟩))
    go_ret
    exact ⟨ret_bool (by simp [h']), rfl⟩

set_option maxHeartbeats 400000 in
theorem little2_any (B1 b : Nat) (n : Nat) (w : World) (hw : w.cell? ⟨B1, 0, none⟩ = some (.pointer (some ⟨b, 0, none⟩))) (hc : w.cell? ⟨b, 2, none⟩ = some (.int .i64 n)) :
    Calls Try.prog 80 #[.pointer (some ⟨B1, 0, none⟩)] w fun e w' => e = .returned (.bool (!((n : Int) % 8 == 0))) ∧ w = w' := by
  go_enter Try.func80, Try.ntmps80
  go_wp2_with (go_at_call 68; go_must (refine (aligned_any b n _ (by omega) hc).mono ?_); rintro e w1 ⟨rfl, rfl⟩)
  go_ret
  exact ⟨rfl, rfl⟩

set_option maxHeartbeats 400000 in
theorem little3_any (B1 B2 b : Nat) (n k : Int) (w : World) (hn : w.cell? ⟨B1, 0, none⟩ = some (.int .i64 n)) (hw : w.cell? ⟨B2, 0, none⟩ = some (.pointer (some ⟨b, 0, none⟩))) (h0 : 0 ≤ k) (h1 : k ≤ 8388608) (hn1 : 1 ≤ n) (hn2 : n ≤ 4) (hc : w.cell? ⟨b, 2, none⟩ = some (.int .i64 k)) :
    Calls Try.prog 81 #[.pointer (some ⟨B1, 0, none⟩), .pointer (some ⟨B2, 0, none⟩)] w fun e w' => e = .returned (.bool (decide (8388608 - k < 8 * n))) ∧ Below w.heap.size w w' := by
  go_enter Try.func81, Try.ntmps81
  go_wp2
  go_quiet ((go_at_call 48; exact quiet_same (room_any b k _ h0 h1 hc)))
  go_wp2
  go_ret
  exact ⟨rfl, below_drewN (Below.refl _ _) nq⟩

theorem good79 {W : World} {B1 B2 : Nat} {v n : Int} (l1 : B1 < W.heap.size) (l2 : B2 < W.heap.size) (hn : W.cell? ⟨B1, 0, none⟩ = some (.int .i64 n)) (hv : W.cell? ⟨B2, 0, none⟩ = some (.int .i64 v)) :
    CndGood W ⟨2, 79, #[], #[.pointer (some ⟨B1, 0, none⟩), .pointer (some ⟨B2, 0, none⟩)], !(withinB n 1 4 && fitsB v (8 * n))⟩ :=
  .of_same (by simp) Try.ent79 fun W' hW' => little1_any B1 B2 v n W' ((hW'.cell (p := ⟨B1, 0, none⟩) l1).trans hn) ((hW'.cell (p := ⟨B2, 0, none⟩) l2).trans hv)
theorem good80 {W : World} {B1 b n : Nat} (l1 : B1 < W.heap.size) (lb : b < W.heap.size) (hw : W.cell? ⟨B1, 0, none⟩ = some (.pointer (some ⟨b, 0, none⟩))) (hc : W.cell? ⟨b, 2, none⟩ = some (.int .i64 n)) :
    CndGood W ⟨8, 80, #[], #[.pointer (some ⟨B1, 0, none⟩)], !((n : Int) % 8 == 0)⟩ :=
  .of_same (by simp) Try.ent80 fun W' hW' => little2_any B1 b n W' ((hW'.cell (p := ⟨B1, 0, none⟩) l1).trans hw) ((hW'.cell (p := ⟨b, 2, none⟩) lb).trans hc)
theorem good81 {W : World} {B1 B2 b : Nat} {n k : Int} (l1 : B1 < W.heap.size) (l2 : B2 < W.heap.size) (lb : b < W.heap.size) (hn : W.cell? ⟨B1, 0, none⟩ = some (.int .i64 n)) (hw : W.cell? ⟨B2, 0, none⟩ = some (.pointer (some ⟨b, 0, none⟩))) (h0 : 0 ≤ k) (h1 : k ≤ 8388608) (hn1 : 1 ≤ n) (hn2 : n ≤ 4) (hc : W.cell? ⟨b, 2, none⟩ = some (.int .i64 k)) :
    CndGood W ⟨7, 81, #[], #[.pointer (some ⟨B1, 0, none⟩), .pointer (some ⟨B2, 0, none⟩)], decide (8388608 - k < 8 * n)⟩ :=
  .of (by simp) Try.ent81 fun W' hW' => little3_any B1 B2 b n k W' ((hW'.cell (p := ⟨B1, 0, none⟩) l1).trans hn) ((hW'.cell (p := ⟨B2, 0, none⟩) l2).trans hw) h0 h1 hn1 hn2 ((hW'.cell (p := ⟨b, 2, none⟩) lb).trans hc)

/-- The code of Little. -/
def littleCode (len : Nat) (v n : Int) : Int := if withinB n 1 4 && fitsB v (8 * n) then (if (len : Int) % 8 == 0 then (if 8388608 - (len : Int) < 8 * n then 7 else 0) else 8) else 2

theorem little_first (b : Nat) (vv : Value) (l : List Bool) (v n : Int) (w : World) (h : WAt w b vv l) (hl : l.length ≤ 8388608) :
    Calls Try.prog 43 #[.slice (some ⟨w.heap.size + 1 + 1 + 1, 0, none⟩) 4 4]
      ((box3 w (.pointer (some ⟨b, 0, none⟩)) (.int .i64 v) (.int .i64 n) 25 3 3).alloc (.cells #[.int .i64 1, .func (.func 34) #[.pointer (some ⟨b, 0, none⟩)] #[],
        .int .i64 2, .func (.func 79) #[] #[.pointer (some ⟨w.heap.size + 1 + 1, 0, none⟩), .pointer (some ⟨w.heap.size + 1, 0, none⟩)],
        .int .i64 8, .func (.func 80) #[] #[.pointer (some ⟨w.heap.size, 0, none⟩)],
        .int .i64 7, .func (.func 81) #[] #[.pointer (some ⟨w.heap.size + 1 + 1, 0, none⟩), .pointer (some ⟨w.heap.size, 0, none⟩)]] 77))
      fun e w' => e = .returned (.int .i64 (littleCode l.length v n)) ∧ Below (w.heap.size + 1 + 1 + 1) (box3 w (.pointer (some ⟨b, 0, none⟩)) (.int .i64 v) (.int .i64 n) 25 3 3) w' := by
  have hlt := h.obj.lt
  have hb := h.obj.below (box3_below w (.pointer (some ⟨b, 0, none⟩)) (.int .i64 v) (.int .i64 n) 25 3 3) hlt
  have hs := box3_size w (.pointer (some ⟨b, 0, none⟩)) (.int .i64 v) (.int .i64 n) 25 3 3
  have x1 := box3_1 w (.pointer (some ⟨b, 0, none⟩)) (.int .i64 v) (.int .i64 n) 25 3 3
  have x2 := box3_2 w (.pointer (some ⟨b, 0, none⟩)) (.int .i64 v) (.int .i64 n) 25 3 3
  have x3 := box3_3 w (.pointer (some ⟨b, 0, none⟩)) (.int .i64 v) (.int .i64 n) 25 3 3
  refine (firstError4 ⟨1, 34, #[.pointer (some ⟨b, 0, none⟩)], #[], false⟩ ⟨2, 79, #[], #[.pointer (some ⟨w.heap.size + 1 + 1, 0, none⟩), .pointer (some ⟨w.heap.size + 1, 0, none⟩)], !(withinB n 1 4 && fitsB v (8 * n))⟩
    ⟨8, 80, #[], #[.pointer (some ⟨w.heap.size, 0, none⟩)], !((l.length : Int) % 8 == 0)⟩
    ⟨7, 81, #[], #[.pointer (some ⟨w.heap.size + 1 + 1, 0, none⟩), .pointer (some ⟨w.heap.size, 0, none⟩)], decide (8388608 - (l.length : Int) < 8 * n)⟩ _ _ hs
    (good34 hb.lt hb.c0) (fun _ => good79 x3.lt x2.lt x3.cell x2.cell) (fun _ _ => good80 x1.lt hb.lt x1.cell hb.c2) (fun _ hw _ => ?_)).mono ?_
  · have hw' : 1 ≤ n ∧ n ≤ 4 := by
      simp only [withinB, Bool.not_eq_false', Bool.and_eq_true, decide_eq_true_eq] at hw
      exact hw.1
    exact good81 x3.lt x1.lt hb.lt x3.cell x1.cell (by omega) (by omega) hw'.1 hw'.2 hb.c2
  · rintro e w' ⟨rfl, hbw⟩
    refine ⟨ret_int ?_, by rw [← hs]; exact hbw⟩
    unfold littleCode
    cases withinB n 1 4 && fitsB v (8 * n) <;> cases ((l.length : Int) % 8 == 0) <;> simp [firstCode]

set_option maxRecDepth 100000 in
set_option maxHeartbeats 800000 in
theorem little_err (b : Nat) (vv : Value) (l : List Bool) (v n : Int) (w : World) (h : WAt w b vv l) (hl : l.length ≤ 8388608) (hc : littleCode l.length v n ≠ 0) :
    Calls Try.prog 32 #[.pointer (some ⟨b, 0, none⟩), .int .i64 v, .int .i64 n] w (Wrote b vv l (littleCode l.length v n) w) := by
  have HF := Lib.hid (little_first b vv l v n w h hl)
  obtain ⟨c, hcc⟩ : ∃ c, littleCode l.length v n = c := ⟨_, rfl⟩
  rw [hcc] at HF hc ⊢
  have H := Lib.hid h
  have e1 : (c == 0) = false := by simpa using hc
  have e2 : (c != 0) = true := by simpa using hc
  have hbx := box3_below w (.pointer (some ⟨b, 0, none⟩)) (.int .i64 v) (.int .i64 n) 25 3 3
  clear h hcc hc
  go_enter Try.func32, Try.ntmps32
  go_wp2_with fail
  refine HF.out.mono ?_
  rintro e w1 ⟨rfl, hb⟩
  go_wp2
  go_ret
  exact Wrote.same H.out (hbx.trans (hb.mono (by omega)))

/-- The lowest bytes of a number, the least significant one first. -/
def leBytes (v k : Nat) : List Nat := (List.range k).map fun i => v / 2 ^ (8 * i) % 256
theorem leBytes_length (v k : Nat) : (leBytes v k).length = k := by simp [leBytes]
theorem leBytes_succ (v k : Nat) : leBytes v (k + 1) = leBytes v k ++ [v / 2 ^ (8 * k) % 256] := by simp [leBytes, List.range_succ]
theorem leBytes_lt (v k : Nat) : ∀ c ∈ leBytes v k, c < 256 := by
  intro c hc
  simp only [leBytes, List.mem_map] at hc
  obtain ⟨i, _, rfl⟩ := hc
  omega

theorem le_snoc (l : List Bool) (v k : Nat) : l ++ unpack (leBytes v k) ++ unpack [v / 2 ^ (8 * k) % 256] = l ++ unpack (leBytes v (k + 1)) := by
  rw [leBytes_succ, unpack_append, List.append_assoc]

/-- One byte that the caller has just laid. -/
theorem extend_one (b : Nat) (v : Value) (l : List Bool) (w : World) (h : WAt w b v l) (ha : l.length % 8 = 0) (X : Int) (c : Nat) (hX : X = (c : Nat)) (hc : c < 256) (hl : l.length + 8 ≤ 8388608) :
    Calls Try.prog 82 #[.pointer (some ⟨b, 0, none⟩), .slice (some ⟨w.heap.size, 0, none⟩) 1 1] (w.alloc (.cells #[.int .u8 X] 5)).drew (fun e w' => e = .returned (.tuple #[]) ∧ ∃ v', WAt w' b v' (l ++ unpack [c]) ∧ WStep b v v' w w') := by
  subst hX
  have h1 : WAt (w.alloc (.cells #[.int .u8 (c : Nat)] 5)).drew b v l := ⟨(h.obj.alloc _).drew, (h.row.alloc _).drew⟩
  refine (extend_some b v l _ h1 ha ⟨w.heap.size, 0, none⟩ 1 [c] (by simpa using hc) ?_ (by simpa using hl)).mono ?_
  · exact cell_one_new w (.int .u8 (c : Nat)) 5
  · rintro e w' ⟨rfl, v', hw, hs⟩
    have h0 : WStep b v v w (w.alloc (.cells #[.int .u8 (c : Nat)] 5)).drew := .below (((Below.refl _ w).alloc (Nat.le_refl _) _).drew)
    exact ⟨rfl, v', hw, h0.trans hs⟩

set_option maxRecDepth 100000 in
set_option maxHeartbeats 1600000 in
theorem little_ok (b : Nat) (vv : Value) (l : List Bool) (v n : Nat) (w : World) (h : WAt w b vv l) (hl : l.length ≤ 8388608) (hc : littleCode l.length v n = 0) (hn1 : 1 ≤ n) (hn2 : n ≤ 4) (hv : v < 4294967296) (ha : l.length % 8 = 0) (hroom : l.length + 8 * n ≤ 8388608) :
    Calls Try.prog 32 #[.pointer (some ⟨b, 0, none⟩), .int .i64 v, .int .i64 n] w (Wrote b vv (l ++ unpack (leBytes v n)) 0 w) := by
  have hF := little_first b vv l v n w h hl
  rw [hc] at hF
  have HF := Lib.hid hF
  have H := Lib.hid h
  have HA := Lib.hid ha
  have hblt := h.obj.lt
  have hbx := box3_below w (.pointer (some ⟨b, 0, none⟩)) (.int .i64 v) (.int .i64 n) 25 3 3
  have HS := Lib.hid (box3_size w (.pointer (some ⟨b, 0, none⟩)) (.int .i64 v) (.int .i64 n) 25 3 3)
  have HB1 := Lib.hid (box3_1 w (.pointer (some ⟨b, 0, none⟩)) (.int .i64 v) (.int .i64 n) 25 3 3)
  have HB2 := Lib.hid (box3_2 w (.pointer (some ⟨b, 0, none⟩)) (.int .i64 v) (.int .i64 n) 25 3 3)
  have HB3 := Lib.hid (box3_3 w (.pointer (some ⟨b, 0, none⟩)) (.int .i64 v) (.int .i64 n) 25 3 3)
  have HBX := Lib.hid hbx
  clear h hc hF hbx ha
  go_enter Try.func32, Try.ntmps32
  go_wp2_with fail
  refine HF.out.mono ?_
  rintro e w1 ⟨rfl, hb⟩
  have g1 := boxed_below HB1.out hb (by omega)
  have g2 := boxed_below HB2.out hb (by omega)
  have g3 := boxed_below HB3.out hb (by omega)
  have c3 := g3.cell
  have hbw : Below w.heap.size w w1 := HBX.out.trans (hb.mono (by omega))
  have HW1 := Lib.hid (H.out.below hbw)
  have HBW := Lib.hid hbw
  have G1 := Lib.hid g1
  have G2 := Lib.hid g2
  have HSZ := Lib.hid (hb.size)
  clear hb hbw g1 g2 g3
  go_wp2_with fail
  clear c3
  go_loopw [24] (fun i wr => ∃ k : Nat, k ≤ n ∧ i = .int .i64 k ∧ (∃ v', WAt wr b v' (l ++ unpack (leBytes v k)) ∧ WStep b vv v' w wr) ∧ Boxed wr w.heap.size 25 (.pointer (some ⟨b, 0, none⟩)) ∧ Boxed wr (w.heap.size + 1) 3 (.int .i64 v)) (fun i _ => n - (intOf i).toNat)
  case atStart =>
    refine ⟨0, Nat.zero_le _, rfl, ⟨vv, ?_, .below HBW.out⟩, G1.out, G2.out⟩
    simp only [leBytes, List.range_zero, List.map_nil, unpack, List.flatMap_nil, List.append_nil]
    exact HW1.out
  case round =>
    obtain ⟨k, hk, rfl, ⟨v', hW, hst⟩, hbx, hbv⟩ := hrel
    have cw := hbx.cell
    have cv := hbv.cell
    by_cases hlt : k < n
    · have HW := Lib.hid hW
      have HST := Lib.hid hst
      clear hW hst
      have hvn : ((v : Int) / 2 ^ (8 * k)) < 4294967296 := by
        have : ((v : Int) / 2 ^ (8 * k)) = ((v / 2 ^ (8 * k) : Nat) : Int) := by simp
        rw [this]
        have := Nat.div_le_self v (2 ^ (8 * k))
        omega
      have hvn0 : 0 ≤ ((v : Int) / 2 ^ (8 * k)) := by
        have : ((v : Int) / 2 ^ (8 * k)) = ((v / 2 ^ (8 * k) : Nat) : Int) := by simp
        rw [this]; exact Int.natCast_nonneg _
      have q1 : IntKind.i64.wrap (8 * (k : Int)) = 8 * (k : Int) := IntWalk.i64_in _ (by omega)
      have q2 : (8 * (k : Int)).toNat = 8 * k := by omega
      have q3 : (0 : Int) ≤ 8 * (k : Int) := by omega
      go_wp2_with fail
      have hx : IntKind.u8.wrap ((v : Int) / 2 ^ (8 * k)) = ((v / 2 ^ (8 * k) % 256 : Nat) : Int) := by
        rw [IntKind.wrap_u8']; simp
      have HX := Lib.hid hx
      clear hx
      have hlen : (l ++ unpack (leBytes v k)).length = l.length + 8 * k := by rw [List.length_append, unpack_length, leBytes_length]
      have HLEN := Lib.hid hlen
      clear hlen
      have hE := fun X hX => (extend_one b v' (l ++ unpack (leBytes v k)) wr HW.out (by rw [HLEN.out]; have := HA.out; omega) X (v / 2 ^ (8 * k) % 256) hX (by omega) (by rw [HLEN.out]; omega)).mono
        (R' := fun e w' => e = .returned (.tuple #[]) ∧ w'.cell? ⟨w.heap.size, 0, none⟩ = some (.pointer (some ⟨b, 0, none⟩)) ∧ w'.cell? ⟨w.heap.size + 1, 0, none⟩ = some (.int .i64 v) ∧
          Hid ((∃ v2, WAt w' b v2 (l ++ unpack (leBytes v (k + 1))) ∧ WStep b vv v2 w w') ∧ Boxed w' w.heap.size 25 (.pointer (some ⟨b, 0, none⟩)) ∧ Boxed w' (w.heap.size + 1) 3 (.int .i64 v)))
        (fun e w' ⟨he, v2, h1, h2⟩ => by
          have b1 := boxed_rest hbx h2.rest (HW.out.notBox hbx (by omega) (by decide))
          have b2 := boxed_rest hbv h2.rest (HW.out.notBox hbv (by omega) (by decide))
          exact ⟨he, b1.cell, b2.cell, ⟨v2, by rw [← le_snoc]; exact h1, HST.out.trans h2⟩, b1, b2⟩)
      have HE := Lib.hid hE
      clear hE
      go_region_held3 (fun w' => w'.cell? ⟨w.heap.size, 0, none⟩ = some (.pointer (some ⟨b, 0, none⟩)) ∧ w'.cell? ⟨w.heap.size + 1, 0, none⟩ = some (.int .i64 v)) (first | go_keep | exact ⟨cw2, cv2⟩) (first | (go_at_call 82; refine (HE.out _ HX.out).mono ?_; rintro e w2 ⟨rfl, cw2, cv2, HW2⟩))
      go_wp2
      go_roundw
      case rel => exact ⟨k + 1, by omega, by go_num, HW2.out⟩
      case measure => simp [intOf]; omega
    · obtain rfl : k = n := by omega
      have HW := Lib.hid hW
      have HST := Lib.hid hst
      clear hW hst
      go_wp2
      go_ret
      exact ⟨rfl, v', HW.out, HST.out⟩
end Go.Proofs.Ytboiiohpkoodpaa
