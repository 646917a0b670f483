/- Align puts bits 0 behind a writer's bit string up to a border, or returns the error that the chapter asks. Conditions: the writer lies in memory and has at most 8388608 bits. -/
import Derived.Test.YtboiiohpkoodpaaI
namespace Go.Proofs.Ytboiiohpkoodpaa
open Go.RowKit Go.Shelf

/-- The next border. -/
def bord (k n : Nat) : Nat := (k + n - 1) / n * n
theorem bord_ge (k n : Nat) (h : 1 ≤ n) : k ≤ bord k n := by
  unfold bord
  have h1 := Nat.div_add_mod (k + n - 1) n
  have h2 := Nat.mod_lt (k + n - 1) (show 0 < n by omega)
  rw [Nat.mul_comm] at h1
  omega
theorem bord_lt (k n : Nat) (h : 1 ≤ n) : bord k n < k + n := by
  unfold bord
  have h1 := Nat.div_mul_le_self (k + n - 1) n
  omega
theorem bord_int (k n : Nat) (h : 1 ≤ n) : (((k : Int) + n - 1) / n * n) = (bord k n : Nat) := by
  unfold bord
  have : ((k : Int) + n - 1) = ((k + n - 1 : Nat) : Int) := by omega
  rw [this]
  simp

theorem border_nat (b k n : Nat) (w : World) (h1 : k ≤ 8388608) (hn1 : 1 ≤ n) (hn2 : n ≤ 4096) (hc : w.cell? ⟨b, 2, none⟩ = some (.int .i64 k)) :
    Calls Try.prog 76 #[.pointer (some ⟨b, 0, none⟩), .int .i64 n] w fun e w' => e = .returned (.int .i64 (bord k n : Nat)) ∧ w = w' := by
  rw [← bord_int k n hn1]
  exact border_any b k n w (by omega) (by omega) (by omega) (by omega) hc

set_option maxHeartbeats 400000 in
theorem align1_any (B1 : Nat) (n : Int) (w : World) (hn : w.cell? ⟨B1, 0, none⟩ = some (.int .i64 n)) :
    Calls Try.prog 83 #[.pointer (some ⟨B1, 0, none⟩)] w fun e w' => e = .returned (.bool (!(withinB n 1 4096))) ∧ w = w' := by
  go_enter Try.func83, Try.ntmps83
  go_wp2_with (go_at_call 45; go_must (refine (within_ok n 1 4096 _).mono ?_); rintro e w1 ⟨rfl, rfl⟩)
  go_ret
  exact ⟨rfl, rfl⟩

set_option maxHeartbeats 400000 in
theorem align2_any (B1 B2 b : Nat) (n k : Nat) (w : World) (hw : w.cell? ⟨B1, 0, none⟩ = some (.pointer (some ⟨b, 0, none⟩))) (hn : w.cell? ⟨B2, 0, none⟩ = some (.int .i64 n)) (h1 : k ≤ 8388608) (hn1 : 1 ≤ n) (hn2 : n ≤ 4096) (hc : w.cell? ⟨b, 2, none⟩ = some (.int .i64 k)) :
    Calls Try.prog 84 #[.pointer (some ⟨B1, 0, none⟩), .pointer (some ⟨B2, 0, none⟩)] w fun e w' => e = .returned (.bool (decide (8388608 < ((k : Int) + n - 1) / n * n))) ∧ Below w.heap.size w w' := by
  go_enter Try.func84, Try.ntmps84
  go_wp2
  go_quiet ((go_at_call 76; exact quiet_same (border_any b k n _ (by omega) (by omega) (by omega) (by omega) hc)))
  go_wp2
  go_ret
  exact ⟨rfl, below_drewN (Below.refl _ _) nq⟩

theorem good83 {W : World} {B1 : Nat} {n : Int} (l1 : B1 < W.heap.size) (hn : W.cell? ⟨B1, 0, none⟩ = some (.int .i64 n)) :
    CndGood W ⟨2, 83, #[], #[.pointer (some ⟨B1, 0, none⟩)], !(withinB n 1 4096)⟩ :=
  .of_same (by simp) Try.ent83 fun W' hW' => align1_any B1 n W' ((hW'.cell (p := ⟨B1, 0, none⟩) l1).trans hn)
theorem good84 {W : World} {B1 B2 b n k : Nat} (l1 : B1 < W.heap.size) (l2 : B2 < W.heap.size) (lb : b < W.heap.size) (hw : W.cell? ⟨B1, 0, none⟩ = some (.pointer (some ⟨b, 0, none⟩))) (hn : W.cell? ⟨B2, 0, none⟩ = some (.int .i64 n)) (h1 : k ≤ 8388608) (hn1 : 1 ≤ n) (hn2 : n ≤ 4096) (hc : W.cell? ⟨b, 2, none⟩ = some (.int .i64 k)) :
    CndGood W ⟨7, 84, #[], #[.pointer (some ⟨B1, 0, none⟩), .pointer (some ⟨B2, 0, none⟩)], decide (8388608 < ((k : Int) + n - 1) / n * n)⟩ :=
  .of (by simp) Try.ent84 fun W' hW' => align2_any B1 B2 b n k W' ((hW'.cell (p := ⟨B1, 0, none⟩) l1).trans hw) ((hW'.cell (p := ⟨B2, 0, none⟩) l2).trans hn) h1 hn1 hn2 ((hW'.cell (p := ⟨b, 2, none⟩) lb).trans hc)

/-- The code of Align. -/
def alignCode (len : Nat) (n : Int) : Int := if withinB n 1 4096 then (if 8388608 < ((len : Int) + n - 1) / n * n then 7 else 0) else 2

/-- Two boxes more. -/
def box2 (w : World) (x1 x2 : Value) (t1 t2 : TypeId) : World := (w.alloc (.cells #[x1] t1)).alloc (.cells #[x2] t2)
theorem box2_size (w : World) (x1 x2 : Value) (t1 t2 : TypeId) : (box2 w x1 x2 t1 t2).heap.size = w.heap.size + 1 + 1 := by simp [box2]
theorem box2_below (w : World) (x1 x2 : Value) (t1 t2 : TypeId) : Below w.heap.size w (box2 w x1 x2 t1 t2) :=
  ((Below.refl _ w).alloc (Nat.le_refl _) _).alloc (by simp) _
theorem box2_1 (w : World) (x1 x2 : Value) (t1 t2 : TypeId) : Boxed (box2 w x1 x2 t1 t2) w.heap.size t1 x1 := (Boxed.new w t1 x1).alloc _
theorem box2_2 (w : World) (x1 x2 : Value) (t1 t2 : TypeId) : Boxed (box2 w x1 x2 t1 t2) (w.heap.size + 1) t2 x2 := by
  have := Boxed.new (w.alloc (.cells #[x1] t1)) t2 x2
  rw [World.size_alloc] at this
  exact this

theorem align_first (b : Nat) (vv : Value) (l : List Bool) (n : Int) (w : World) (h : WAt w b vv l) (hl : l.length ≤ 8388608) :
    Calls Try.prog 43 #[.slice (some ⟨w.heap.size + 1 + 1, 0, none⟩) 3 3]
      ((box2 w (.pointer (some ⟨b, 0, none⟩)) (.int .i64 n) 25 3).alloc (.cells #[.int .i64 1, .func (.func 34) #[.pointer (some ⟨b, 0, none⟩)] #[],
        .int .i64 2, .func (.func 83) #[] #[.pointer (some ⟨w.heap.size + 1, 0, none⟩)],
        .int .i64 7, .func (.func 84) #[] #[.pointer (some ⟨w.heap.size, 0, none⟩), .pointer (some ⟨w.heap.size + 1, 0, none⟩)]] 77))
      fun e w' => e = .returned (.int .i64 (alignCode l.length n)) ∧ Below (w.heap.size + 1 + 1) (box2 w (.pointer (some ⟨b, 0, none⟩)) (.int .i64 n) 25 3) w' := by
  have hlt := h.obj.lt
  have hb := h.obj.below (box2_below w (.pointer (some ⟨b, 0, none⟩)) (.int .i64 n) 25 3) hlt
  have hs := box2_size w (.pointer (some ⟨b, 0, none⟩)) (.int .i64 n) 25 3
  have x1 := box2_1 w (.pointer (some ⟨b, 0, none⟩)) (.int .i64 n) 25 3
  have x2 := box2_2 w (.pointer (some ⟨b, 0, none⟩)) (.int .i64 n) 25 3
  refine (firstError3 ⟨1, 34, #[.pointer (some ⟨b, 0, none⟩)], #[], false⟩ ⟨2, 83, #[], #[.pointer (some ⟨w.heap.size + 1, 0, none⟩)], !(withinB n 1 4096)⟩
    ⟨7, 84, #[], #[.pointer (some ⟨w.heap.size, 0, none⟩), .pointer (some ⟨w.heap.size + 1, 0, none⟩)], decide (8388608 < ((l.length : Int) + n - 1) / n * n)⟩ _ _ hs
    (good34 hb.lt hb.c0) (fun _ => good83 x2.lt x2.cell) (fun _ hw => ?_)).mono ?_
  · simp [withinB] at hw
    obtain ⟨m, rfl⟩ : ∃ m : Nat, n = m := ⟨n.toNat, by omega⟩
    exact good84 x1.lt x2.lt hb.lt x1.cell x2.cell (by omega) (by omega) (by omega) hb.c2
  · rintro e w' ⟨rfl, hbw⟩
    refine ⟨ret_int ?_, by rw [← hs]; exact hbw⟩
    unfold alignCode
    cases withinB n 1 4096 <;> simp [firstCode]

set_option maxRecDepth 100000 in
set_option maxHeartbeats 800000 in
theorem align_err (b : Nat) (vv : Value) (l : List Bool) (n : Int) (w : World) (h : WAt w b vv l) (hl : l.length ≤ 8388608) (hc : alignCode l.length n ≠ 0) :
    Calls Try.prog 33 #[.pointer (some ⟨b, 0, none⟩), .int .i64 n] w (Wrote b vv l (alignCode l.length n) w) := by
  have HF := Lib.hid (align_first b vv l n w h hl)
  obtain ⟨c, hcc⟩ : ∃ c, alignCode l.length n = c := ⟨_, rfl⟩
  rw [hcc] at HF hc ⊢
  have H := Lib.hid h
  have e1 : (c == 0) = false := by simpa using hc
  have e2 : (c != 0) = true := by simpa using hc
  have hbx := box2_below w (.pointer (some ⟨b, 0, none⟩)) (.int .i64 n) 25 3
  clear h hcc hc
  go_enter Try.func33, Try.ntmps33
  go_wp2_with fail
  refine HF.out.mono ?_
  rintro e w1 ⟨rfl, hb⟩
  go_wp2
  go_ret
  exact Wrote.same H.out (hbx.trans (hb.mono (by omega)))

theorem zeros_snoc (l : List Bool) (k : Nat) : l ++ List.replicate k false ++ [false] = l ++ List.replicate (k + 1) false := by
  rw [List.append_assoc, ← List.replicate_succ']

set_option maxRecDepth 100000 in
set_option maxHeartbeats 1600000 in
theorem align_ok (b : Nat) (vv : Value) (l : List Bool) (n : Nat) (w : World) (h : WAt w b vv l) (hl : l.length ≤ 8388608) (hc : alignCode l.length n = 0) (hn1 : 1 ≤ n) (hn2 : n ≤ 4096) (hroom : bord l.length n ≤ 8388608) :
    Calls Try.prog 33 #[.pointer (some ⟨b, 0, none⟩), .int .i64 n] w (Wrote b vv (l ++ List.replicate (bord l.length n - l.length) false) 0 w) := by
  have hge := bord_ge l.length n hn1
  have hF := align_first b vv l n w h hl
  rw [hc] at hF
  have HF := Lib.hid hF
  have H := Lib.hid h
  have hblt := h.obj.lt
  have hbx := box2_below w (.pointer (some ⟨b, 0, none⟩)) (.int .i64 n) 25 3
  have HS := Lib.hid (box2_size w (.pointer (some ⟨b, 0, none⟩)) (.int .i64 n) 25 3)
  have HB1 := Lib.hid (box2_1 w (.pointer (some ⟨b, 0, none⟩)) (.int .i64 n) 25 3)
  have HB2 := Lib.hid (box2_2 w (.pointer (some ⟨b, 0, none⟩)) (.int .i64 n) 25 3)
  have HBX := Lib.hid hbx
  clear h hc hF hbx
  go_enter Try.func33, Try.ntmps33
  go_wp2_with fail
  refine HF.out.mono ?_
  rintro e w1 ⟨rfl, hb⟩
  have g1 := boxed_below HB1.out hb (by omega)
  have c1 := g1.cell
  have c2 := (boxed_below HB2.out hb (by omega)).cell
  have hbw : Below w.heap.size w w1 := HBX.out.trans (hb.mono (by omega))
  have hW1 := H.out.below hbw
  have k2 := hW1.obj.c2
  have HW1 := Lib.hid hW1
  have HBW := Lib.hid hbw
  have G1 := Lib.hid g1
  have HSZ := Lib.hid (hb.size)
  clear hb hW1 hbw g1
  go_wp2
  go_quiet ((go_at_call 76; exact quiet_same (border_nat b l.length n _ hl hn1 hn2 k2)))
  go_wp2_with fail
  go_loopw [29] (fun i wr => ∃ k : Nat, k ≤ bord l.length n - l.length ∧ i = .int .i64 k ∧ (∃ v', WAt wr b v' (l ++ List.replicate k false) ∧ WStep b vv v' w wr) ∧ Boxed wr w.heap.size 25 (.pointer (some ⟨b, 0, none⟩))) (fun i _ => bord l.length n - l.length - (intOf i).toNat)
  case atStart =>
    refine ⟨0, Nat.zero_le _, rfl, ⟨vv, ?_, ?_⟩, G1.out⟩
    · rw [List.replicate_zero, List.append_nil]; exact ⟨HW1.out.obj, HW1.out.row⟩
    · exact .below (below_drewN HBW.out nq)
  case round =>
    obtain ⟨k, hk, rfl, ⟨v', hW, hst⟩, hbx⟩ := hrel
    have cw := hbx.cell
    by_cases hlt : k < bord l.length n - l.length
    · have hadd := add_any b v' (l ++ List.replicate k false) false wr hW (by rw [List.length_append, List.length_replicate]; omega)
      rw [zeros_snoc] at hadd
      have HA := Lib.hid hadd
      clear hadd
      go_wp2_with fail
      refine HA.out.mono ?_
      rintro e w2 ⟨rfl, v2, hW2, hst2⟩
      have HW2 := Lib.hid hW2
      have HST := Lib.hid hst2
      clear hW2 hst2
      go_wp2
      go_roundw
      case rel => exact ⟨k + 1, by omega, by go_num, ⟨v2, HW2.out, hst.trans HST.out⟩, boxed_rest hbx HST.out.rest (hW.notBox hbx (by omega) (by decide))⟩
      case measure => simp [intOf]; omega
    · obtain rfl : k = bord l.length n - l.length := by omega
      have HW2 := Lib.hid hW
      have HST := Lib.hid hst
      clear hW hst
      go_wp2
      go_ret
      exact ⟨rfl, v', HW2.out, HST.out⟩
end Go.Proofs.Ytboiiohpkoodpaa
