/- Bytes puts bytes behind a writer's bit string, or returns the error that the chapter asks. Conditions: the writer lies in memory and has at most 8388608 bits; at most 2^40 bytes. -/
import Derived.Test.YtboiiohpkoodpaaN
namespace Go.Proofs.Ytboiiohpkoodpaa
open Go.RowKit Go.Shelf

set_option maxHeartbeats 400000 in
theorem bytes1_any (B1 b : Nat) (n : Nat) (w : World) (hw : w.cell? ⟨B1, 0, none⟩ = some (.pointer (some ⟨b, 0, none⟩))) (hc : w.cell? ⟨b, 2, none⟩ = some (.int .i64 n)) :
    Calls Try.prog 85 #[.pointer (some ⟨B1, 0, none⟩)] w fun e w' => e = .returned (.bool (!((n : Int) % 8 == 0))) ∧ w = w' := by
  go_enter Try.func85, Try.ntmps85
  go_wp2_with (go_at_call 68; go_must (refine (aligned_any b n _ (by omega) hc).mono ?_); rintro e w1 ⟨rfl, rfl⟩)
  go_ret
  exact ⟨rfl, rfl⟩

set_option maxHeartbeats 400000 in
theorem bytes2_any (B1 B2 b : Nat) (A : Option Addr) (m c : Nat) (k : Int) (w : World) (hn : w.cell? ⟨B1, 0, none⟩ = some (.slice A m c)) (hw : w.cell? ⟨B2, 0, none⟩ = some (.pointer (some ⟨b, 0, none⟩))) (h0 : 0 ≤ k) (h1 : k ≤ 8388608) (hm : m ≤ 1099511627776) (hc : w.cell? ⟨b, 2, none⟩ = some (.int .i64 k)) :
    Calls Try.prog 86 #[.pointer (some ⟨B1, 0, none⟩), .pointer (some ⟨B2, 0, none⟩)] w fun e w' => e = .returned (.bool (decide (8388608 - k < 8 * (m : Int)))) ∧ Below w.heap.size w w' := by
  have q1 : IntKind.i64.wrap (8 * (m : Int)) = 8 * (m : Int) := IntWalk.i64_in _ (by omega)
  go_enter Try.func86, Try.ntmps86
  go_wp2
  go_quiet ((go_at_call 48; exact quiet_same (room_any b k _ h0 h1 hc)))
  go_wp2
  go_ret
  exact ⟨rfl, below_drewN (Below.refl _ _) nq⟩

theorem good85 {W : World} {B1 b n : Nat} (l1 : B1 < W.heap.size) (lb : b < W.heap.size) (hw : W.cell? ⟨B1, 0, none⟩ = some (.pointer (some ⟨b, 0, none⟩))) (hc : W.cell? ⟨b, 2, none⟩ = some (.int .i64 n)) :
    CndGood W ⟨8, 85, #[], #[.pointer (some ⟨B1, 0, none⟩)], !((n : Int) % 8 == 0)⟩ :=
  .of_same (by simp) Try.ent85 fun W' hW' => bytes1_any B1 b n W' ((hW'.cell (p := ⟨B1, 0, none⟩) l1).trans hw) ((hW'.cell (p := ⟨b, 2, none⟩) lb).trans hc)
theorem good86 {W : World} {B1 B2 b : Nat} {A : Option Addr} {m c : Nat} {k : Int} (l1 : B1 < W.heap.size) (l2 : B2 < W.heap.size) (lb : b < W.heap.size) (hn : W.cell? ⟨B1, 0, none⟩ = some (.slice A m c)) (hw : W.cell? ⟨B2, 0, none⟩ = some (.pointer (some ⟨b, 0, none⟩))) (h0 : 0 ≤ k) (h1 : k ≤ 8388608) (hm : m ≤ 1099511627776) (hc : W.cell? ⟨b, 2, none⟩ = some (.int .i64 k)) :
    CndGood W ⟨7, 86, #[], #[.pointer (some ⟨B1, 0, none⟩), .pointer (some ⟨B2, 0, none⟩)], decide (8388608 - k < 8 * (m : Int))⟩ :=
  .of (by simp) Try.ent86 fun W' hW' => bytes2_any B1 B2 b A m c k W' ((hW'.cell (p := ⟨B1, 0, none⟩) l1).trans hn) ((hW'.cell (p := ⟨B2, 0, none⟩) l2).trans hw) h0 h1 hm ((hW'.cell (p := ⟨b, 2, none⟩) lb).trans hc)

/-- The code of Bytes. -/
def bytesCode (len m : Nat) : Int := if (len : Int) % 8 == 0 then (if 8388608 - (len : Int) < 8 * (m : Int) then 7 else 0) else 8

theorem bytes_first (b : Nat) (vv : Value) (l : List Bool) (A : Option Addr) (m c : Nat) (w : World) (h : WAt w b vv l) (hl : l.length ≤ 8388608) (hm : m ≤ 1099511627776) :
    Calls Try.prog 43 #[.slice (some ⟨w.heap.size + 1 + 1, 0, none⟩) 3 3]
      ((box2 w (.pointer (some ⟨b, 0, none⟩)) (.slice A m c) 25 28).alloc (.cells #[.int .i64 1, .func (.func 34) #[.pointer (some ⟨b, 0, none⟩)] #[],
        .int .i64 8, .func (.func 85) #[] #[.pointer (some ⟨w.heap.size, 0, none⟩)],
        .int .i64 7, .func (.func 86) #[] #[.pointer (some ⟨w.heap.size + 1, 0, none⟩), .pointer (some ⟨w.heap.size, 0, none⟩)]] 77))
      fun e w' => e = .returned (.int .i64 (bytesCode l.length m)) ∧ Below (w.heap.size + 1 + 1) (box2 w (.pointer (some ⟨b, 0, none⟩)) (.slice A m c) 25 28) w' := by
  have hlt := h.obj.lt
  have hb := h.obj.below (box2_below w (.pointer (some ⟨b, 0, none⟩)) (.slice A m c) 25 28) hlt
  have hs := box2_size w (.pointer (some ⟨b, 0, none⟩)) (.slice A m c) 25 28
  have x1 := box2_1 w (.pointer (some ⟨b, 0, none⟩)) (.slice A m c) 25 28
  have x2 := box2_2 w (.pointer (some ⟨b, 0, none⟩)) (.slice A m c) 25 28
  refine (firstError3 ⟨1, 34, #[.pointer (some ⟨b, 0, none⟩)], #[], false⟩ ⟨8, 85, #[], #[.pointer (some ⟨w.heap.size, 0, none⟩)], !((l.length : Int) % 8 == 0)⟩
    ⟨7, 86, #[], #[.pointer (some ⟨w.heap.size + 1, 0, none⟩), .pointer (some ⟨w.heap.size, 0, none⟩)], decide (8388608 - (l.length : Int) < 8 * (m : Int))⟩ _ _ hs
    (good34 hb.lt hb.c0) (fun _ => good85 x1.lt hb.lt x1.cell hb.c2) (fun _ _ => good86 x2.lt x1.lt hb.lt x2.cell x1.cell (by omega) (by omega) hm hb.c2)).mono ?_
  rintro e w' ⟨rfl, hbw⟩
  refine ⟨ret_int ?_, by rw [← hs]; exact hbw⟩
  unfold bytesCode
  cases ((l.length : Int) % 8 == 0) <;> simp [firstCode]

set_option maxRecDepth 100000 in
set_option maxHeartbeats 800000 in
theorem bytes_err (b : Nat) (vv : Value) (l : List Bool) (A : Option Addr) (m cc : Nat) (w : World) (h : WAt w b vv l) (hl : l.length ≤ 8388608) (hm : m ≤ 1099511627776) (hc : bytesCode l.length m ≠ 0) :
    Calls Try.prog 36 #[.pointer (some ⟨b, 0, none⟩), .slice A m cc] w (Wrote b vv l (bytesCode l.length m) w) := by
  have HF := Lib.hid (bytes_first b vv l A m cc w h hl hm)
  obtain ⟨c, hcc⟩ : ∃ c, bytesCode l.length m = c := ⟨_, rfl⟩
  rw [hcc] at HF hc ⊢
  have H := Lib.hid h
  have e1 : (c == 0) = false := by simpa using hc
  have e2 : (c != 0) = true := by simpa using hc
  have hbx := box2_below w (.pointer (some ⟨b, 0, none⟩)) (.slice A m cc) 25 28
  clear h hcc hc
  go_enter Try.func36, Try.ntmps36
  go_wp2_with fail
  refine HF.out.mono ?_
  rintro e w1 ⟨rfl, hb⟩
  go_wp2
  go_ret
  exact Wrote.same H.out (hbx.trans (hb.mono (by omega)))

set_option maxRecDepth 100000 in
set_option maxHeartbeats 800000 in
theorem bytes_ok (b : Nat) (vv : Value) (l : List Bool) (s : Value) (B : List Nat) (w : World) (h : WAt w b vv l) (hs : SrcAt w s B) (hl : l.length ≤ 8388608) (hB : ∀ x ∈ B, x < 256) (ha : l.length % 8 = 0) (hroom : l.length + 8 * B.length ≤ 8388608) :
    Calls Try.prog 36 #[.pointer (some ⟨b, 0, none⟩), s] w (Wrote b vv (l ++ unpack B) 0 w) := by
  have hc : bytesCode l.length B.length = 0 := by
    unfold bytesCode
    rw [if_pos (by simp; omega), if_neg (by omega)]
  have hf := bytes_first b vv l
  obtain ⟨A, m, c, rfl, hm⟩ : ∃ A m c, s = .slice A m c ∧ m = B.length := by
    rcases hs with ⟨rfl, rfl⟩ | ⟨a, c, rfl, _, _⟩
    · exact ⟨_, _, _, rfl, rfl⟩
    · exact ⟨_, _, _, rfl, rfl⟩
  subst hm
  have hF := bytes_first b vv l A B.length c w h hl (by omega)
  rw [hc] at hF
  have HF := Lib.hid hF
  have hbx := box2_below w (.pointer (some ⟨b, 0, none⟩)) (.slice A B.length c) 25 28
  have HB1 := Lib.hid (box2_1 w (.pointer (some ⟨b, 0, none⟩)) (.slice A B.length c) 25 28)
  have HB2 := Lib.hid (box2_2 w (.pointer (some ⟨b, 0, none⟩)) (.slice A B.length c) 25 28)
  have HBX := Lib.hid hbx
  have H := Lib.hid h
  have HSR := Lib.hid hs
  have HA := Lib.hid ha
  have HBB := Lib.hid hB
  clear hf hF h hs hc ha hB hbx
  go_enter Try.func36, Try.ntmps36
  go_wp2_with fail
  refine HF.out.mono ?_
  rintro e w1 ⟨rfl, hb⟩
  have c1 := (boxed_below HB1.out hb (by omega)).cell
  have c2 := (boxed_below HB2.out hb (by omega)).cell
  have hbw : Below w.heap.size w w1 := HBX.out.trans (hb.mono (by omega))
  have HBW := Lib.hid hbw
  have hext : Calls Try.prog 82 #[.pointer (some ⟨b, 0, none⟩), .slice A B.length c] w1 (Added b vv (l ++ unpack B) w1) := by
    have hW1 := H.out.below hbw
    have hS1 := HSR.out.below hbw HSR.out.lt
    rcases hS1 with ⟨e, hnil⟩ | ⟨a, c', e, _, hcell⟩
    · rw [e, hnil]
      have := extend_nil b vv l w1 hW1 hl
      simpa [unpack] using this
    · rw [e]
      exact extend_some b vv l w1 hW1 HA.out a c' B HBB.out hcell hroom
  have HE := Lib.hid hext
  clear hb hbw hext
  go_wp2_with fail
  refine HE.out.mono ?_
  rintro e w2 ⟨rfl, v2, hW2, hst2⟩
  have HW2 := Lib.hid hW2
  have HST := Lib.hid hst2
  clear hW2 hst2
  go_wp2
  go_ret
  exact ⟨rfl, v2, HW2.out, (WStep.below HBW.out).trans HST.out⟩
end Go.Proofs.Ytboiiohpkoodpaa
