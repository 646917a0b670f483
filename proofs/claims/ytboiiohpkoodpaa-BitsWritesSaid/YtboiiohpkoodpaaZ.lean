/- Get, Skip and Pad of a reader, where no condition applies. Conditions: the reader lies in memory and has at most 1048576 bytes. -/
import Derived.Test.YtboiiohpkoodpaaY
namespace Go.Proofs.Ytboiiohpkoodpaa
open Go.RowKit Go.Shelf

set_option maxRecDepth 100000 in
set_option maxHeartbeats 800000 in
theorem skip_ok (b : Nat) (v : Value) (B : List Nat) (p n : Nat) (w : World) (h : RAt w b v B p) (hBl : B.length ≤ 1048576) (hp : p + n ≤ 8 * B.length) :
    Calls Try.prog 26 #[.pointer (some ⟨b, 0, none⟩), .int .i64 n] w fun e w' => e = .returned (.int .i64 0) ∧ RLeft b v B (p + n) w w' := by
  have hc : skipCode B.length p n = 0 := by unfold skipCode; rw [if_neg (by omega), if_neg (by omega)]
  have hf := skip_first b v B p n w h hBl (by omega)
  rw [hc] at hf
  have HF := Lib.hid hf
  have H := Lib.hid h
  have hbx := box2_below w (.pointer (some ⟨b, 0, none⟩)) (.int .i64 n) 40 3
  have HB1 := Lib.hid (box2_1 w (.pointer (some ⟨b, 0, none⟩)) (.int .i64 n) 40 3)
  have HB2 := Lib.hid (box2_2 w (.pointer (some ⟨b, 0, none⟩)) (.int .i64 n) 40 3)
  have HBX := Lib.hid hbx
  clear h hc hf hbx
  go_enter Try.func26, Try.ntmps26
  go_wp2_with fail
  refine HF.out.mono ?_
  rintro e w1 ⟨rfl, hb⟩
  have c1 := (boxed_below HB1.out hb (by omega)).cell
  have c2 := (boxed_below HB2.out hb (by omega)).cell
  have hbw : Below w.heap.size w w1 := HBX.out.trans (hb.mono (by omega))
  have k2 := (H.out.below hbw).obj.c2
  have kf := (H.out.below hbw).obj.fr 2
  have HBW := Lib.hid hbw
  clear hb hbw
  go_wp2
  go_region
  all_goals
    go_wp2
    go_ret
    exact ⟨rfl, (RLeft.moved H.out HBW.out (p + n)).drew⟩

set_option maxRecDepth 100000 in
set_option maxHeartbeats 800000 in
theorem get_ok (b : Nat) (v : Value) (B : List Nat) (p n : Nat) (w : World) (h : RAt w b v B p) (hB : ∀ c ∈ B, c < 256) (hBl : B.length ≤ 1048576) (hn1 : 1 ≤ n) (hn2 : n ≤ 32) (hp : p + n ≤ 8 * B.length) :
    Calls Try.prog 28 #[.pointer (some ⟨b, 0, none⟩), .int .i64 n] w fun e w' => e = .returned (.tuple #[.int .i64 (val (((unpack B).drop p).take n) : Nat), .int .i64 0]) ∧ RLeft b v B (p + n) w w' := by
  have hc : getCode B.length p n = 0 := by
    unfold getCode
    rw [if_pos (by simp [withinB]; omega), if_neg (by omega)]
  have hf := get_first b v B p n w h hBl (by omega)
  rw [hc] at hf
  have HF := Lib.hid hf
  have H := Lib.hid h
  have HB := Lib.hid hB
  have hbx := box2_below w (.pointer (some ⟨b, 0, none⟩)) (.int .i64 n) 40 3
  have HB1 := Lib.hid (box2_1 w (.pointer (some ⟨b, 0, none⟩)) (.int .i64 n) 40 3)
  have HB2 := Lib.hid (box2_2 w (.pointer (some ⟨b, 0, none⟩)) (.int .i64 n) 40 3)
  have HBX := Lib.hid hbx
  have HSZ := Lib.hid (box2_size w (.pointer (some ⟨b, 0, none⟩)) (.int .i64 n) 40 3)
  clear h hc hf hbx hB
  go_enter Try.func28, Try.ntmps28
  go_wp2_with fail
  refine HF.out.mono ?_
  rintro e w1 ⟨rfl, hb⟩
  have g1 := boxed_below HB1.out hb (by omega)
  have g2 := boxed_below HB2.out hb (by omega)
  have c1 := g1.cell
  have c2 := g2.cell
  have hbw : Below w.heap.size w w1 := HBX.out.trans (hb.mono (by omega))
  have HN := Lib.hid (number_any b v B p n w1 (H.out.below hbw) HB.out hBl hn2 hp)
  have HBW := Lib.hid hbw
  have G1 := Lib.hid g1
  have G2 := Lib.hid g2
  clear hb hbw g1 g2
  go_wp2_with fail
  refine HN.out.mono ?_
  rintro e w2 ⟨rfl, hb2⟩
  have d1 := (boxed_below G1.out hb2 G1.out.lt).cell
  have d2 := (boxed_below G2.out hb2 G2.out.lt).cell
  have hbw2 : Below w.heap.size w w2 := HBW.out.trans (hb2.mono HBW.out.size)
  have k2 := (H.out.below hbw2).obj.c2
  have kf := (H.out.below hbw2).obj.fr 2
  have HBW2 := Lib.hid hbw2
  clear hb2 hbw2 c1 c2
  go_wp2
  go_region
  all_goals
    go_wp2
    go_ret2
    exact ⟨rfl, (RLeft.moved H.out HBW2.out (p + n)).drew⟩

set_option maxRecDepth 100000 in
set_option maxHeartbeats 800000 in
theorem pad_ok (b : Nat) (v : Value) (B : List Nat) (p n : Nat) (w : World) (h : RAt w b v B p) (hB : ∀ c ∈ B, c < 256) (hBl : B.length ≤ 1048576) (hp : p ≤ 8 * B.length) (hn1 : 1 ≤ n) (hn2 : n ≤ 4096) (hc : padCode B p n = 0) :
    Calls Try.prog 31 #[.pointer (some ⟨b, 0, none⟩), .int .i64 n] w fun e w' => e = .returned (.int .i64 0) ∧ RLeft b v B (bord p n) w w' := by
  have hf := pad_first b v B p n w h hB hBl hp
  rw [hc] at hf
  have HF := Lib.hid hf
  have H := Lib.hid h
  have hbx := box2_below w (.pointer (some ⟨b, 0, none⟩)) (.int .i64 n) 40 3
  have HB1 := Lib.hid (box2_1 w (.pointer (some ⟨b, 0, none⟩)) (.int .i64 n) 40 3)
  have HB2 := Lib.hid (box2_2 w (.pointer (some ⟨b, 0, none⟩)) (.int .i64 n) 40 3)
  have HBX := Lib.hid hbx
  clear h hc hf hbx hB
  go_enter Try.func31, Try.ntmps31
  go_wp2_with fail
  refine HF.out.mono ?_
  rintro e w1 ⟨rfl, hb⟩
  have c1 := (boxed_below HB1.out hb (by omega)).cell
  have c2 := (boxed_below HB2.out hb (by omega)).cell
  have hbw : Below w.heap.size w w1 := HBX.out.trans (hb.mono (by omega))
  have k2 := (H.out.below hbw).obj.c2
  have kf := (H.out.below hbw).obj.fr 2
  have HBW := Lib.hid hbw
  clear hb hbw
  have hblt := H.out.obj.lt
  have S1 := Lib.hid (fun u : Value => show (w1.setCell ⟨b, 2, none⟩ u).drew.cell? ⟨w.heap.size, 0, none⟩ = some (.pointer (some ⟨b, 0, none⟩)) from (World.cell?_setCell_other w1 _ _ u (by intro e; simp at e)).trans c1)
  have S2 := Lib.hid (fun u : Value => show (w1.setCell ⟨b, 2, none⟩ u).drew.cell? ⟨w.heap.size + 1, 0, none⟩ = some (.int .i64 n) from (World.cell?_setCell_other w1 _ _ u (by intro e; simp at e)).trans c2)
  go_wp2
  go_region_held3 (fun w' => w'.cell? ⟨w.heap.size, 0, none⟩ = some (.pointer (some ⟨b, 0, none⟩)) ∧ w'.cell? ⟨w.heap.size + 1, 0, none⟩ = some (.int .i64 n)) (first | exact ⟨S1.out _, S2.out _⟩ | go_keep) (first | (go_at_call 76; refine (border_nat b p n _ ?_ hn1 hn2 ?_).mono ?_; omega; (simp [*]); rintro e w2 ⟨rfl, rfl⟩))
  go_wp2
  go_ret
  exact ⟨rfl, (RLeft.moved H.out HBW.out (bord p n)).drew⟩
end Go.Proofs.Ytboiiohpkoodpaa
