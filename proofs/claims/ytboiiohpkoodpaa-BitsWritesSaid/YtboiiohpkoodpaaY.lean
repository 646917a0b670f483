/- Get, Skip and Pad of a reader: what they return, and its place after it. Conditions: the reader lies in memory and has at most 1048576 bytes. -/
import Derived.Test.YtboiiohpkoodpaaX
namespace Go.Proofs.Ytboiiohpkoodpaa
open Go.RowKit Go.Shelf

/-- What a call of a reader leaves. -/
def RLeft (b : Nat) (v : Value) (B : List Nat) (p : Nat) (w w' : World) : Prop := RAt w' b v B p ∧ Rest (fun k => k = b) w w'
theorem RLeft.same {b : Nat} {v : Value} {B : List Nat} {p : Nat} {w w' : World} (h : RAt w b v B p) (hb : Below w.heap.size w w') : RLeft b v B p w w' := ⟨h.below hb, .below hb⟩
theorem RLeft.moved {b : Nat} {v : Value} {B : List Nat} {p : Nat} {w w1 : World} (h : RAt w b v B p) (hb : Below w.heap.size w w1) (q : Nat) : RLeft b v B q w (w1.setCell ⟨b, 2, none⟩ (.int .i64 q)) :=
  ⟨⟨(h.below hb).obj.set2 _, ownsRow_setCell_other (h.below hb).row h.ne _⟩, Rest.setCell (S := fun k => k = b) (Rest.below hb) (p := ⟨b, 2, none⟩) (fun _ => rfl) _⟩
theorem RLeft.drew {b : Nat} {v : Value} {B : List Nat} {p : Nat} {w w1 : World} (h : RLeft b v B p w w1) : RLeft b v B p w w1.drew := ⟨⟨h.1.obj.drew, h.1.row.drew⟩, h.2.drew⟩

def getCode (L p : Nat) (n : Int) : Int := if withinB n 1 32 then (if 8 * (L : Int) - p < n then 4 else 0) else 2
def skipCode (L p : Nat) (n : Int) : Int := if n < 0 then 2 else if 8 * (L : Int) - p < n then 4 else 0
def takeCode (L p : Nat) (n : Int) : Int := if n < 0 then 2 else if (p : Int) % 8 == 0 then (if (8 * (L : Int) - p) / 8 < n then 4 else 0) else 8
def rlittleCode (L p : Nat) (n : Int) : Int := if withinB n 1 4 then (if (p : Int) % 8 == 0 then (if 8 * (L : Int) - p < 8 * n then 4 else 0) else 8) else 2
def padCode (B : List Nat) (p : Nat) (n : Int) : Int :=
  if withinB n 1 4096 then (if 8 * (B.length : Int) < (bord p n.toNat : Int) then 4 else if zerosB (((unpack B).drop p).take (bord p n.toNat - p)) then 0 else 6) else 2

theorem get_first (b : Nat) (v : Value) (B : List Nat) (p : Nat) (n : Int) (w : World) (h : RAt w b v B p) (hBl : B.length ≤ 1048576) (hp : p ≤ 8 * B.length) :
    Calls Try.prog 43 #[.slice (some ⟨w.heap.size + 1 + 1, 0, none⟩) 3 3]
      ((box2 w (.pointer (some ⟨b, 0, none⟩)) (.int .i64 n) 40 3).alloc (.cells #[.int .i64 1, .func (.func 53) #[.pointer (some ⟨b, 0, none⟩)] #[], .int .i64 2, .func (.func 63) #[] #[.pointer (some ⟨w.heap.size + 1, 0, none⟩)], .int .i64 4, .func (.func 64) #[] #[.pointer (some ⟨w.heap.size + 1, 0, none⟩), .pointer (some ⟨w.heap.size, 0, none⟩)]] 77))
      fun e w' => e = .returned (.int .i64 (getCode B.length p n)) ∧ Below (w.heap.size + 1 + 1) (box2 w (.pointer (some ⟨b, 0, none⟩)) (.int .i64 n) 40 3) w' := by
  have hbx := box2_below w (.pointer (some ⟨b, 0, none⟩)) (.int .i64 n) 40 3
  have hb := h.below hbx
  have hs := box2_size w (.pointer (some ⟨b, 0, none⟩)) (.int .i64 n) 40 3
  have x1 := box2_1 w (.pointer (some ⟨b, 0, none⟩)) (.int .i64 n) 40 3
  have x2 := box2_2 w (.pointer (some ⟨b, 0, none⟩)) (.int .i64 n) 40 3
  have hc2 : (box2 w (.pointer (some ⟨b, 0, none⟩)) (.int .i64 n) 40 3).cell? ⟨b, 2, none⟩ = some (.int .i64 (p : Nat)) := hb.obj.c2
  refine (firstError3 ⟨1, 53, #[.pointer (some ⟨b, 0, none⟩)], #[], false⟩ ⟨2, 63, #[], #[.pointer (some ⟨w.heap.size + 1, 0, none⟩)], !(withinB n 1 32)⟩ ⟨4, 64, #[], #[.pointer (some ⟨w.heap.size + 1, 0, none⟩), .pointer (some ⟨w.heap.size, 0, none⟩)], decide (8 * (B.length : Int) - p < n)⟩ _ _ hs (good53 hb.obj.lt hb.obj.c0) (fun _ => good63 x2.lt x2.cell) (fun _ _ => good64 x2.lt x1.lt x2.cell x1.cell hb hBl hp)).mono ?_
  rintro e w' ⟨rfl, hbw⟩
  refine ⟨ret_int ?_, by rw [← hs]; exact hbw⟩
  unfold getCode
  cases withinB n 1 32 <;> simp [firstCode]

theorem skip_first (b : Nat) (v : Value) (B : List Nat) (p : Nat) (n : Int) (w : World) (h : RAt w b v B p) (hBl : B.length ≤ 1048576) (hp : p ≤ 8 * B.length) :
    Calls Try.prog 43 #[.slice (some ⟨w.heap.size + 1 + 1, 0, none⟩) 3 3]
      ((box2 w (.pointer (some ⟨b, 0, none⟩)) (.int .i64 n) 40 3).alloc (.cells #[.int .i64 1, .func (.func 53) #[.pointer (some ⟨b, 0, none⟩)] #[], .int .i64 2, .func (.func 59) #[] #[.pointer (some ⟨w.heap.size + 1, 0, none⟩)], .int .i64 4, .func (.func 60) #[] #[.pointer (some ⟨w.heap.size + 1, 0, none⟩), .pointer (some ⟨w.heap.size, 0, none⟩)]] 77))
      fun e w' => e = .returned (.int .i64 (skipCode B.length p n)) ∧ Below (w.heap.size + 1 + 1) (box2 w (.pointer (some ⟨b, 0, none⟩)) (.int .i64 n) 40 3) w' := by
  have hbx := box2_below w (.pointer (some ⟨b, 0, none⟩)) (.int .i64 n) 40 3
  have hb := h.below hbx
  have hs := box2_size w (.pointer (some ⟨b, 0, none⟩)) (.int .i64 n) 40 3
  have x1 := box2_1 w (.pointer (some ⟨b, 0, none⟩)) (.int .i64 n) 40 3
  have x2 := box2_2 w (.pointer (some ⟨b, 0, none⟩)) (.int .i64 n) 40 3
  have hc2 : (box2 w (.pointer (some ⟨b, 0, none⟩)) (.int .i64 n) 40 3).cell? ⟨b, 2, none⟩ = some (.int .i64 (p : Nat)) := hb.obj.c2
  refine (firstError3 ⟨1, 53, #[.pointer (some ⟨b, 0, none⟩)], #[], false⟩ ⟨2, 59, #[], #[.pointer (some ⟨w.heap.size + 1, 0, none⟩)], decide (n < 0)⟩ ⟨4, 60, #[], #[.pointer (some ⟨w.heap.size + 1, 0, none⟩), .pointer (some ⟨w.heap.size, 0, none⟩)], decide (8 * (B.length : Int) - p < n)⟩ _ _ hs (good53 hb.obj.lt hb.obj.c0) (fun _ => good59 x2.lt x2.cell) (fun _ _ => good60 x2.lt x1.lt x2.cell x1.cell hb hBl hp)).mono ?_
  rintro e w' ⟨rfl, hbw⟩
  refine ⟨ret_int ?_, by rw [← hs]; exact hbw⟩
  unfold skipCode
  simp [firstCode]

theorem take_first (b : Nat) (v : Value) (B : List Nat) (p : Nat) (n : Int) (w : World) (h : RAt w b v B p) (hBl : B.length ≤ 1048576) (hp : p ≤ 8 * B.length) :
    Calls Try.prog 43 #[.slice (some ⟨w.heap.size + 1 + 1, 0, none⟩) 4 4]
      ((box2 w (.pointer (some ⟨b, 0, none⟩)) (.int .i64 n) 40 3).alloc (.cells #[.int .i64 1, .func (.func 53) #[.pointer (some ⟨b, 0, none⟩)] #[], .int .i64 2, .func (.func 71) #[] #[.pointer (some ⟨w.heap.size + 1, 0, none⟩)], .int .i64 8, .func (.func 72) #[] #[.pointer (some ⟨w.heap.size, 0, none⟩)], .int .i64 4, .func (.func 73) #[] #[.pointer (some ⟨w.heap.size + 1, 0, none⟩), .pointer (some ⟨w.heap.size, 0, none⟩)]] 77))
      fun e w' => e = .returned (.int .i64 (takeCode B.length p n)) ∧ Below (w.heap.size + 1 + 1) (box2 w (.pointer (some ⟨b, 0, none⟩)) (.int .i64 n) 40 3) w' := by
  have hbx := box2_below w (.pointer (some ⟨b, 0, none⟩)) (.int .i64 n) 40 3
  have hb := h.below hbx
  have hs := box2_size w (.pointer (some ⟨b, 0, none⟩)) (.int .i64 n) 40 3
  have x1 := box2_1 w (.pointer (some ⟨b, 0, none⟩)) (.int .i64 n) 40 3
  have x2 := box2_2 w (.pointer (some ⟨b, 0, none⟩)) (.int .i64 n) 40 3
  have hc2 : (box2 w (.pointer (some ⟨b, 0, none⟩)) (.int .i64 n) 40 3).cell? ⟨b, 2, none⟩ = some (.int .i64 (p : Nat)) := hb.obj.c2
  refine (firstError4 ⟨1, 53, #[.pointer (some ⟨b, 0, none⟩)], #[], false⟩ ⟨2, 71, #[], #[.pointer (some ⟨w.heap.size + 1, 0, none⟩)], decide (n < 0)⟩ ⟨8, 72, #[], #[.pointer (some ⟨w.heap.size, 0, none⟩)], !((p : Int) % 8 == 0)⟩ ⟨4, 73, #[], #[.pointer (some ⟨w.heap.size + 1, 0, none⟩), .pointer (some ⟨w.heap.size, 0, none⟩)], decide ((8 * (B.length : Int) - p) / 8 < n)⟩ _ _ hs (good53 hb.obj.lt hb.obj.c0) (fun _ => good71 x2.lt x2.cell) (fun _ _ => good72 x1.lt hb.obj.lt x1.cell hc2) (fun _ _ _ => good73 x2.lt x1.lt x2.cell x1.cell hb hBl hp)).mono ?_
  rintro e w' ⟨rfl, hbw⟩
  refine ⟨ret_int ?_, by rw [← hs]; exact hbw⟩
  unfold takeCode
  cases ((p : Int) % 8 == 0) <;> simp [firstCode]

theorem rlittle_first (b : Nat) (v : Value) (B : List Nat) (p : Nat) (n : Int) (w : World) (h : RAt w b v B p) (hBl : B.length ≤ 1048576) (hp : p ≤ 8 * B.length) :
    Calls Try.prog 43 #[.slice (some ⟨w.heap.size + 1 + 1, 0, none⟩) 4 4]
      ((box2 w (.pointer (some ⟨b, 0, none⟩)) (.int .i64 n) 40 3).alloc (.cells #[.int .i64 1, .func (.func 53) #[.pointer (some ⟨b, 0, none⟩)] #[], .int .i64 2, .func (.func 66) #[] #[.pointer (some ⟨w.heap.size + 1, 0, none⟩)], .int .i64 8, .func (.func 67) #[] #[.pointer (some ⟨w.heap.size, 0, none⟩)], .int .i64 4, .func (.func 69) #[] #[.pointer (some ⟨w.heap.size + 1, 0, none⟩), .pointer (some ⟨w.heap.size, 0, none⟩)]] 77))
      fun e w' => e = .returned (.int .i64 (rlittleCode B.length p n)) ∧ Below (w.heap.size + 1 + 1) (box2 w (.pointer (some ⟨b, 0, none⟩)) (.int .i64 n) 40 3) w' := by
  have hbx := box2_below w (.pointer (some ⟨b, 0, none⟩)) (.int .i64 n) 40 3
  have hb := h.below hbx
  have hs := box2_size w (.pointer (some ⟨b, 0, none⟩)) (.int .i64 n) 40 3
  have x1 := box2_1 w (.pointer (some ⟨b, 0, none⟩)) (.int .i64 n) 40 3
  have x2 := box2_2 w (.pointer (some ⟨b, 0, none⟩)) (.int .i64 n) 40 3
  have hc2 : (box2 w (.pointer (some ⟨b, 0, none⟩)) (.int .i64 n) 40 3).cell? ⟨b, 2, none⟩ = some (.int .i64 (p : Nat)) := hb.obj.c2
  refine (firstError4 ⟨1, 53, #[.pointer (some ⟨b, 0, none⟩)], #[], false⟩ ⟨2, 66, #[], #[.pointer (some ⟨w.heap.size + 1, 0, none⟩)], !(withinB n 1 4)⟩ ⟨8, 67, #[], #[.pointer (some ⟨w.heap.size, 0, none⟩)], !((p : Int) % 8 == 0)⟩ ⟨4, 69, #[], #[.pointer (some ⟨w.heap.size + 1, 0, none⟩), .pointer (some ⟨w.heap.size, 0, none⟩)], decide (8 * (B.length : Int) - p < 8 * n)⟩ _ _ hs (good53 hb.obj.lt hb.obj.c0) (fun _ => good66 x2.lt x2.cell) (fun _ _ => good67 x1.lt hb.obj.lt x1.cell hc2) (fun _ hw _ => ?_)).mono ?_
  · have hw' : 1 ≤ n ∧ n ≤ 4 := by
      simpa [withinB] using hw
    exact good69 x2.lt x1.lt x2.cell x1.cell hb hBl hp hw'.1 hw'.2
  rintro e w' ⟨rfl, hbw⟩
  refine ⟨ret_int ?_, by rw [← hs]; exact hbw⟩
  unfold rlittleCode
  cases withinB n 1 4 <;> cases ((p : Int) % 8 == 0) <;> simp [firstCode]

theorem pad_first (b : Nat) (v : Value) (B : List Nat) (p : Nat) (n : Int) (w : World) (h : RAt w b v B p) (hB : ∀ c ∈ B, c < 256) (hBl : B.length ≤ 1048576) (hp : p ≤ 8 * B.length) :
    Calls Try.prog 43 #[.slice (some ⟨w.heap.size + 1 + 1, 0, none⟩) 4 4]
      ((box2 w (.pointer (some ⟨b, 0, none⟩)) (.int .i64 n) 40 3).alloc (.cells #[.int .i64 1, .func (.func 53) #[.pointer (some ⟨b, 0, none⟩)] #[], .int .i64 2, .func (.func 74) #[] #[.pointer (some ⟨w.heap.size + 1, 0, none⟩)], .int .i64 4, .func (.func 75) #[] #[.pointer (some ⟨w.heap.size, 0, none⟩), .pointer (some ⟨w.heap.size + 1, 0, none⟩)], .int .i64 6, .func (.func 77) #[] #[.pointer (some ⟨w.heap.size, 0, none⟩), .pointer (some ⟨w.heap.size + 1, 0, none⟩)]] 77))
      fun e w' => e = .returned (.int .i64 (padCode B p n)) ∧ Below (w.heap.size + 1 + 1) (box2 w (.pointer (some ⟨b, 0, none⟩)) (.int .i64 n) 40 3) w' := by
  have hbx := box2_below w (.pointer (some ⟨b, 0, none⟩)) (.int .i64 n) 40 3
  have hb := h.below hbx
  have hs := box2_size w (.pointer (some ⟨b, 0, none⟩)) (.int .i64 n) 40 3
  have x1 := box2_1 w (.pointer (some ⟨b, 0, none⟩)) (.int .i64 n) 40 3
  have x2 := box2_2 w (.pointer (some ⟨b, 0, none⟩)) (.int .i64 n) 40 3
  have hc2 : (box2 w (.pointer (some ⟨b, 0, none⟩)) (.int .i64 n) 40 3).cell? ⟨b, 2, none⟩ = some (.int .i64 (p : Nat)) := hb.obj.c2
  refine (firstError4 ⟨1, 53, #[.pointer (some ⟨b, 0, none⟩)], #[], false⟩ ⟨2, 74, #[], #[.pointer (some ⟨w.heap.size + 1, 0, none⟩)], !(withinB n 1 4096)⟩ ⟨4, 75, #[], #[.pointer (some ⟨w.heap.size, 0, none⟩), .pointer (some ⟨w.heap.size + 1, 0, none⟩)], decide (8 * (B.length : Int) < (bord p n.toNat : Int))⟩ ⟨6, 77, #[], #[.pointer (some ⟨w.heap.size, 0, none⟩), .pointer (some ⟨w.heap.size + 1, 0, none⟩)], !(zerosB (((unpack B).drop p).take (bord p n.toNat - p)))⟩ _ _ hs (good53 hb.obj.lt hb.obj.c0) (fun _ => good74 x2.lt x2.cell) (fun _ hw => ?_) (fun _ hw hlt => ?_)).mono ?_
  · have hw' : 1 ≤ n ∧ n ≤ 4096 := by
      simpa [withinB] using hw
    obtain ⟨m, rfl⟩ : ∃ m : Nat, n = m := ⟨n.toNat, by omega⟩
    exact good75 x1.lt x2.lt x1.cell x2.cell hb hBl hp (by omega) (by omega)
  · have hw' : 1 ≤ n ∧ n ≤ 4096 := by
      simpa [withinB] using hw
    obtain ⟨m, rfl⟩ : ∃ m : Nat, n = m := ⟨n.toNat, by omega⟩
    have hlt' : bord p m ≤ 8 * B.length := by
      simp at hlt
      omega
    exact good77 x1.lt x2.lt x1.cell x2.cell hb hB hBl hlt' (by omega) (by omega)
  rintro e w' ⟨rfl, hbw⟩
  refine ⟨ret_int ?_, by rw [← hs]; exact hbw⟩
  unfold padCode
  cases withinB n 1 4096 <;> cases zerosB (((unpack B).drop p).take (bord p n.toNat - p)) <;> simp [firstCode]

set_option maxRecDepth 100000 in
set_option maxHeartbeats 800000 in
theorem get_err (b : Nat) (v : Value) (B : List Nat) (p : Nat) (n : Int) (w : World) (h : RAt w b v B p) (hBl : B.length ≤ 1048576) (hp : p ≤ 8 * B.length) (hc : getCode B.length p n ≠ 0) :
    Calls Try.prog 28 #[.pointer (some ⟨b, 0, none⟩), .int .i64 n] w fun e w' => e = .returned (.tuple #[.int .i64 0, .int .i64 (getCode B.length p n)]) ∧ RLeft b v B p w w' := by
  have HF := Lib.hid (get_first b v B p n w h hBl hp)
  obtain ⟨c, hcc⟩ : ∃ c, getCode B.length p n = c := ⟨_, rfl⟩
  rw [hcc] at HF hc ⊢
  have H := Lib.hid h
  have e1 : (c == 0) = false := by simpa using hc
  have e2 : (c != 0) = true := by simpa using hc
  have hbx := box2_below w (.pointer (some ⟨b, 0, none⟩)) (.int .i64 n) 40 3
  clear h hcc hc
  go_enter Try.func28, Try.ntmps28
  go_wp2_with fail
  refine HF.out.mono ?_
  rintro e w1 ⟨rfl, hb⟩
  go_wp2
  go_ret2
  exact ⟨rfl, RLeft.same H.out (hbx.trans (hb.mono (by omega)))⟩

set_option maxRecDepth 100000 in
set_option maxHeartbeats 800000 in
theorem skip_err (b : Nat) (v : Value) (B : List Nat) (p : Nat) (n : Int) (w : World) (h : RAt w b v B p) (hBl : B.length ≤ 1048576) (hp : p ≤ 8 * B.length) (hc : skipCode B.length p n ≠ 0) :
    Calls Try.prog 26 #[.pointer (some ⟨b, 0, none⟩), .int .i64 n] w fun e w' => e = .returned (.int .i64 (skipCode B.length p n)) ∧ RLeft b v B p w w' := by
  have HF := Lib.hid (skip_first b v B p n w h hBl hp)
  obtain ⟨c, hcc⟩ : ∃ c, skipCode B.length p n = c := ⟨_, rfl⟩
  rw [hcc] at HF hc ⊢
  have H := Lib.hid h
  have e1 : (c == 0) = false := by simpa using hc
  have e2 : (c != 0) = true := by simpa using hc
  have hbx := box2_below w (.pointer (some ⟨b, 0, none⟩)) (.int .i64 n) 40 3
  clear h hcc hc
  go_enter Try.func26, Try.ntmps26
  go_wp2_with fail
  refine HF.out.mono ?_
  rintro e w1 ⟨rfl, hb⟩
  go_wp2
  go_ret
  exact ⟨rfl, RLeft.same H.out (hbx.trans (hb.mono (by omega)))⟩

set_option maxRecDepth 100000 in
set_option maxHeartbeats 800000 in
theorem take_err (b : Nat) (v : Value) (B : List Nat) (p : Nat) (n : Int) (w : World) (h : RAt w b v B p) (hBl : B.length ≤ 1048576) (hp : p ≤ 8 * B.length) (hc : takeCode B.length p n ≠ 0) :
    Calls Try.prog 30 #[.pointer (some ⟨b, 0, none⟩), .int .i64 n] w fun e w' => e = .returned (.tuple #[.slice none 0 0, .int .i64 (takeCode B.length p n)]) ∧ RLeft b v B p w w' := by
  have HF := Lib.hid (take_first b v B p n w h hBl hp)
  obtain ⟨c, hcc⟩ : ∃ c, takeCode B.length p n = c := ⟨_, rfl⟩
  rw [hcc] at HF hc ⊢
  have H := Lib.hid h
  have e1 : (c == 0) = false := by simpa using hc
  have e2 : (c != 0) = true := by simpa using hc
  have hbx := box2_below w (.pointer (some ⟨b, 0, none⟩)) (.int .i64 n) 40 3
  clear h hcc hc
  go_enter Try.func30, Try.ntmps30
  go_wp2_with fail
  refine HF.out.mono ?_
  rintro e w1 ⟨rfl, hb⟩
  go_wp2
  go_ret2
  exact ⟨rfl, RLeft.same H.out (hbx.trans (hb.mono (by omega)))⟩

set_option maxRecDepth 100000 in
set_option maxHeartbeats 800000 in
theorem rlittle_err (b : Nat) (v : Value) (B : List Nat) (p : Nat) (n : Int) (w : World) (h : RAt w b v B p) (hBl : B.length ≤ 1048576) (hp : p ≤ 8 * B.length) (hc : rlittleCode B.length p n ≠ 0) :
    Calls Try.prog 29 #[.pointer (some ⟨b, 0, none⟩), .int .i64 n] w fun e w' => e = .returned (.tuple #[.int .i64 0, .int .i64 (rlittleCode B.length p n)]) ∧ RLeft b v B p w w' := by
  have HF := Lib.hid (rlittle_first b v B p n w h hBl hp)
  obtain ⟨c, hcc⟩ : ∃ c, rlittleCode B.length p n = c := ⟨_, rfl⟩
  rw [hcc] at HF hc ⊢
  have H := Lib.hid h
  have e1 : (c == 0) = false := by simpa using hc
  have e2 : (c != 0) = true := by simpa using hc
  have hbx := box2_below w (.pointer (some ⟨b, 0, none⟩)) (.int .i64 n) 40 3
  clear h hcc hc
  go_enter Try.func29, Try.ntmps29
  go_wp2_with fail
  refine HF.out.mono ?_
  rintro e w1 ⟨rfl, hb⟩
  go_wp2
  go_ret2
  exact ⟨rfl, RLeft.same H.out (hbx.trans (hb.mono (by omega)))⟩

set_option maxRecDepth 100000 in
set_option maxHeartbeats 800000 in
theorem pad_err (b : Nat) (v : Value) (B : List Nat) (p : Nat) (n : Int) (w : World) (h : RAt w b v B p) (hB : ∀ c ∈ B, c < 256) (hBl : B.length ≤ 1048576) (hp : p ≤ 8 * B.length) (hc : padCode B p n ≠ 0) :
    Calls Try.prog 31 #[.pointer (some ⟨b, 0, none⟩), .int .i64 n] w fun e w' => e = .returned (.int .i64 (padCode B p n)) ∧ RLeft b v B p w w' := by
  have HF := Lib.hid (pad_first b v B p n w h hB hBl hp)
  obtain ⟨c, hcc⟩ : ∃ c, padCode B p n = c := ⟨_, rfl⟩
  rw [hcc] at HF hc ⊢
  have H := Lib.hid h
  have e1 : (c == 0) = false := by simpa using hc
  have e2 : (c != 0) = true := by simpa using hc
  have hbx := box2_below w (.pointer (some ⟨b, 0, none⟩)) (.int .i64 n) 40 3
  clear h hcc hc
  go_enter Try.func31, Try.ntmps31
  go_wp2_with fail
  refine HF.out.mono ?_
  rintro e w1 ⟨rfl, hb⟩
  go_wp2
  go_ret
  exact ⟨rfl, RLeft.same H.out (hbx.trans (hb.mono (by omega)))⟩

end Go.Proofs.Ytboiiohpkoodpaa
