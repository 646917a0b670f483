/- Put puts a number of bits behind a writer's bit string, or returns the error that the chapter asks. Conditions: the writer lies in memory and has at most 8388608 bits. -/
import Derived.Test.YtboiiohpkoodpaaG
import Derived.RangeFuncBox
namespace Go.Proofs.Ytboiiohpkoodpaa
open Go.RowKit Go.Shelf
attribute [local go_sem] Oper.semAt_some

/-- The code of Put. -/
def putCode (len : Nat) (v n : Int) : Int := if withinB n 1 32 && fitsB v n then (if 8388608 - (len : Int) < n then 7 else 0) else 2

/-- What a call of a writer leaves: a code, and the bit string. -/
def Wrote (b : Nat) (v : Value) (l : List Bool) (c : Int) (w : World) (e : Ending) (w' : World) : Prop :=
  e = .returned (.int .i64 c) ∧ ∃ v', WAt w' b v' l ∧ WStep b v v' w w'

theorem Wrote.same {b : Nat} {v : Value} {l : List Bool} {c : Int} {w w' : World} (h : WAt w b v l) (hb : Below w.heap.size w w') : Wrote b v l c w (.returned (.int .i64 c)) w' :=
  ⟨rfl, v, h.below hb, .below hb⟩

/-- Three boxes more. -/
def box3 (w : World) (x1 x2 x3 : Value) (t1 t2 t3 : TypeId) : World := ((w.alloc (.cells #[x1] t1)).alloc (.cells #[x2] t2)).alloc (.cells #[x3] t3)
theorem box3_size (w : World) (x1 x2 x3 : Value) (t1 t2 t3 : TypeId) : (box3 w x1 x2 x3 t1 t2 t3).heap.size = w.heap.size + 1 + 1 + 1 := by simp [box3]
theorem box3_below (w : World) (x1 x2 x3 : Value) (t1 t2 t3 : TypeId) : Below w.heap.size w (box3 w x1 x2 x3 t1 t2 t3) :=
  (((Below.refl _ w).alloc (Nat.le_refl _) _).alloc (by simp) _).alloc (by simp; omega) _
theorem box3_1 (w : World) (x1 x2 x3 : Value) (t1 t2 t3 : TypeId) : Boxed (box3 w x1 x2 x3 t1 t2 t3) w.heap.size t1 x1 := ((Boxed.new w t1 x1).alloc _).alloc _
theorem box3_2 (w : World) (x1 x2 x3 : Value) (t1 t2 t3 : TypeId) : Boxed (box3 w x1 x2 x3 t1 t2 t3) (w.heap.size + 1) t2 x2 := by
  have := Boxed.new (w.alloc (.cells #[x1] t1)) t2 x2
  rw [World.size_alloc] at this
  exact this.alloc _
theorem box3_3 (w : World) (x1 x2 x3 : Value) (t1 t2 t3 : TypeId) : Boxed (box3 w x1 x2 x3 t1 t2 t3) (w.heap.size + 1 + 1) t3 x3 := by
  have := Boxed.new ((w.alloc (.cells #[x1] t1)).alloc (.cells #[x2] t2)) t3 x3
  rw [World.size_alloc, World.size_alloc] at this
  exact this

theorem boxed_below {W W' : World} {B t : Nat} {v : Value} {n : Nat} (h : Boxed W B t v) (hb : Below n W W') (hn : B < n) : Boxed W' B t v := (hb.block B hn).trans h

theorem put_first (b : Nat) (vv : Value) (l : List Bool) (v n : Int) (w : World) (h : WAt w b vv l) (hl : l.length ≤ 8388608) :
    Calls Try.prog 43 #[.slice (some ⟨w.heap.size + 1 + 1 + 1, 0, none⟩) 3 3]
      ((box3 w (.pointer (some ⟨b, 0, none⟩)) (.int .i64 v) (.int .i64 n) 25 3 3).alloc (.cells #[.int .i64 1, .func (.func 34) #[.pointer (some ⟨b, 0, none⟩)] #[],
        .int .i64 2, .func (.func 44) #[] #[.pointer (some ⟨w.heap.size + 1 + 1, 0, none⟩), .pointer (some ⟨w.heap.size + 1, 0, none⟩)],
        .int .i64 7, .func (.func 47) #[] #[.pointer (some ⟨w.heap.size + 1 + 1, 0, none⟩), .pointer (some ⟨w.heap.size, 0, none⟩)]] 77))
      fun e w' => e = .returned (.int .i64 (putCode l.length v n)) ∧ Below (w.heap.size + 1 + 1 + 1) (box3 w (.pointer (some ⟨b, 0, none⟩)) (.int .i64 v) (.int .i64 n) 25 3 3) w' := by
  have hlt := h.obj.lt
  have hb := h.obj.below (box3_below w (.pointer (some ⟨b, 0, none⟩)) (.int .i64 v) (.int .i64 n) 25 3 3) hlt
  have hs := box3_size w (.pointer (some ⟨b, 0, none⟩)) (.int .i64 v) (.int .i64 n) 25 3 3
  have x1 := box3_1 w (.pointer (some ⟨b, 0, none⟩)) (.int .i64 v) (.int .i64 n) 25 3 3
  have x2 := box3_2 w (.pointer (some ⟨b, 0, none⟩)) (.int .i64 v) (.int .i64 n) 25 3 3
  have x3 := box3_3 w (.pointer (some ⟨b, 0, none⟩)) (.int .i64 v) (.int .i64 n) 25 3 3
  refine (firstError3 ⟨1, 34, #[.pointer (some ⟨b, 0, none⟩)], #[], false⟩ ⟨2, 44, #[], #[.pointer (some ⟨w.heap.size + 1 + 1, 0, none⟩), .pointer (some ⟨w.heap.size + 1, 0, none⟩)], !(withinB n 1 32 && fitsB v n)⟩
    ⟨7, 47, #[], #[.pointer (some ⟨w.heap.size + 1 + 1, 0, none⟩), .pointer (some ⟨w.heap.size, 0, none⟩)], decide (8388608 - (l.length : Int) < n)⟩ _ _ hs
    (good34 hb.lt hb.c0) (fun _ => good44 x3.lt x2.lt x3.cell x2.cell) (fun _ _ => good47 x3.lt x1.lt hb.lt x3.cell x1.cell (by omega) (by omega) hb.c2)).mono ?_
  rintro e w' ⟨rfl, hbw⟩
  refine ⟨ret_int ?_, by rw [← hs]; exact hbw⟩
  unfold putCode
  cases withinB n 1 32 && fitsB v n <;> simp [firstCode]

set_option maxRecDepth 100000 in
set_option maxHeartbeats 800000 in
theorem put_err (b : Nat) (vv : Value) (l : List Bool) (v n : Int) (w : World) (h : WAt w b vv l) (hl : l.length ≤ 8388608) (hc : putCode l.length v n ≠ 0) :
    Calls Try.prog 18 #[.pointer (some ⟨b, 0, none⟩), .int .i64 v, .int .i64 n] w (Wrote b vv l (putCode l.length v n) w) := by
  have HF := Lib.hid (put_first b vv l v n w h hl)
  obtain ⟨c, hcc⟩ : ∃ c, putCode l.length v n = c := ⟨_, rfl⟩
  rw [hcc] at HF hc ⊢
  have H := Lib.hid h
  have e1 : (c == 0) = false := by simpa using hc
  have e2 : (c != 0) = true := by simpa using hc
  have hbx := box3_below w (.pointer (some ⟨b, 0, none⟩)) (.int .i64 v) (.int .i64 n) 25 3 3
  clear h hcc hc
  go_enter Try.func18, Try.ntmps18
  go_wp2_with fail
  refine HF.out.mono ?_
  rintro e w1 ⟨rfl, hb⟩
  go_wp2
  go_ret
  exact Wrote.same H.out (hbx.trans (hb.mono (by omega)))
end Go.Proofs.Ytboiiohpkoodpaa
