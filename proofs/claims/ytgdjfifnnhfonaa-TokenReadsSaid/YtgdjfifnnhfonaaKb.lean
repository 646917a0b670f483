/- A reader in memory: pass, Next, Take, Word, Number, Place. Conditions: the reader lies in memory, its end's line is not 0. -/
import Derived.Test.YtgdjfifnnhfonaaKa
namespace Go.Proofs.Ytgdjfifnnhfonaa
open Go.RowKit Go.Shelf

/-- The error of a call that passes a token if it is wanted. -/
def codeP (b : Bool) (D : List TokD) : Nat := match D with | [] => 9 | _ :: _ => if b then 0 else 6
/-- What is left behind it. -/
def leftP (b : Bool) (D : List TokD) : List TokD := match D with | [] => [] | d :: D => if b then D else d :: D
/-- The token that it hands back. -/
def tokP (b : Bool) (D : List TokD) : Value := match D with | [] => zeroTok | d :: _ => if b then d.agg else zeroTok

/-- A token variable. -/
theorem agg_box (w : World) (d : TokD) : TBox (w.alloc (.cells #[.int .i64 d.k, .string (strL d.t), .int .i64 d.v, .int .i64 d.ln, .int .i64 d.cn] 36)) w.heap.size (.int .i64 d.k) (.string (strL d.t)) (.int .i64 d.v) (.int .i64 d.ln) (.int .i64 d.cn) := tbox_new w _ _ _ _ _

theorem below_alloc (w : World) (o : Obj) : Below w.heap.size w (w.alloc o) := (Below.refl w.heap.size w).alloc (Nat.le_refl _) o

set_option maxRecDepth 100000 in
set_option maxHeartbeats 3200000 in
theorem rd_pass_end (S : Nat → Prop) (p : Nat) (E : Nat × Nat) (w : World) (f : Value) (h : Reads S p E [] w) (hE : 1 ≤ E.1) :
    Calls Try.prog 42 #[.pointer (some ⟨p, 0, none⟩), f] w fun e w' => e = .returned (.tuple #[zeroTok, .int .i64 9]) ∧ Below w.heap.size w w' := by
  obtain ⟨A, c, hR, _⟩ := h
  have hal := below_alloc w (.cells #[.int .i64 0, .string ⟨#[]⟩, .int .i64 0, .int .i64 0, .int .i64 0] 36)
  have hbx := tbox_new w (.int .i64 0) (.string ⟨#[]⟩) (.int .i64 0) (.int .i64 0) (.int .i64 0)
  have h1 := hR.below hal hR.lt
  obtain ⟨w1, hw1⟩ : ∃ w1, w.alloc (.cells #[.int .i64 0, .string ⟨#[]⟩, .int .i64 0, .int .i64 0, .int .i64 0] 36) = w1 := ⟨_, rfl⟩
  obtain ⟨b, eb⟩ : ∃ b, w.heap.size = b := ⟨_, rfl⟩
  rw [hw1] at hal hbx h1
  rw [eb] at hbx
  have HN := Lib.hid (rd_peek_end p A c E w1 h1 hE)
  unfold zeroTok at HN ⊢
  have HW := Lib.hid hw1
  have EB := Lib.hid eb
  have HAL := Lib.hid hal
  have Hx := Lib.hid hbx
  clear hw1 eb hal hbx hR h1
  go_enter Try.func42, Try.ntmps42
  go_wp2_with fail
  rw [HW.out, EB.out]
  refine HN.out.mono ?_
  rintro e w2 ⟨rfl, hb2⟩
  have hal3 := below_alloc w2 (.cells #[.int .i64 0, .string ⟨#[]⟩, .int .i64 0, .int .i64 0, .int .i64 0] 36)
  have hbx3 := tbox_new w2 (.int .i64 0) (.string ⟨#[]⟩) (.int .i64 0) (.int .i64 0) (.int .i64 0)
  have hlt := Hx.out.lt
  have hx2 := Hx.out.below hb2 hlt
  have hx3 := hx2.below hal3 hx2.lt
  have hb3 := HAL.out.trans ((hb2.trans (hal3.mono hb2.size)).mono HAL.out.size)
  have S1 := Lib.hid hbx3
  have X3 := Lib.hid hx3
  have HB3 := Lib.hid hb3
  clear hal3 hbx3 hlt hx2 hx3 hb3 hb2 HW HN Hx
  go_upto_region 3 with fail
  have Hx := Lib.hid X3.out
  have HB := Lib.hid HB3.out
  clear S1 X3 HB3
  generalize w2.alloc (.cells #[.int .i64 0, .string ⟨#[]⟩, .int .i64 0, .int .i64 0, .int .i64 0] 36) = w3 at Hx HB ⊢
  have xc0 := Hx.out.c0
  have xc1 := Hx.out.c1
  have xc2 := Hx.out.c2
  have xc3 := Hx.out.c3
  have xc4 := Hx.out.c4
  have xf0 := Hx.out.fr 0
  have xf1 := Hx.out.fr 1
  have xf2 := Hx.out.fr 2
  have xf3 := Hx.out.fr 3
  have xf4 := Hx.out.fr 4
  go_wp2_with fail
  obtain ⟨hs1, hs2⟩ := set5 Hx.out (.int .i64 0) (.string ⟨#[]⟩) (.int .i64 0) (.int .i64 0) (.int .i64 0)
  generalize (((((w3.setCell ⟨b, 0, none⟩ (.int .i64 0)).setCell ⟨b, 1, none⟩ (.string ⟨#[]⟩)).setCell ⟨b, 2, none⟩ (.int .i64 0)).setCell ⟨b, 3, none⟩ (.int .i64 0)).setCell ⟨b, 4, none⟩ (.int .i64 0)) = w5 at hs1 hs2 ⊢
  have e0 := hs1.c0
  have e1 := hs1.c1
  have e2 := hs1.c2
  have e3 := hs1.c3
  have e4 := hs1.c4
  have hb5 : Below w.heap.size w w5 := HB.out.trans (hs2.toBelow w.heap.size HB.out.size (fun i hi e => by have := EB.out; omega))
  refine bodyPost_ret (by simp [results, Try.results42, go_sem, *]; try rfl) rfl ?_
  exact ⟨rfl, hb5⟩

set_option maxRecDepth 100000 in
set_option maxHeartbeats 3200000 in
theorem rd_pass_tok (S : Nat → Prop) (p : Nat) (E : Nat × Nat) (d : TokD) (D : List TokD) (w : World) (F : Nat) (cap : Array Value) (b : Bool) (eg : ∀ args w, (callFunc F args).run Try.prog w = .ok (.enter F args) w)
    (hF : ∀ wx, Below w.heap.size w wx → Calls Try.prog F (#[d.agg] ++ cap) wx fun e w' => e = .returned (.bool b) ∧ Below wx.heap.size wx w') (h : Reads S p E (d :: D) w) (hE : 1 ≤ E.1) (hSp : S p) :
    Calls Try.prog 42 #[.pointer (some ⟨p, 0, none⟩), .func (.func F) #[] cap] w fun e w' => e = .returned (.tuple #[tokP b (d :: D), .int .i64 (codeP b (d :: D))]) ∧ Reads S p E (leftP b (d :: D)) w' ∧ Rest (fun i => i = p) w w' := by
  have hal := below_alloc w (.cells #[.int .i64 0, .string ⟨#[]⟩, .int .i64 0, .int .i64 0, .int .i64 0] 36)
  have hbx := tbox_new w (.int .i64 0) (.string ⟨#[]⟩) (.int .i64 0) (.int .i64 0) (.int .i64 0)
  have hp := h.lt
  have h1 := h.below hal
  obtain ⟨w1, hw1⟩ : ∃ w1, w.alloc (.cells #[.int .i64 0, .string ⟨#[]⟩, .int .i64 0, .int .i64 0, .int .i64 0] 36) = w1 := ⟨_, rfl⟩
  obtain ⟨rb, eb⟩ : ∃ b, w.heap.size = b := ⟨_, rfl⟩
  rw [hw1] at hal hbx h1
  rw [eb] at hbx hp
  have HN := Lib.hid (rd_peek S p E d D w1 h1 hE)
  unfold TokD.agg at HN hF
  have HF := Lib.hid hF
  have HW := Lib.hid hw1
  have EB := Lib.hid eb
  have HAL := Lib.hid hal
  have Hx := Lib.hid hbx
  have H1 := Lib.hid h1
  have HP := Lib.hid hp
  have H0 := Lib.hid h
  have SP := Lib.hid hSp
  clear hw1 eb hal hbx h h1 hF hp hSp
  go_enter Try.func42, Try.ntmps42
  go_wp2_with fail
  rw [HW.out, EB.out]
  refine HN.out.mono ?_
  rintro e w2 ⟨rfl, hb2⟩
  have hal3 := below_alloc w2 (.cells #[.int .i64 d.k, .string (strL d.t), .int .i64 d.v, .int .i64 d.ln, .int .i64 d.cn] 36)
  have hbx3 := agg_box w2 d
  have hlt := Hx.out.lt
  have hx2 := Hx.out.below hb2 hlt
  have hx3 := hx2.below hal3 hx2.lt
  have hb3 := HAL.out.trans ((hb2.trans (hal3.mono hb2.size)).mono HAL.out.size)
  have h3 := (H1.out.below hb2).below hal3
  have hqb : rb < w2.heap.size := by have := hb2.size; omega
  obtain ⟨qb, eqb⟩ : ∃ q, w2.heap.size = q := ⟨_, rfl⟩
  obtain ⟨w3, hw3⟩ : ∃ w3, w2.alloc (.cells #[.int .i64 d.k, .string (strL d.t), .int .i64 d.v, .int .i64 d.ln, .int .i64 d.cn] 36) = w3 := ⟨_, rfl⟩
  rw [hw3] at hbx3 hx3 hb3 h3
  rw [eqb] at hbx3 hqb
  have Y3 := Lib.hid hbx3
  have X3 := Lib.hid hx3
  have HB3 := Lib.hid hb3
  have H3 := Lib.hid h3
  have W3 := Lib.hid hw3
  have EQB := Lib.hid eqb
  have QB := Lib.hid hqb
  clear hal3 hbx3 hlt hx2 hx3 hb3 hb2 h3 HW HN Hx hw3 eqb hqb
  go_upto_region 4 with fail
  rw [W3.out, EQB.out]
  have y0 := Y3.out.c0
  have y1 := Y3.out.c1
  have y2 := Y3.out.c2
  have y3 := Y3.out.c3
  have y4 := Y3.out.c4
  go_wp2_with fail
  refine (HF.out w3 HB3.out).mono ?_
  rintro e w4 ⟨rfl, hb4⟩
  have Y4 := Lib.hid (Y3.out.below hb4 Y3.out.lt)
  have X4 := Lib.hid (X3.out.below hb4 X3.out.lt)
  have HB4 := Lib.hid (HB3.out.trans (hb4.mono HB3.out.size))
  have H4 := Lib.hid (H3.out.below hb4)
  clear hb4 y0 y1 y2 y3 y4 HF
  have xc0 := X4.out.c0
  have xc1 := X4.out.c1
  have xc2 := X4.out.c2
  have xc3 := X4.out.c3
  have xc4 := X4.out.c4
  have xf0 := X4.out.fr 0
  have xf1 := X4.out.fr 1
  have xf2 := X4.out.fr 2
  have xf3 := X4.out.fr 3
  have xf4 := X4.out.fr 4
  cases b with
  | false =>
    go_wp2_with fail
    obtain ⟨hs1, hs2⟩ := set5 X4.out (.int .i64 0) (.string ⟨#[]⟩) (.int .i64 0) (.int .i64 0) (.int .i64 0)
    generalize (((((w4.setCell ⟨rb, 0, none⟩ (.int .i64 0)).setCell ⟨rb, 1, none⟩ (.string ⟨#[]⟩)).setCell ⟨rb, 2, none⟩ (.int .i64 0)).setCell ⟨rb, 3, none⟩ (.int .i64 0)).setCell ⟨rb, 4, none⟩ (.int .i64 0)) = w5 at hs1 hs2 ⊢
    have e0 := hs1.c0
    have e1 := hs1.c1
    have e2 := hs1.c2
    have e3 := hs1.c3
    have e4 := hs1.c4
    have hb5 : Below w.heap.size w w5 := HB4.out.trans (hs2.toBelow w.heap.size HB4.out.size (fun i hi e => by have := EB.out; omega))
    refine bodyPost_ret (by simp [results, Try.results42, go_sem, *]; try rfl) rfl ?_
    exact ⟨rfl, H0.out.below hb5, Rest.below hb5⟩
  | true =>
    obtain ⟨A, c, hR, hS⟩ := H0.out
    have hR4 := hR.below HB4.out hR.lt
    have hS4 := hS.below HB4.out
    have hlen := hS4.1
    have hcap := hS4.2.1
    obtain ⟨g, o, rfl, _, _⟩ := hS4.head
    have p0 : w4.cell? ⟨p, 0, none⟩ = some (.slice (some ⟨g, o, none⟩) (D.length + 1) c) := hR4.c0
    have pf := hR4.fr 0
    have hmx : D.length + 1 ≤ 9223372036854775807 := by simp only [List.length_cons] at hlen; omega
    simp only [List.length_cons] at hlen
    obtain ⟨AN, hAN⟩ : ∃ AN : Option Addr, (if c = 1 then some (⟨g, o, none⟩ : Addr) else some ⟨g, o + 5, none⟩) = AN := ⟨_, rfl⟩
    have HR4 := Lib.hid hR4
    have HS0 := Lib.hid hS
    have HAN := Lib.hid hAN
    have n1 : ¬ p = rb := by have := HP.out; omega
    have n2 : ¬ rb = p := by omega
    have n3 : ¬ p = qb := by have := QB.out; have := HP.out; omega
    have n4 : ¬ qb = p := by omega
    clear hR hS hR4 hS4 hAN
    go_upto_region 7 with fail
    rw [HAN.out]
    have hR5 := HR4.out.set AN D.length (c - 1)
    have hr5 : Rest (fun i => i = p) w4 (w4.setCell ⟨p, 0, none⟩ (.slice AN D.length (c - 1))) := (Rest.refl (fun i => i = p) w4).setCell (S := fun i => i = p) (p := ⟨p, 0, none⟩) (fun _ => rfl) _
    generalize w4.setCell ⟨p, 0, none⟩ (.slice AN D.length (c - 1)) = w5 at hR5 hr5 ⊢
    have X5 := Lib.hid (X4.out.rest hr5 n2)
    have Y5 := Lib.hid (Y4.out.rest hr5 n4)
    have R5 := Lib.hid hr5
    have HR5 := Lib.hid hR5
    clear hR5 hr5 xc0 xc1 xc2 xc3 xc4 xf0 xf1 xf2 xf3 xf4 p0 pf
    have t0 := Y5.out.c0
    have t1 := Y5.out.c1
    have t2 := Y5.out.c2
    have t3 := Y5.out.c3
    have t4 := Y5.out.c4
    have xc0 := X5.out.c0
    have xc1 := X5.out.c1
    have xc2 := X5.out.c2
    have xc3 := X5.out.c3
    have xc4 := X5.out.c4
    have xf0 := X5.out.fr 0
    have xf1 := X5.out.fr 1
    have xf2 := X5.out.fr 2
    have xf3 := X5.out.fr 3
    have xf4 := X5.out.fr 4
    go_wp2_with fail
    obtain ⟨hs1, hs2⟩ := set5 X5.out (.int .i64 d.k) (.string (strL d.t)) (.int .i64 d.v) (.int .i64 d.ln) (.int .i64 d.cn)
    generalize (((((w5.setCell ⟨rb, 0, none⟩ (.int .i64 d.k)).setCell ⟨rb, 1, none⟩ (.string (strL d.t))).setCell ⟨rb, 2, none⟩ (.int .i64 d.v)).setCell ⟨rb, 3, none⟩ (.int .i64 d.ln)).setCell ⟨rb, 4, none⟩ (.int .i64 d.cn)) = w6 at hs1 hs2 ⊢
    have e0 := hs1.c0
    have e1 := hs1.c1
    have e2 := hs1.c2
    have e3 := hs1.c3
    have e4 := hs1.c4
    have hr06 : Rest (fun i => i = p) w w6 := ((Rest.below (S := fun i => i = p) HB4.out).trans R5.out (fun _ _ e => e)).trans hs2 (fun i hi e => by have := EB.out; omega)
    have HR6 := Lib.hid hr06
    have HR56 := Lib.hid (HR5.out.rest hs2 n1)
    clear hs1 hs2 hr06 t0 t1 t2 t3 t4 xc0 xc1 xc2 xc3 xc4 xf0 xf1 xf2 xf3 xf4
    refine bodyPost_ret (by simp [results, Try.results42, go_sem, *]; try rfl) rfl ?_
    refine ⟨rfl, ⟨AN, c - 1, HR56.out, ?_⟩, HR6.out⟩
    have hS6 := HS0.out.rest HR6.out (fun i _ e => by rw [e]; exact SP.out)
    rw [← HAN.out]
    by_cases hc1 : c = 1
    · subst hc1
      rw [if_pos rfl]
      exact (hS6.last _).2
    · rw [if_neg hc1]
      exact hS6.tail

theorem rd_pass (S : Nat → Prop) (p : Nat) (E : Nat × Nat) (D : List TokD) (w : World) (F : Nat) (cap : Array Value) (b : Bool) (eg : ∀ args w, (callFunc F args).run Try.prog w = .ok (.enter F args) w)
    (hF : ∀ d D', D = d :: D' → ∀ wx, Below w.heap.size w wx → Calls Try.prog F (#[d.agg] ++ cap) wx fun e w' => e = .returned (.bool b) ∧ Below wx.heap.size wx w') (h : Reads S p E D w) (hE : 1 ≤ E.1) (hSp : S p) :
    Calls Try.prog 42 #[.pointer (some ⟨p, 0, none⟩), .func (.func F) #[] cap] w fun e w' => e = .returned (.tuple #[tokP b D, .int .i64 (codeP b D)]) ∧ Reads S p E (leftP b D) w' ∧ Rest (fun i => i = p) w w' := by
  cases D with
  | nil => exact (rd_pass_end S p E w _ h hE).mono fun e w' ⟨he, hb⟩ => ⟨he, h.below hb, Rest.below hb⟩
  | cons d D => exact rd_pass_tok S p E d D w F cap b eg (hF d D rfl) h hE hSp
end Go.Proofs.Ytgdjfifnnhfonaa
