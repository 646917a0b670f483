/- A reader in memory: Next, Take, Word, Number, Place, Rest. Conditions: the reader lies in memory, its end's line is not 0. -/
import Derived.Test.YtgdjfifnnhfonaaKb
namespace Go.Proofs.Ytgdjfifnnhfonaa
open Go.RowKit Go.Shelf

theorem Try.ent43 : ∀ args w, (callFunc 43 args).run Try.prog w = .ok (.enter 43 args) w := enters_of Try.func43 (by kernel_rfl) rfl
theorem Try.ent45 : ∀ args w, (callFunc 45 args).run Try.prog w = .ok (.enter 45 args) w := enters_of Try.func45 (by kernel_rfl) rfl
theorem Try.ent46 : ∀ args w, (callFunc 46 args).run Try.prog w = .ok (.enter 46 args) w := enters_of Try.func46 (by kernel_rfl) rfl
theorem Try.ent47 : ∀ args w, (callFunc 47 args).run Try.prog w = .ok (.enter 47 args) w := enters_of Try.func47 (by kernel_rfl) rfl

set_option maxRecDepth 100000 in
set_option maxHeartbeats 1600000 in
theorem clo43 (d : TokD) (w : World) : Calls Try.prog 43 #[d.agg] w fun e w' => e = .returned (.bool true) ∧ Below w.heap.size w w' := by
  unfold TokD.agg
  go_enter Try.func43, Try.ntmps43
  go_wp2
  go_ret
  exact ⟨rfl, below_alloc _ _⟩

set_option maxRecDepth 100000 in
set_option maxHeartbeats 1600000 in
theorem clo46 (d : TokD) (w : World) : Calls Try.prog 46 #[d.agg] w fun e w' => e = .returned (.bool (decide (d.k = 1))) ∧ Below w.heap.size w w' := by
  unfold TokD.agg
  go_enter Try.func46, Try.ntmps46
  go_wp2
  go_ret
  exact ⟨ret_bool (by rw [Bool.eq_iff_iff]; simp; try omega), below_alloc _ _⟩

set_option maxRecDepth 100000 in
set_option maxHeartbeats 1600000 in
theorem clo47 (d : TokD) (w : World) : Calls Try.prog 47 #[d.agg] w fun e w' => e = .returned (.bool (decide (d.k = 2))) ∧ Below w.heap.size w w' := by
  unfold TokD.agg
  go_enter Try.func47, Try.ntmps47
  go_wp2
  go_ret
  exact ⟨ret_bool (by rw [Bool.eq_iff_iff]; simp; try omega), below_alloc _ _⟩

/-- Take wants the token. -/
def takeB (t : List UInt8) (d : TokD) : Bool := (decide (d.k = 1) || decide (d.k = 4)) && decide (d.t = t)

set_option maxRecDepth 100000 in
set_option maxHeartbeats 1600000 in
theorem clo45 (d : TokD) (sb : Nat) (t : List UInt8) (w : World) (h : Boxed w sb 9 (.string (strL t))) : Calls Try.prog 45 #[d.agg, .pointer (some ⟨sb, 0, none⟩)] w fun e w' => e = .returned (.bool (takeB t d)) ∧ Below w.heap.size w w' := by
  unfold TokD.agg
  have hlt := h.lt
  have c0 : (w.alloc (.cells #[.int .i64 d.k, .string (strL d.t), .int .i64 d.v, .int .i64 d.ln, .int .i64 d.cn] 36)).cell? ⟨sb, 0, none⟩ = some (.string (strL t)) := ((below_alloc w (.cells #[.int .i64 d.k, .string (strL d.t), .int .i64 d.v, .int .i64 d.ln, .int .i64 d.cn] 36)).cell (p := ⟨sb, 0, none⟩) hlt).trans h.cell
  have hbx := agg_box w d
  have hb := below_alloc w (.cells #[.int .i64 d.k, .string (strL d.t), .int .i64 d.v, .int .i64 d.ln, .int .i64 d.cn] 36)
  obtain ⟨w1, hw1⟩ : ∃ w1, w.alloc (.cells #[.int .i64 d.k, .string (strL d.t), .int .i64 d.v, .int .i64 d.ln, .int .i64 d.cn] 36) = w1 := ⟨_, rfl⟩
  obtain ⟨q, eq⟩ : ∃ q, w.heap.size = q := ⟨_, rfl⟩
  rw [hw1] at c0 hbx hb
  rw [eq] at hbx
  have x0 := hbx.c0
  have x1 := hbx.c1
  have HB := Lib.hid hb
  have W1 := Lib.hid hw1
  have EQ := Lib.hid eq
  have hstr : decide ((strL d.t).toList = (strL t).toList) = decide (d.t = t) := by rw [strL_toList, strL_toList]
  obtain ⟨bs, hbs⟩ : ∃ b, decide (d.t = t) = b := ⟨_, rfl⟩
  have hT : takeB t d = ((decide (d.k = 1) || decide (d.k = 4)) && bs) := by unfold takeB; rw [hbs]
  rw [hT]
  have HBS := Lib.hid hbs
  have HSTR := Lib.hid hstr
  clear hw1 eq hbx hb h hlt hT hbs hstr
  by_cases h1 : d.k = 1
  · have e1 : (((d.k : Nat) : Int) == 1) = true := by simp; omega
    have H1 := Lib.hid h1
    clear h1
    go_enter Try.func45, Try.ntmps45
    go_upto_region 1 with fail
    rw [W1.out, EQ.out]
    go_wp2_with fail
    all_goals
      go_ret
      refine ⟨ret_bool ?_, HB.out⟩
      rw [H1.out, strL_toList, strL_toList, ← HBS.out, Bool.eq_iff_iff]
      simp
  · by_cases h4 : d.k = 4
    · have e1 : (((d.k : Nat) : Int) == 1) = false := by simp; omega
      have e4 : (((d.k : Nat) : Int) == 4) = true := by simp; omega
      have H4 := Lib.hid h4
      clear h1 h4
      go_enter Try.func45, Try.ntmps45
      go_upto_region 1 with fail
      rw [W1.out, EQ.out]
      go_wp2_with fail
      all_goals
        go_ret
        refine ⟨ret_bool ?_, HB.out⟩
        rw [H4.out, strL_toList, strL_toList, ← HBS.out, Bool.eq_iff_iff]
        simp
    · have e1 : (((d.k : Nat) : Int) == 1) = false := by simp; omega
      have e4 : (((d.k : Nat) : Int) == 4) = false := by simp; omega
      have H14 := Lib.hid (And.intro h1 h4)
      clear h1 h4
      go_enter Try.func45, Try.ntmps45
      go_upto_region 1 with fail
      rw [W1.out, EQ.out]
      go_wp2_with fail
      go_ret
      refine ⟨ret_bool ?_, HB.out⟩
      simp [H14.out.1, H14.out.2]

/-- The token that a call hands back, as a token. -/
def tokD (b : Bool) (D : List TokD) : TokD := match D with | [] => ⟨0, [], 0, 0, 0⟩ | d :: _ => if b then d else ⟨0, [], 0, 0, 0⟩
theorem tokD_agg (b : Bool) (D : List TokD) : tokP b D = (tokD b D).agg := by
  cases D with
  | nil => rfl
  | cons d D => cases b <;> rfl

set_option maxRecDepth 100000 in
set_option maxHeartbeats 1600000 in
theorem rd_next (S : Nat → Prop) (p : Nat) (E : Nat × Nat) (D : List TokD) (w : World) (h : Reads S p E D w) (hE : 1 ≤ E.1) (hSp : S p) (hSM : ∀ i, w.heap.size ≤ i → S i) :
    Calls Try.prog 19 #[.pointer (some ⟨p, 0, none⟩)] w fun e w' => e = .returned (.tuple #[(tokD true D).agg, .int .i64 (codeP true D)]) ∧ Reads S p E (leftP true D) w' ∧ Rest (fun i => i = p) w w' := by
  have hal := below_alloc w (.cells #[.int .i64 0, .string ⟨#[]⟩, .int .i64 0, .int .i64 0, .int .i64 0] 36)
  have hbx := tbox_new w (.int .i64 0) (.string ⟨#[]⟩) (.int .i64 0) (.int .i64 0) (.int .i64 0)
  have hp := h.lt
  have hpass := rd_pass S p E D _ 43 #[] true Try.ent43 (fun d D' _ wx _ => clo43 d wx) (h.below hal) hE hSp
  rw [tokD_agg] at hpass
  obtain ⟨w1, hw1⟩ : ∃ w1, w.alloc (.cells #[.int .i64 0, .string ⟨#[]⟩, .int .i64 0, .int .i64 0, .int .i64 0] 36) = w1 := ⟨_, rfl⟩
  obtain ⟨b, eb⟩ : ∃ b, w.heap.size = b := ⟨_, rfl⟩
  rw [hw1] at hal hbx hpass
  rw [eb] at hbx hp
  have HN := Lib.hid hpass
  have H0 := Lib.hid h
  have SM := Lib.hid hSM
  unfold TokD.agg at HN ⊢
  generalize tokD true D = d at HN ⊢
  generalize codeP true D = cd at HN ⊢
  generalize leftP true D = LD at HN ⊢
  have HW := Lib.hid hw1
  have EB := Lib.hid eb
  have HP := Lib.hid hp
  have HAL := Lib.hid hal
  have Hx := Lib.hid hbx
  clear hw1 eb hal hbx h hp hpass hSp hSM
  go_enter Try.func19, Try.ntmps19
  go_wp2_with fail
  rw [HW.out, EB.out]
  refine HN.out.mono ?_
  rintro e w2 ⟨rfl, hrd, hr2⟩
  have n1 : ¬ b = p := by have := HP.out; omega
  have n2 : ¬ p = b := by have := HP.out; omega
  have Hx := Lib.hid (Hx.out.rest hr2 n1)
  have RD := Lib.hid hrd
  have HR := Lib.hid ((Rest.below (S := fun i => i = p) HAL.out).trans hr2 (fun _ _ e => e))
  clear hrd hr2
  have xc0 := Hx.out.c0
  have xc1 := Hx.out.c1
  have xc2 := Hx.out.c2
  have xc3 := Hx.out.c3
  have xc4 := Hx.out.c4
  have xf0 := Hx.out.fr 0
  have xf1 := Hx.out.fr 1
  have xf2 := Hx.out.fr 2
  have xf3 := Hx.out.fr 3
  have xf4 := Hx.out.fr 4
  go_wp2_with fail
  obtain ⟨hs1, hs2⟩ := set5 Hx.out (.int .i64 d.k) (.string (strL d.t)) (.int .i64 d.v) (.int .i64 d.ln) (.int .i64 d.cn)
  generalize (((((w2.setCell ⟨b, 0, none⟩ (.int .i64 d.k)).setCell ⟨b, 1, none⟩ (.string (strL d.t))).setCell ⟨b, 2, none⟩ (.int .i64 d.v)).setCell ⟨b, 3, none⟩ (.int .i64 d.ln)).setCell ⟨b, 4, none⟩ (.int .i64 d.cn)) = w5 at hs1 hs2 ⊢
  have e0 := hs1.c0
  have e1 := hs1.c1
  have e2 := hs1.c2
  have e3 := hs1.c3
  have e4 := hs1.c4
  have hr5 := HR.out.trans hs2 (fun i hi e => by have := EB.out; omega)
  have HR5 := Lib.hid hr5
  have HS2 := Lib.hid hs2
  clear hs1 hs2 hr5
  refine bodyPost_ret (by simp [results, Try.results19, go_sem, *]; try rfl) rfl ?_
  refine ⟨rfl, ?_, HR5.out⟩
  obtain ⟨A, c, hR, hS⟩ := RD.out
  exact ⟨A, c, hR.rest HS2.out n2, hS.rest HS2.out (fun i _ e => by rw [e]; exact SM.out b (by have := EB.out; omega))⟩

set_option maxRecDepth 100000 in
set_option maxHeartbeats 1600000 in
theorem rd_take (S : Nat → Prop) (p : Nat) (E : Nat × Nat) (t : List UInt8) (bT : Bool) (D : List TokD) (hbT : ∀ d D', D = d :: D' → takeB t d = bT) (w : World) (h : Reads S p E D w) (hE : 1 ≤ E.1) (hSp : S p) :
    Calls Try.prog 21 #[.pointer (some ⟨p, 0, none⟩), .string (strL t)] w fun e w' => e = .returned (.int .i64 (codeP bT D)) ∧ Reads S p E (leftP bT D) w' ∧ Rest (fun i => i = p) w w' := by
  have hal := below_alloc w (.cells #[.string (strL t)] 9)
  have hbx := Boxed.new w 9 (.string (strL t))
  have hpass := rd_pass S p E D _ 45 #[.pointer (some ⟨w.heap.size, 0, none⟩)] bT Try.ent45 (fun d D' hd wx hwx => by
    have := clo45 d w.heap.size t wx (boxed_below hbx hwx hbx.lt)
    rw [hbT d D' hd] at this
    exact this) (h.below hal) hE hSp
  rw [tokD_agg] at hpass
  have HN := Lib.hid hpass
  have HAL := Lib.hid hal
  have hmf : ∀ (fn : Fn) (first cap : Array Value) (w : World), (Instr.makeFunc fn first cap).run Try.prog w = .ok (.func fn first cap) w := fun _ _ _ _ => rfl
  unfold TokD.agg at HN
  generalize tokD bT D = d at HN
  generalize codeP bT D = cd at HN ⊢
  generalize leftP bT D = LD at HN ⊢
  clear h hal hbx hpass hSp hE hbT
  go_enter Try.func21, Try.ntmps21
  go_wp2_with fail
  refine HN.out.mono ?_
  rintro e w2 ⟨rfl, hrd, hr2⟩
  have RD := Lib.hid (hrd.below (below_alloc w2 (.cells #[.int .i64 d.k, .string (strL d.t), .int .i64 d.v, .int .i64 d.ln, .int .i64 d.cn] 36)))
  have HR := Lib.hid ((((Rest.below (S := fun i => i = p) HAL.out).trans hr2 (fun _ _ e => e))).alloc (.cells #[.int .i64 d.k, .string (strL d.t), .int .i64 d.v, .int .i64 d.ln, .int .i64 d.cn] 36))
  clear hrd hr2 HN
  go_wp2_with fail
  go_ret
  exact ⟨rfl, RD.out, HR.out⟩

set_option maxRecDepth 100000 in
set_option maxHeartbeats 1600000 in
theorem rd_word (S : Nat → Prop) (p : Nat) (E : Nat × Nat) (bT : Bool) (D : List TokD) (hbT : ∀ d D', D = d :: D' → decide (d.k = 1) = bT) (w : World) (h : Reads S p E D w) (hE : 1 ≤ E.1) (hSp : S p) :
    Calls Try.prog 22 #[.pointer (some ⟨p, 0, none⟩)] w fun e w' => e = .returned (.tuple #[.string (strL (tokD bT D).t), .int .i64 (codeP bT D)]) ∧ Reads S p E (leftP bT D) w' ∧ Rest (fun i => i = p) w w' := by
  have hpass := rd_pass S p E D w 46 #[] bT Try.ent46 (fun d D' hd wx hwx => by
    have := clo46 d wx
    rw [hbT d D' hd] at this
    exact this) h hE hSp
  rw [tokD_agg] at hpass
  have HN := Lib.hid hpass
  unfold TokD.agg at HN
  generalize tokD bT D = d at HN ⊢
  generalize codeP bT D = cd at HN ⊢
  generalize leftP bT D = LD at HN ⊢
  clear h hpass hSp hE hbT
  go_enter Try.func22, Try.ntmps22
  go_wp2_with fail
  refine HN.out.mono ?_
  rintro e w2 ⟨rfl, hrd, hr2⟩
  have RD := Lib.hid (hrd.below (below_alloc w2 (.cells #[.int .i64 d.k, .string (strL d.t), .int .i64 d.v, .int .i64 d.ln, .int .i64 d.cn] 36)))
  have HR := Lib.hid (hr2.alloc (.cells #[.int .i64 d.k, .string (strL d.t), .int .i64 d.v, .int .i64 d.ln, .int .i64 d.cn] 36))
  clear hrd hr2 HN
  go_wp2_with fail
  go_ret2
  exact ⟨rfl, RD.out, HR.out⟩

set_option maxRecDepth 100000 in
set_option maxHeartbeats 1600000 in
theorem rd_number (S : Nat → Prop) (p : Nat) (E : Nat × Nat) (bT : Bool) (D : List TokD) (hbT : ∀ d D', D = d :: D' → decide (d.k = 2) = bT) (w : World) (h : Reads S p E D w) (hE : 1 ≤ E.1) (hSp : S p) :
    Calls Try.prog 23 #[.pointer (some ⟨p, 0, none⟩)] w fun e w' => e = .returned (.tuple #[.int .i64 (tokD bT D).v, .int .i64 (codeP bT D)]) ∧ Reads S p E (leftP bT D) w' ∧ Rest (fun i => i = p) w w' := by
  have hpass := rd_pass S p E D w 47 #[] bT Try.ent47 (fun d D' hd wx hwx => by
    have := clo47 d wx
    rw [hbT d D' hd] at this
    exact this) h hE hSp
  rw [tokD_agg] at hpass
  have HN := Lib.hid hpass
  unfold TokD.agg at HN
  generalize tokD bT D = d at HN ⊢
  generalize codeP bT D = cd at HN ⊢
  generalize leftP bT D = LD at HN ⊢
  clear h hpass hSp hE hbT
  go_enter Try.func23, Try.ntmps23
  go_wp2_with fail
  refine HN.out.mono ?_
  rintro e w2 ⟨rfl, hrd, hr2⟩
  have RD := Lib.hid (hrd.below (below_alloc w2 (.cells #[.int .i64 d.k, .string (strL d.t), .int .i64 d.v, .int .i64 d.ln, .int .i64 d.cn] 36)))
  have HR := Lib.hid (hr2.alloc (.cells #[.int .i64 d.k, .string (strL d.t), .int .i64 d.v, .int .i64 d.ln, .int .i64 d.cn] 36))
  clear hrd hr2 HN
  go_wp2_with fail
  go_ret2
  exact ⟨rfl, RD.out, HR.out⟩

/-- The place of the next token. -/
def placeP (E : Nat × Nat) (D : List TokD) : Nat × Nat := match D with | [] => E | d :: _ => (d.ln, d.cn)

set_option maxRecDepth 100000 in
set_option maxHeartbeats 1600000 in
theorem rd_place (S : Nat → Prop) (p : Nat) (E : Nat × Nat) (D : List TokD) (w : World) (h : Reads S p E D w) (hE : 1 ≤ E.1) :
    Calls Try.prog 24 #[.pointer (some ⟨p, 0, none⟩)] w fun e w' => e = .returned (.agg #[.int .i64 (placeP E D).1, .int .i64 (placeP E D).2]) ∧ Below w.heap.size w w' := by
  obtain ⟨A, c, hR, hS⟩ := h
  have hal := below_alloc w (.cells #[.int .i64 0, .int .i64 0] 25)
  have hbx : (w.alloc (.cells #[.int .i64 0, .int .i64 0] 25)).heap[w.heap.size]? = some (.cells #[.int .i64 0, .int .i64 0] 25 (0, 0)) := heap_alloc_new w _
  have h1 := hR.below hal hR.lt
  have s1 := hS.below hal
  have hp := hR.lt
  obtain ⟨w1, hw1⟩ : ∃ w1, w.alloc (.cells #[.int .i64 0, .int .i64 0] 25) = w1 := ⟨_, rfl⟩
  obtain ⟨b, eb⟩ : ∃ b, w.heap.size = b := ⟨_, rfl⟩
  rw [hw1] at hal hbx h1 s1
  rw [eb] at hbx hp
  have HN := Lib.hid (rd_none p A D.length c E w1 h1 hE)
  have b0 : w1.cell? ⟨b, 0, none⟩ = some (.int .i64 0) := by simp [World.cell?, hbx]
  have b1 : w1.cell? ⟨b, 1, none⟩ = some (.int .i64 0) := by simp [World.cell?, hbx]
  have f0 : w1.frozen? ⟨b, 0, none⟩ = false := by simp [World.frozen?, hbx]
  have f1 : w1.frozen? ⟨b, 1, none⟩ = false := by simp [World.frozen?, hbx]
  have p0 := h1.c0
  have p1 := h1.c1
  have p2 := h1.c2
  have n1 : ¬ p = b := by omega
  have HAL := Lib.hid hal
  have W1 := Lib.hid hw1
  have EB := Lib.hid eb
  have BX := Lib.hid hbx
  have fin : ∀ x y : Nat, w1.heap[b]? = some (.cells #[.int .i64 0, .int .i64 0] 25 (0, 0)) → ((w1.setCell ⟨b, 0, none⟩ (.int .i64 x)).setCell ⟨b, 1, none⟩ (.int .i64 y)).heap[b]? = some (.cells #[.int .i64 x, .int .i64 y] 25 (0, 0)) ∧ Below w.heap.size w ((w1.setCell ⟨b, 0, none⟩ (.int .i64 x)).setCell ⟨b, 1, none⟩ (.int .i64 y)) := fun x y hb =>
    ⟨heap_setCell_same _ b 1 _ 25 (.int .i64 y) (heap_setCell_same w1 b 0 _ 25 (.int .i64 x) hb), (HAL.out.setCell (p := ⟨b, 0, none⟩) (by show w.heap.size ≤ b; have := EB.out; omega) _).setCell (p := ⟨b, 1, none⟩) (by show w.heap.size ≤ b; have := EB.out; omega) _⟩
  have FIN := Lib.hid fin
  cases D with
  | nil =>
    have p0 : w1.cell? ⟨p, 0, none⟩ = some (.slice A 0 c) := p0
    clear hal hw1 eb hbx h1 s1 hR hS hp hE fin
    show Calls _ _ _ _ fun e w' => e = .returned (.agg #[.int .i64 E.1, .int .i64 E.2]) ∧ _
    go_enter Try.func24, Try.ntmps24
    go_wp2_with fail
    rw [W1.out, EB.out]
    go_wp2_with (go_at_call 44; refine HN.out.mono ?_; rintro e w2 ⟨rfl, rfl⟩)
    obtain ⟨hx, hb⟩ := FIN.out E.1 E.2 BX.out
    generalize (w1.setCell ⟨b, 0, none⟩ (.int .i64 E.1)).setCell ⟨b, 1, none⟩ (.int .i64 E.2) = w5 at hx hb ⊢
    have z0 : w5.cell? ⟨b, 0, none⟩ = some (.int .i64 E.1) := by simp [World.cell?, hx]
    have z1 : w5.cell? ⟨b, 1, none⟩ = some (.int .i64 E.2) := by simp [World.cell?, hx]
    have HB := Lib.hid hb
    clear hb hx
    refine bodyPost_ret (by simp [results, Try.results24, go_sem, *]; try rfl) rfl ?_
    exact ⟨rfl, HB.out⟩
  | cons d D =>
    obtain ⟨g, o, rfl, _, hx⟩ := s1.head
    have hlen := s1.1
    have hcap := s1.2.1
    simp only [List.length_cons] at hlen
    have p0 : w1.cell? ⟨p, 0, none⟩ = some (.slice (some ⟨g, o, none⟩) (D.length + 1) c) := p0
    have g3 : w1.cell? ⟨g, o + 3, none⟩ = some (.int .i64 d.ln) := hx 3 _ rfl
    have g4 : w1.cell? ⟨g, o + 4, none⟩ = some (.int .i64 d.cn) := hx 4 _ rfl
    have hne : (((D.length : Nat) : Int) + 1 == 0) = false := by simp; omega
    have hmx : D.length + 1 ≤ 9223372036854775807 := by omega
    clear hal hw1 eb hbx h1 s1 hR hS hp hE fin hx
    show Calls _ _ _ _ fun e w' => e = .returned (.agg #[.int .i64 d.ln, .int .i64 d.cn]) ∧ _
    go_enter Try.func24, Try.ntmps24
    go_wp2_with fail
    rw [W1.out, EB.out]
    go_wp2_with (go_at_call 44; refine HN.out.mono ?_; rintro e w2 ⟨rfl, rfl⟩)
    obtain ⟨hx, hb⟩ := FIN.out d.ln d.cn BX.out
    generalize (w1.setCell ⟨b, 0, none⟩ (.int .i64 d.ln)).setCell ⟨b, 1, none⟩ (.int .i64 d.cn) = w5 at hx hb ⊢
    have z0 : w5.cell? ⟨b, 0, none⟩ = some (.int .i64 d.ln) := by simp [World.cell?, hx]
    have z1 : w5.cell? ⟨b, 1, none⟩ = some (.int .i64 d.cn) := by simp [World.cell?, hx]
    have HB := Lib.hid hb
    clear hb hx
    refine bodyPost_ret (by simp [results, Try.results24, go_sem, *]; try rfl) rfl ?_
    exact ⟨rfl, HB.out⟩

set_option maxRecDepth 100000 in
set_option maxHeartbeats 1600000 in
theorem rd_rest (p : Nat) (A : Option Addr) (n c : Nat) (E : Nat × Nat) (w : World) (h : RdAt w p A n c E) (hE : 1 ≤ E.1) :
    Calls Try.prog 25 #[.pointer (some ⟨p, 0, none⟩)] w fun e w' => e = .returned (.func (.func 54) #[] #[.pointer (some ⟨w.heap.size, 0, none⟩)]) ∧ w.alloc (.cells #[.slice A n c] 23) = w' := by
  have HN := Lib.hid (rd_none p A n c E w h hE)
  have HV := Lib.hid (values_any A n c w)
  have c0 := h.c0
  clear h
  go_enter Try.func25, Try.ntmps25
  go_wp2_with (first | (go_at_call 44; refine HN.out.mono ?_; rintro e w2 ⟨rfl, rfl⟩) | (go_at_call 48; refine HV.out.mono ?_; rintro e w2 ⟨rfl, rfl⟩))
  go_ret
  exact ⟨rfl, rfl⟩
end Go.Proofs.Ytgdjfifnnhfonaa
