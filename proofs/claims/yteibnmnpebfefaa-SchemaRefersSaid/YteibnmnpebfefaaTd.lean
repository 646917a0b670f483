/- The walk of SchemaRefers. Conditions: the fields of the message lie in memory. -/
import Derived.Test.YteibnmnpebfefaaTc
import Derived.Test.YteibnmnpebfefaaKb
import Derived.Sort.CutIn
namespace Go.Proofs.Yteibnmnpebfefaa
open Go.RowKit Go.Shelf
attribute [local go_sem] Oper.semAt_some

theorem equalIn_func_nil {P : Program} (w : World) (d : Nat) (t : TypeId) (f : Fn) (fi ca : Array Value) (h : ∃ ps rs v, P.underlying t = some (.func ps rs v)) :
    (Op.equalIn (d + 1) t (.func f fi ca) .nilFunc).run P w = .ok false w := by
  obtain ⟨ps, rs, v, h⟩ := h
  simp [Op.equalIn, run_underlying h]
theorem eql_func_nil {P : Program} (w : World) (t : TypeId) (f : Fn) (fi ca : Array Value) (h : ∃ ps rs v, P.underlying t = some (.func ps rs v)) :
    (binOp .eql t (.func f fi ca) .nilFunc).run P w = .ok (.bool false) w := by
  simp only [binOp]
  simp [Op.equal, Op.maxDepth, equalIn_func_nil w 9999 t f fi ca h]
theorem eqlSeq (w : World) (f : Fn) (fi ca : Array Value) : (binOp .eql 59 (.func f fi ca) .nilFunc).run Try.prog w = .ok (.bool false) w :=
  eql_func_nil w 59 f fi ca ⟨_, _, _, Try.underlying59⟩

theorem slAt_no {α : Type} {cf : α → List Value} {s c : Nat} {S : Nat → Prop} {W : World} {A : Option Addr} {D : List α} (h : SlAt cf s S W A c D) : SlAt cf s (fun _ => False) W A c D :=
  ⟨h.1, h.2.1, fun i d hd => by
    obtain ⟨g, o, e, _, hx⟩ := h.2.2 i d hd
    exact ⟨g, o, e, fun x => x, hx⟩⟩
theorem fields_no {c : Nat} {S : Nat → Prop} {W : World} {A : Option Addr} {D : List FieldD} (h : FieldsAt S W A c D) : FieldsAt (fun _ => False) W A c D :=
  ⟨slAt_no h.1, fun d hd => ⟨slAt_no (h.2 d hd).1, slAt_no (h.2 d hd).2⟩⟩

/-- The memory of SchemaRefers: the message, the bound, the result. -/
structure RM0 (W : World) (b : Nat) (m : MsgD) (many : Int) : Prop where
  c0 : W.cell? ⟨b, 0, none⟩ = some (.string (strL m.name))
  c1 : W.cell? ⟨b, 1, none⟩ = some (.slice m.fa m.fields.length m.fc)
  mb : Boxed W (b + 1) 3 (.int .i64 many)
  rb : Boxed W (b + 1 + 1) 4 (.bool false)
theorem RM0.rest {S : Nat → Prop} {W W' : World} {b : Nat} {m : MsgD} {many : Int} (h : RM0 W b m many) (hr : Rest S W W') (hs : ∀ k, k ≤ b + 1 + 1 → ¬ S k) : RM0 W' b m many := by
  have hl := h.rb.lt
  have h0 := hr.block b (by omega) (hs b (by omega))
  exact ⟨(World.cell?_of_block (w := W) h0).trans h.c0, (World.cell?_of_block (w := W) h0).trans h.c1, boxed_rest h.mb hr (hs _ (by omega)), boxed_rest h.rb hr (hs _ (by omega))⟩

/-- The memory before the turns: the bound, the result, the texts that are asked for, the sequence. -/
structure RMt (base : Nat) (W : World) (b wb qb : Nat) (many : Int) (N : List (List UInt8)) (A : Option Addr) (c : Nat) (WA : Option Addr) (wc : Nat) : Prop where
  mb : Boxed W (b + 1) 3 (.int .i64 many)
  rb : Boxed W (b + 1 + 1) 4 (.bool false)
  wbx : Boxed W wb 63 (.slice WA N.length wc)
  wsl : SlAt strCells 1 (fun _ => False) W WA wc N
  sq : SeqAt base W qb N A c
theorem RMt.later {base : Nat} {W W' : World} {b wb qb c wc : Nat} {many : Int} {N : List (List UInt8)} {A WA : Option Addr} (h : RMt base W b wb qb many N A c WA wc) (hb : Below W.heap.size W W') : RMt base W' b wb qb many N A c WA wc :=
  ⟨boxed_below h.mb hb h.mb.lt, boxed_below h.rb hb h.rb.lt, boxed_below h.wbx hb h.wbx.lt, h.wsl.rest (Rest.below hb) (fun _ _ e => e), h.sq.below hb⟩

theorem boxed_setO {W : World} {b : Nat} {T : TypeId} {u : Value} (h : Boxed W b T u) (k o : Nat) (v : Value) (hn : b ≠ k) : Boxed (W.setCell ⟨k, o, none⟩ v) b T u := (Below.heap_setCell W ⟨k, o, none⟩ v b hn).trans h
theorem end_two {pn k : Nat} {many : Int} (h : min ((pn : Nat) : Int) (max 1 many) = ((k : Nat) : Int)) : ∃ M : Int, (if (1 : Int) < many then many else 1) = M ∧ (if many < (1 : Int) then 1 else many) = M ∧ (if M < ((pn : Nat) : Int) then M else ((pn : Nat) : Int)) = ((k : Nat) : Int) := by
  refine ⟨max 1 many, ?_, ?_, ?_⟩
  · split <;> omega
  · split <;> omega
  · split <;> omega
/-- Between two texts: how many there were, which turn it is. -/
structure KJ (w0 W : World) (tb nb lr Dd : Nat) (r : Loop) (t : Int) (k : Nat) : Prop where
  bel : Below w0.heap.size w0 W
  kbx : Boxed W nb 3 (.int .i64 ((k : Nat) : Int))
  tbx : Boxed W tb 3 (.int .i64 t)
  rec_ : RecAt W lr Dd r
section
variable {w0 W W' : World} {tb nb lr Dd : Nat} {r : Loop} {t : Int} {k : Nat}
theorem KJ.later (h : KJ w0 W tb nb lr Dd r t k) (hb : Below W.heap.size W W') : KJ w0 W' tb nb lr Dd r t k :=
  ⟨h.bel.trans (hb.mono h.bel.size), boxed_below h.kbx hb h.kbx.lt, boxed_below h.tbx hb h.tbx.lt, h.rec_.below hb (Array.getElem?_eq_some_iff.1 h.rec_.rec_).1 (Array.getElem?_eq_some_iff.1 h.rec_.dfr).1⟩
theorem KJ.put (h : KJ w0 W tb nb lr Dd r t k) (r' : Loop) (h0 : w0.heap.size ≤ lr) (n2 : lr ≠ Dd) (n3 : nb ≠ lr) (n4 : tb ≠ lr) : KJ w0 (W.putObj lr (.loop r')) tb nb lr Dd r' t k :=
  ⟨h.bel.grown (grownBy_putObj' W lr (.loop r')) h.bel.size (fun _ e => by cases e; exact h0), (World.putObj_heap_other n3).trans h.kbx, (World.putObj_heap_other n4).trans h.tbx, h.rec_.put n2 r'⟩
theorem KJ.setK (h : KJ w0 W tb nb lr Dd r t k) (k' : Nat) (h0 : w0.heap.size ≤ nb) (n1 : lr ≠ nb) (n2 : Dd ≠ nb) (n3 : tb ≠ nb) : KJ w0 (W.setCell ⟨nb, 0, none⟩ (.int .i64 ((k' : Nat) : Int))) tb nb lr Dd r t k' :=
  ⟨h.bel.setCell (p := ⟨nb, 0, none⟩) h0 _, Boxed.set _ h.kbx, boxed_setO h.tbx _ _ _ n3, h.rec_.rest (S := fun i => i = nb) ((Rest.refl (fun i => i = nb) W).setCell (S := fun i => i = nb) (p := ⟨nb, 0, none⟩) (fun _ => rfl) _) n1 n2⟩
/-- Behind the texts. -/
def KG (w0 : World) (tb nb Dd : Nat) (t : Int) (k : Nat) (W : World) : Prop := Below w0.heap.size w0 W ∧ Boxed W nb 3 (.int .i64 ((k : Nat) : Int)) ∧ Boxed W tb 3 (.int .i64 t) ∧ W.heap[Dd]? = some (.deferred (some []))
theorem KJ.go (h : KJ w0 W tb nb lr Dd r t k) (o : Obj) (h0 : w0.heap.size ≤ lr) (n2 : lr ≠ Dd) (n3 : nb ≠ lr) (n4 : tb ≠ lr) : KG w0 tb nb Dd t k (W.putObj lr o) :=
  ⟨h.bel.grown (grownBy_putObj' W lr o) h.bel.size (fun _ e => by cases e; exact h0), (World.putObj_heap_other n3).trans h.kbx, (World.putObj_heap_other n4).trans h.tbx, (World.putObj_heap_other (Ne.symm n2)).trans h.rec_.dfr⟩
end

set_option maxRecDepth 100000 in
set_option maxHeartbeats 12800000 in
theorem refersLaw_walk (m : MsgD) (many : Int) (S : Nat → Prop) (w : World) (hD : MsgOk S w m) :
    Calls Try.prog 5 #[.agg #[.string (strL m.name), .slice m.fa m.fields.length m.fc], .int .i64 many] w fun e w' => e = .returned (.bool true) ∧ Below w.heap.size w w' := by
  obtain ⟨wa, hwa⟩ : ∃ wa, w.alloc (.cells #[.string (strL m.name), .slice m.fa m.fields.length m.fc] 50) = wa := ⟨_, rfl⟩
  obtain ⟨wb, hwb⟩ : ∃ wb, wa.alloc (.cells #[.int .i64 many] 3) = wb := ⟨_, rfl⟩
  obtain ⟨w1, hw1⟩ : ∃ w1, wb.alloc (.cells #[.bool false] 4) = w1 := ⟨_, rfl⟩
  have hw : ((w.alloc (.cells #[.string (strL m.name), .slice m.fa m.fields.length m.fc] 50)).alloc (.cells #[.int .i64 many] 3)).alloc (.cells #[.bool false] 4) = w1 := by rw [hwa, hwb, hw1]
  have ba : Below w.heap.size w wa := by rw [← hwa]; exact below_alloc _ _
  have bb : Below wa.heap.size wa wb := by rw [← hwb]; exact below_alloc _ _
  have b1 : Below wb.heap.size wb w1 := by rw [← hw1]; exact below_alloc _ _
  have sa : wa.heap.size = w.heap.size + 1 := by rw [← hwa]; simp
  have sb : wb.heap.size = w.heap.size + 1 + 1 := by rw [← hwb]; simp; omega
  have s1 : w1.heap.size = w.heap.size + 3 := by rw [← hw1]; simp; omega
  have hb1 : Below w.heap.size w w1 := (ba.trans (bb.mono (by omega))).trans (b1.mono (by omega))
  have hxm : w1.heap[w.heap.size]? = some (.cells #[.string (strL m.name), .slice m.fa m.fields.length m.fc] 50 (0, 0)) := ((b1.block _ (by omega)).trans (bb.block _ (by omega))).trans (by rw [← hwa]; exact heap_alloc_new w _)
  have hxk : Boxed w1 (w.heap.size + 1) 3 (.int .i64 many) := by
    refine boxed_below ?_ b1 (by omega)
    rw [← hwb, ← sa]
    exact Boxed.new wa _ _
  have hxn : Boxed w1 (w.heap.size + 1 + 1) 4 (.bool false) := by rw [← hw1, ← sb]; exact Boxed.new wb _ _
  have hm0 : RM0 w1 w.heap.size m many := ⟨by simp [World.cell?, hxm], by simp [World.cell?, hxm], hxk, hxn⟩
  obtain ⟨b, eb⟩ : ∃ b, w.heap.size = b := ⟨_, rfl⟩
  rw [eb] at hm0 s1
  have HW := Lib.hid hw
  have EB := Lib.hid eb
  have HB1 := Lib.hid hb1
  have S1 := Lib.hid s1
  have M1 := Lib.hid hm0
  have HD := Lib.hid (FieldsAt.old hD (Nat.le_refl _))
  have HN := Lib.hid (fields_no hD)
  have HKN : ∀ wx, Hid (Calls Try.prog 9 #[] wx fun e w' => e = .returned (.bool true) ∧ Below wx.heap.size wx w') := fun wx => Lib.hid (known_any wx)
  have y0 := hm0.c0
  have y1 := hm0.c1
  clear hD hwa hwb hw1 hw ba bb b1 sa sb s1 hb1 hxm hxk hxn hm0 eb
  refine (callsIn_wide (n := 6)).1 ?_
  refine callsIn_of_wp_marks Try.func5 rfl trivial ?_ rfl
  simp only [Try.ntmps5, List.size_toArray, List.length_cons, List.length_nil, Nat.reduceAdd, Nat.reduceSub, Array.replicate_succ, Array.replicate_zero, List.push_toArray, List.append_toArray, List.nil_append, List.cons_append]
  refine wpIn_wide.2 ?_
  go_upto_region 1 with fail
  rw [HW.out, EB.out]
  go_wp2_with fail
  have hal2 := below_alloc w1 (.cells #[.string (strL m.name), .slice m.fa m.fields.length m.fc] 50)
  have hxa := heap_alloc_new w1 (.cells #[.string (strL m.name), .slice m.fa m.fields.length m.fc] 50)
  obtain ⟨g2, eg2⟩ : ∃ g, w1.heap.size = g := ⟨_, rfl⟩
  obtain ⟨w2, hw2⟩ : ∃ w2, w1.alloc (.cells #[.string (strL m.name), .slice m.fa m.fields.length m.fc] 50) = w2 := ⟨_, rfl⟩
  rw [hw2] at hal2 hxa ⊢
  rw [eg2] at hxa ⊢
  have hb02 := HB1.out.trans (hal2.mono HB1.out.size)
  have hfi := fits_any [] [] (some ⟨g2, 0, none⟩) 1 [m] (fun _ => False) w2 (msgs_one hxa (fun x => x) (FieldsAt.rest HN.out (Rest.below hb02) (fun _ _ e => e)))
  have M2 := Lib.hid (M1.out.rest (S := fun _ => False) (Rest.below hal2) (fun _ _ e => e))
  have HB2 := Lib.hid hb02
  have S12 := Lib.hid (show b + 3 ≤ w2.heap.size by have := S1.out; have := hal2.size; omega)
  clear y0 y1 hal2 hxa hw2 eg2 hb02
  refine hfi.mono ?_
  rintro e w3 ⟨fb, rfl, hfit, hb3⟩
  have HB3 := Lib.hid (HB2.out.trans (hb3.mono HB2.out.size))
  have M3 := Lib.hid (M2.out.rest (S := fun _ => False) (Rest.below hb3) (fun _ _ e => e))
  have S13 := Lib.hid (Nat.le_trans S12.out hb3.size)
  have HFT := Lib.hid hfit
  clear hfit hb3 hfi
  cases fb with
  | false =>
    go_wp2_with fail
    refine ((HKN _).out).mono ?_
    rintro e w4 ⟨rfl, hb4⟩
    have M4 := Lib.hid (M3.out.rest (S := fun _ => False) (Rest.below hb4) (fun _ _ e => e))
    have HB4 := Lib.hid (HB3.out.trans (hb4.mono HB3.out.size))
    have cr := M4.out.rb.cell
    have cf := M4.out.rb.frozen
    clear hb4
    go_wp2_with fail
    have h9 := Boxed.set (.bool true) M4.out.rb
    have hbw := HB4.out.setCell (p := ⟨b + 1 + 1, 0, none⟩) (by show w.heap.size ≤ b + 1 + 1; have := EB.out; omega) (.bool true)
    exact ⟨.bool true, by simp [results, Try.results5, go_sem, h9.cell], rfl, hbw⟩
  | true =>
    have hfp := HFT.out rfl (fun i d hd => by
      have := (List.getElem?_eq_some_iff.1 hd).1
      simp at this
      exact .inl this)
    have hok : ∀ f ∈ m.fields, okF f := fun f hf => hfp.2.2 m (by simp) f hf
    have hn4 : m.fields.length ≤ 400 := by have := hfp.2.1; simpa [sumF] using this
    have HOK := Lib.hid hok
    have HN4 := Lib.hid hn4
    have y0 := M3.out.c0
    have y1 := M3.out.c1
    clear hfp hok hn4
    have hal4 := below_alloc w3 (.cells #[.string (strL m.name), .slice m.fa m.fields.length m.fc] 50)
    have hxa := heap_alloc_new w3 (.cells #[.string (strL m.name), .slice m.fa m.fields.length m.fc] 50)
    obtain ⟨g4, eg4⟩ : ∃ g, w3.heap.size = g := ⟨_, rfl⟩
    obtain ⟨w4, hw4⟩ : ∃ w4, w3.alloc (.cells #[.string (strL m.name), .slice m.fa m.fields.length m.fc] 50) = w4 := ⟨_, rfl⟩
    rw [hw4] at hal4 hxa
    rw [eg4] at hxa
    have hb04 := HB3.out.trans (hal4.mono HB3.out.size)
    have hcp := copyDef [] [] (some ⟨g4, 0, none⟩) 1 [m] (fun _ => False) w4 (msgs_one hxa (fun x => x) (FieldsAt.rest HN.out (Rest.below hb04) (fun _ _ e => e))) (by simp) (fun x hx => by
      simp only [List.mem_singleton] at hx
      subst hx
      exact ⟨by have := HN4.out; omega, fun d hd => ⟨by have := (HOK.out d hd).2; omega, by have := (HOK.out d hd).1; omega⟩⟩)
    have M4 := Lib.hid (M3.out.rest (S := fun _ => False) (Rest.below hal4) (fun _ _ e => e))
    have HB4 := Lib.hid hb04
    have S14 := Lib.hid (Nat.le_trans S13.out hal4.size)
    have HCP := Lib.hid hcp
    have W4 := Lib.hid hw4
    have EG4 := Lib.hid eg4
    clear hal4 hxa hw4 eg4 hb04 hcp
    go_wp2_with fail
    rw [W4.out, EG4.out]
    refine HCP.out.mono ?_
    rintro e w5 ⟨A', D', rfl, hcd, hb5⟩
    obtain ⟨m', rfl⟩ : ∃ m', D' = [m'] := by
      have hl := hcd.len
      match D', hl with
      | [x], _ => exact ⟨x, rfl⟩
    have hcm := hcd.cop 0 m m' rfl rfl
    obtain ⟨ga, oa, ea, _, hxa⟩ := hcd.ok.1.2.2 0 m' rfl
    subst ea
    have a0 : w5.cell? ⟨ga, oa, none⟩ = some (.string (strL m'.name)) := by have := hxa 0 _ rfl; simpa using this
    have a1 : w5.cell? ⟨ga, oa + 1, none⟩ = some (.slice m'.fa m'.fields.length m'.fc) := by have := hxa 1 _ rfl; simpa using this
    have CM5 := Lib.hid hcm
    have SH5 := Lib.hid (Shp.of_cop hcm (Nat.le_refl _))
    have A05 := Lib.hid a0
    have A15 := Lib.hid a1
    have M5 := Lib.hid (M4.out.rest (S := fun _ => False) (Rest.below hb5) (fun _ _ e => e))
    have HB5 := Lib.hid (HB4.out.trans (hb5.mono HB4.out.size))
    have S15 := Lib.hid (Nat.le_trans S14.out hb5.size)
    have S45 := Lib.hid hb5.size
    clear hcd hb5 hcm hxa a0 a1 HCP y0 y1
    go_upto_region 4 with fail
    have hal6 := below_alloc w5 (.cells #[.string (strL []), .slice (some ⟨ga, oa, none⟩) 1 1, .string (strL [])] 44)
    have hx6 := heap_alloc_new w5 (.cells #[.string (strL []), .slice (some ⟨ga, oa, none⟩) 1 1, .string (strL [])] 44)
    obtain ⟨db, edb⟩ : ∃ g, w5.heap.size = g := ⟨_, rfl⟩
    obtain ⟨w6, hw6⟩ : ∃ w6, w5.alloc (.cells #[.string (strL []), .slice (some ⟨ga, oa, none⟩) 1 1, .string (strL [])] 44) = w6 := ⟨_, rfl⟩
    rw [hw6] at hal6 hx6 ⊢
    rw [edb] at hx6 ⊢
    have d1 : w6.cell? ⟨db, 1, none⟩ = some (.slice (some ⟨ga, oa, none⟩) 1 1) := by simp [World.cell?, hx6]
    have a0 := (hal6.cell (p := ⟨ga, oa, none⟩) (World.block_lt_of_cell? _ _ A05.out)).trans A05.out
    have a1 := (hal6.cell (p := ⟨ga, oa + 1, none⟩) (World.block_lt_of_cell? _ _ A15.out)).trans A15.out
    have SH6 := Lib.hid (SH5.out.later hal6)
    have CM6 := Lib.hid (CM5.out.below hal6)
    have M6 := Lib.hid (M5.out.rest (S := fun _ => False) (Rest.below hal6) (fun _ _ e => e))
    have HB6 := Lib.hid (HB5.out.trans (hal6.mono HB5.out.size))
    have S16 := Lib.hid (Nat.le_trans S15.out hal6.size)
    have S46 := Lib.hid (Nat.le_trans S45.out hal6.size)
    have hal7 := below_alloc w6 (.cells #[.string (strL m'.name), .slice m'.fa m'.fields.length m'.fc] 50)
    have hx7 := heap_alloc_new w6 (.cells #[.string (strL m'.name), .slice m'.fa m'.fields.length m'.fc] 50)
    obtain ⟨ob, eob⟩ : ∃ g, w6.heap.size = g := ⟨_, rfl⟩
    obtain ⟨w7, hw7⟩ : ∃ w7, w6.alloc (.cells #[.string (strL m'.name), .slice m'.fa m'.fields.length m'.fc] 50) = w7 := ⟨_, rfl⟩
    rw [hw7] at hal7 hx7
    rw [eob] at hx7
    have o0 : w7.cell? ⟨ob, 0, none⟩ = some (.string (strL m'.name)) := by simp [World.cell?, hx7]
    have o1 : w7.cell? ⟨ob, 1, none⟩ = some (.slice m'.fa m'.fields.length m'.fc) := by simp [World.cell?, hx7]
    have SH7 := Lib.hid (SH6.out.later hal7)
    have CM7 := Lib.hid (CM6.out.below hal7)
    have M7 := Lib.hid (M6.out.rest (S := fun _ => False) (Rest.below hal7) (fun _ _ e => e))
    have HB7 := Lib.hid (HB6.out.trans (hal7.mono HB6.out.size))
    have S17 := Lib.hid (Nat.le_trans S16.out hal7.size)
    have S47 := Lib.hid (Nat.le_trans S46.out hal7.size)
    have O7 := Lib.hid hx7
    have W7 := Lib.hid hw7
    have EOB := Lib.hid eob
    have OB4 := Lib.hid (show w5.heap.size ≤ ob by have := hal6.size; omega)
    clear hal6 hx6 edb hw6 hal7 hx7 eob hw7
    go_upto_region 7 with fail
    rw [W7.out, EOB.out]
    clear d1 a0 a1
    have hrf := refers_any m'.name m'.fa m'.fc m'.fields (fun k => k < w4.heap.size) w7 CM7.out.ok.1 (by
      rw [cop_refs CM7.out]
      have := targs_len m.fields HOK.out
      have := HN4.out
      omega) (fun d hd wx hb => targets_all d (fun k => k < w4.heap.size) wx ((CM7.out.ok.2 d hd).rest (Rest.below (S := fun _ => False) hb) (fun _ _ e => e.elim)).2 (by have := (cop_few CM7.out HOK.out d hd).1; omega))
    unfold refsN at hrf
    rw [cop_refs CM7.out] at hrf
    go_wp2_with fail
    refine hrf.mono ?_
    rintro e w8 ⟨qb, A', c', rfl, hb8, hseq⟩
    obtain ⟨lo, elo⟩ : ∃ lo, w4.heap.size = lo := ⟨_, rfl⟩
    obtain ⟨hi, ehi⟩ : ∃ hi, w5.heap.size = hi := ⟨_, rfl⟩
    have SH8 := Lib.hid (SH7.out.later hb8)
    have M8 := Lib.hid (M7.out.rest (S := fun _ => False) (Rest.below hb8) (fun _ _ e => e))
    have HB8 := Lib.hid (HB7.out.trans (hb8.mono HB7.out.size))
    have O8 := Lib.hid ((hb8.block ob (Array.getElem?_eq_some_iff.1 O7.out).1).trans O7.out)
    have HLO := Lib.hid (show b + 1 + 1 < lo by have := S14.out; omega)
    have HLW := Lib.hid (show w.heap.size ≤ lo by have := HB4.out.size; omega)
    have OBH := Lib.hid (show hi ≤ ob by have := OB4.out; omega)
    have OBQ := Lib.hid (show hi ≤ w7.heap.size by have := OBH.out; have := (Array.getElem?_eq_some_iff.1 O7.out).1; omega)
    have SQ8 := Lib.hid hseq
    rw [elo, ehi] at SH8
    have LEN := Lib.hid CM7.out.len
    have HOC := Lib.hid (cop_few CM7.out HOK.out)
    have hq := eqlSeq
    clear hb8 hseq hrf o0 o1 elo ehi SH5 SH6 SH7 CM5 CM6 CM7 M1 M2 M3 M4 M5 M6 M7 HB1 HB2 HB3 HB4 HB5 HB6 HB7 S12 S13 S14 S15 S16 S17 S45 S46 S47 O7 W4 W7 A05 A15 OB4 EOB HFT HW
    have o1 : w8.cell? ⟨ob, 1, none⟩ = some (.slice m'.fa m'.fields.length m'.fc) := by simp [World.cell?, O8.out]
    have hn64 : m'.fields.length ≤ 9223372036854775807 := by have := LEN.out; have := HN4.out; omega
    go_wp2_with fail
    clear hq o1
    go_loopw [8] (fun x8 wr => ∃ i : Nat, i ≤ m'.fields.length ∧ x8 = .int .i64 ((i : Nat) : Int) ∧ Rest (fun k => lo ≤ k ∧ k < hi) w8 wr ∧ Shp lo hi wr m'.fa m'.fields) (fun x8 _ => m'.fields.length - (intOf x8).toNat)
    case atStart => exact ⟨0, Nat.zero_le _, rfl, Rest.refl _ _, SH8.out⟩
    case round =>
      obtain ⟨i, hi2, rfl, hr, hsh⟩ := hrel
      have HR := Lib.hid hr
      have HS := Lib.hid hsh
      clear hr hsh
      have o1 : wr.cell? ⟨ob, 1, none⟩ = some (.slice m'.fa m'.fields.length m'.fc) := by
        have := (HR.out.block ob (Array.getElem?_eq_some_iff.1 O8.out).1 (by have := OBH.out; omega)).trans O8.out
        simp [World.cell?, this]
      by_cases hlt : i < m'.fields.length
      · obtain ⟨d, hd⟩ : ∃ d, m'.fields[i]? = some d := ⟨_, List.getElem?_eq_getElem hlt⟩
        obtain ⟨g, o, efa, ⟨hl1, hl2⟩, hp, hc, _⟩ := HS.out i d hd
        have HD2 := Lib.hid hd
        have EFA := Lib.hid efa
        rw [efa] at o1
        have pf := hp.fr
        obtain ⟨pv, pc⟩ := hp.ex
        have hs2 := HS.out
        rw [efa] at hs2
        have hs3 := hs2.setOf i (.string ⟨#[120]⟩)
        have hr3 := HR.out.setCell (p := ⟨g, o + i * 15 + 9, none⟩) (fun _ => ⟨hl1, hl2⟩) (.string ⟨#[120]⟩)
        obtain ⟨wx, hwx⟩ : ∃ wx, wr.setCell ⟨g, o + i * 15 + 9, none⟩ (.string ⟨#[120]⟩) = wx := ⟨_, rfl⟩
        rw [hwx] at hs3 hr3
        have HWX := Lib.hid hwx
        have HS3 := Lib.hid hs3
        have HR3 := Lib.hid hr3
        clear hd efa hp hc hs2 hs3 hr3 hwx hl1 hl2
        go_upto_region 14 with fail
        rw [HWX.out]
        clear o1 pf pc HWX HR HS
        go_wp2_with fail
        go_loopw [9] (fun x9 wy => ∃ k : Nat, k ≤ d.cases.length ∧ x9 = .int .i64 ((k : Nat) : Int) ∧ Rest (fun k => lo ≤ k ∧ k < hi) w8 wy ∧ Shp lo hi wy (some ⟨g, o, none⟩) m'.fields) (fun x9 _ => d.cases.length - (intOf x9).toNat)
        case atStart => exact ⟨0, Nat.zero_le _, rfl, HR3.out, HS3.out⟩
        case round =>
          obtain ⟨k, hk2, rfl, hr, hsh⟩ := hrel
          have HR := Lib.hid hr
          have HS := Lib.hid hsh
          clear hr hsh HR3 HS3
          have o1 : wr.cell? ⟨ob, 1, none⟩ = some (.slice (some ⟨g, o, none⟩) m'.fields.length m'.fc) := by
            have := (HR.out.block ob (Array.getElem?_eq_some_iff.1 O8.out).1 (by have := OBH.out; omega)).trans O8.out
            rw [EFA.out] at this
            simp [World.cell?, this]
          obtain ⟨g1, o1', e1, _, _, hc, hcs⟩ := HS.out i d HD2.out
          simp only [Option.some.injEq, Addr.mk.injEq, and_true] at e1
          obtain ⟨rfl, rfl⟩ := e1
          have hcl := (HOC.out d (List.mem_of_getElem? HD2.out)).1
          by_cases hkl : k < d.cases.length
          · obtain ⟨cc, hcc⟩ : ∃ cc, d.cases[k]? = some cc := ⟨_, List.getElem?_eq_getElem hkl⟩
            obtain ⟨g2, o2, eca, ⟨hl1, hl2⟩, hne, hp⟩ := hcs k cc hcc
            rw [eca] at hc
            have pf := hp.fr
            obtain ⟨pv, pc⟩ := hp.ex
            have hs3 := HS.out.setCase hne (o2 + k * 3 + 2) (.string ⟨#[121]⟩)
            have hr3 := HR.out.setCell (p := ⟨g2, o2 + k * 3 + 2, none⟩) (fun _ => ⟨hl1, hl2⟩) (.string ⟨#[121]⟩)
            obtain ⟨wx, hwx⟩ : ∃ wx, wr.setCell ⟨g2, o2 + k * 3 + 2, none⟩ (.string ⟨#[121]⟩) = wx := ⟨_, rfl⟩
            rw [hwx] at hs3 hr3
            have HWX := Lib.hid hwx
            have HS3 := Lib.hid hs3
            have HR3 := Lib.hid hr3
            clear hcc eca hp hs3 hr3 hwx hl1 hl2 hne hcs
            go_wp2_with fail
            rw [HWX.out]
            go_roundw
            case rel => exact ⟨k + 1, by omega, by go_num, HR3.out, HS3.out⟩
            case measure => simp [intOf]; omega
          · obtain rfl : k = d.cases.length := by omega
            clear hcs
            go_wp2_with fail
            go_roundw
            case rel => exact ⟨i + 1, by omega, by go_num, HR.out, by rw [EFA.out]; exact HS.out⟩
            case measure => simp [intOf]; omega
      · obtain rfl : i = m'.fields.length := by omega
        have M9 := Lib.hid (M8.out.rest HR.out (fun k hk e => by have := HLO.out; omega))
        have HB9 := Lib.hid (HB8.out.trans (HR.out.toBelow w.heap.size HB8.out.size (fun k hk e => by have e2 : lo ≤ k ∧ k < hi := e; have := HLW.out; omega)))
        have SQ9 : Hid (SeqAt w7.heap.size wr qb (addAll [] (m.fields.flatMap targB)) A' c') := Lib.hid ⟨SQ8.out.ge, boxed_rest SQ8.out.bx HR.out (fun e => by have e2 : lo ≤ qb ∧ qb < hi := e; have := OBQ.out; have := SQ8.out.ge; omega), SQ8.out.sl.rest HR.out (fun k hk e => by have e2 : lo ≤ k ∧ k < hi := e; have := OBQ.out; show k < w7.heap.size; omega)⟩
        have HDR := Lib.hid (refRefers_any m.name m.fa m.fc m.fields _ wr (FieldsAt.rest HD.out (Rest.below HB9.out) (fun _ _ e => e)) (by
          have := targs_len m.fields HOK.out
          have := HN4.out
          omega))
        have y0 := M9.out.c0
        have y1 := M9.out.c1
        clear M8 HB8 SQ8 SH8 O8 HR HS
        obtain ⟨w9, hw9⟩ : ∃ w9 : World, w9 = wr := ⟨_, rfl⟩
        rw [← hw9] at M9 HB9 SQ9 HDR y0 y1 o1 ⊢
        clear hw9
        unfold refsN at HDR
        obtain ⟨N, hN⟩ : ∃ N, addAll [] (m.fields.flatMap targB) = N := ⟨_, rfl⟩
        have hNl : N.length ≤ 9223372036854775807 := by
          have h1 := addAll_len (m.fields.flatMap targB) []
          have h2 := targs_len m.fields HOK.out
          have h3 := HN4.out
          rw [hN, List.length_nil, Nat.zero_add] at h1
          omega
        rw [hN] at SQ9 HDR
        have HNL := Lib.hid hNl
        clear hN hNl
        go_wp2_with fail
        refine HDR.out.mono ?_
        rintro e w10 ⟨WA, wc, rfl, hrow, hb10⟩
        have hal11 := below_alloc w10 (.cells #[.slice WA N.length wc] 63)
        have hx11 := Boxed.new w10 63 (.slice WA N.length wc)
        obtain ⟨wb, ewb⟩ : ∃ g, w10.heap.size = g := ⟨_, rfl⟩
        obtain ⟨w11, hw11⟩ : ∃ w11, w10.alloc (.cells #[.slice WA N.length wc] 63) = w11 := ⟨_, rfl⟩
        rw [hw11] at hal11 hx11
        rw [ewb] at hx11
        have hb911 := hb10.trans (hal11.mono hb10.size)
        have RT := Lib.hid (show RMt w7.heap.size w11 b wb qb many N A' c' WA wc from ⟨boxed_below M9.out.mb hb911 M9.out.mb.lt, boxed_below M9.out.rb hb911 M9.out.rb.lt, hx11, (slAt_no (slAt_txt hrow)).rest (Rest.below hal11) (fun _ _ e => e), SQ9.out.below hb911⟩)
        have HB11 := Lib.hid (HB9.out.trans (hb911.mono HB9.out.size))
        have W11 := Lib.hid hw11
        have EWB := Lib.hid ewb
        clear hal11 hx11 ewb hw11 hb911 hrow hb10 M9 HB9 SQ9 HDR y0 y1 o1
        go_upto_region 19 with fail
        rw [W11.out, EWB.out]
        go_wp2_with fail
        have hal12 := below_alloc w11 (.cells #[.int .i64 0] 3)
        have hxt := Boxed.new w11 3 (.int .i64 0)
        obtain ⟨tb, etb⟩ : ∃ g, w11.heap.size = g := ⟨_, rfl⟩
        obtain ⟨w12, hw12⟩ : ∃ w12, w11.alloc (.cells #[.int .i64 0] 3) = w12 := ⟨_, rfl⟩
        rw [hw12] at hal12 hxt ⊢
        rw [etb] at hxt ⊢
        have BT12 := Lib.hid hal12
        have XT := Lib.hid hxt
        have ETB := Lib.hid etb
        clear hal12 hxt hw12 etb
        obtain ⟨K0, hK0⟩ : ∃ K0 : Nat, min ((N.length : Nat) : Int) (max 1 many) = ((K0 : Nat) : Int) := ⟨(min ((N.length : Nat) : Int) (max 1 many)).toNat, by omega⟩
        have HK0 := Lib.hid hK0
        clear hK0
        refine (wpIn_wide (n := 6)).1 ?_
        refine wpIn_loop_rounds 3 ?_
        rw [roundsIn_succ]
        have ct := XT.out.cell
        gi_wp2_with fail
        clear ct
        have halK := below_alloc w12 (.cells #[.int .i64 0] 3)
        have hxk : Boxed (w12.alloc (.cells #[.int .i64 0] 3)) w12.heap.size 3 (.int .i64 ((0 : Nat) : Int)) := Boxed.new w12 3 (.int .i64 0)
        obtain ⟨nb0, enb⟩ : ∃ g, w12.heap.size = g := ⟨_, rfl⟩
        obtain ⟨wk0, hwk⟩ : ∃ w', w12.alloc (.cells #[.int .i64 0] 3) = w' := ⟨_, rfl⟩
        rw [hwk] at halK hxk ⊢
        rw [enb] at hxk ⊢
        have BK0 := Lib.hid halK
        have XK0 := Lib.hid hxk
        have ENB0 := Lib.hid enb
        clear halK hxk enb hwk
        refine open_joined (gf := 67) (lb := #[.pointer (some ⟨qb, 0, none⟩)]) (by decide) rfl Try.entVals (KG w11 tb nb0 wk0.heap.size 0 K0) (.exit 6) ?turn0 ?brk0 ?rest0
        case brk0 =>
          intro fr W h
          exact wpIn_exit (brk_of h)
        case turn0 =>
          intro W1 rr hrr hb1 hsz hR
          obtain ⟨fn, hrr⟩ := hrr
          obtain ⟨D2, hD⟩ : ∃ D2, wk0.heap.size = D2 := ⟨_, rfl⟩
          rw [hD] at hrr hb1 hsz hR ⊢
          obtain ⟨lr, hlr⟩ : ∃ lr, D2 + 1 = lr := ⟨_, rfl⟩
          rw [hlr] at hR ⊢
          have hbk1 : Below wk0.heap.size wk0 W1 := by rw [hD]; exact hb1
          have o1 : w11.heap.size = tb := ETB.out
          have o2 : tb < nb0 := by have := XT.out.lt; have := ENB0.out; omega
          have o3 : nb0 < D2 := by have := XK0.out.lt; omega
          have hj0 : KJ w11 W1 tb nb0 lr D2 (rr .ready none) 0 ([] : List (List UInt8)).length := ⟨BT12.out.trans ((BK0.out.trans (hbk1.mono BK0.out.size)).mono BT12.out.size), boxed_below XK0.out hbk1 XK0.out.lt, boxed_below (boxed_below XT.out BK0.out XT.out.lt) hbk1 (Nat.lt_of_lt_of_le XT.out.lt BK0.out.size), hR⟩
          have J0 := Lib.hid hj0
          have HRR := Lib.hid hrr
          have N0 := Lib.hid (show w11.heap.size ≤ nb0 by omega)
          have N1 := Lib.hid (show w11.heap.size ≤ lr by omega)
          have N2 := Lib.hid (show lr ≠ D2 by omega)
          have N3 := Lib.hid (show nb0 ≠ lr by omega)
          have N4 := Lib.hid (show tb ≠ lr by omega)
          have N5 := Lib.hid (show lr ≠ nb0 by omega)
          have N6 := Lib.hid (show D2 ≠ nb0 by omega)
          have N7 := Lib.hid (show tb ≠ nb0 by omega)
          clear hrr hb1 hsz hR hD hlr hbk1 o1 o2 o3 hj0
          refine (strs_at 5 (by decide) lr qb c' (fun i => i < w7.heap.size) A' N (fun pre W => KJ w11 W tb nb0 lr D2 (rr .ready none) 0 pre.length ∧ (pre = [] ∨ ((pre.length : Nat) : Int) < many)) (fun pre W => KJ w11 W tb nb0 lr D2 (rr .done (some (.exit 6))) 0 pre.length ∧ ((pre.length : Nat) : Int) = max 1 many) (fun pre W W' h hb => ⟨h.1.later hb, h.2⟩) HNL.out (fun pre W h => (RT.out.later h.1.bel).sq.sl) ?hY0 W1 (RT.out.later J0.out.bel).sq.bx.cell ⟨J0.out, .inl rfl⟩).mono ?post0
          case post0 =>
            rintro e W2 ⟨hv, (⟨hj, hg⟩ | ⟨pre, hp, hj, hg⟩)⟩
            · have e : N.length = K0 := by
                have := HK0.out
                rcases hg with hg | hg
                · rw [hg] at this ⊢; simp at this ⊢; omega
                · omega
              rw [e] at hj
              exact ⟨hv, .inl ⟨hj.rec_, fun o => hj.go o N1.out N2.out N3.out N4.out⟩⟩
            · have hle := hp.length_le
              have e : pre.length = K0 := by
                have := HK0.out
                omega
              rw [e] at hj
              exact ⟨hv, .inr ⟨hj.rec_, fun o => hj.go o N1.out N2.out N3.out N4.out⟩⟩
          case hY0 =>
            intro pre x W hj hpx
            have hx : N[pre.length]? = some x := by obtain ⟨t, ht⟩ := hpx; rw [← ht]; simp
            have hlt2 := (List.getElem?_eq_some_iff.1 hx).1
            have hnl := HNL.out
            obtain ⟨hj, hg⟩ := hj
            have JW := Lib.hid hj
            have HG := Lib.hid hg
            clear hg
            have HX := Lib.hid hx
            clear hj hpx hx
            refine named_round HRR.out JW.out.rec_ rfl ?a10 ?asg0 ?body0
            case asg0 =>
              intro K hK
              have HK := Lib.hid hK
              clear hK
              gi_wp2
              exact HK.out
            case body0 =>
              intro W2 hW2
              have hj2 : KJ w11 W2 tb nb0 lr D2 (rr .busy none) 0 pre.length := by rw [hW2]; exact JW.out.put _ N1.out N2.out N3.out N4.out
              have hrt := RT.out.later hj2.bel
              obtain ⟨g3, o3, rfl, _, hx3⟩ := hrt.wsl.2.2 pre.length x HX.out
              have z0 : W2.cell? ⟨g3, o3 + pre.length, none⟩ = some (.string (strL x)) := by have := hx3 0 _ rfl; simpa using this
              have ck := hj2.kbx.cell
              have fk := hj2.kbx.frozen
              have ct := hj2.tbx.cell
              have cw := hrt.wbx.cell
              have cm := hrt.mb.cell
              have J2 := Lib.hid hj2
              have hd1 : decide (((N.length : Nat) : Int) ≤ ((pre.length : Nat) : Int)) = false := decide_eq_false (by omega)
              have hd2 : decide (N.length ≤ pre.length) = false := decide_eq_false (by omega)
              clear hj2 hrt hx3 hW2
              gi_upto_region 28 with fail
              obtain ⟨k1, hk1⟩ : ∃ k1, pre.length + 1 = k1 := ⟨_, rfl⟩
              rw [show ((pre.length : Nat) : Int) + 1 = ((k1 : Nat) : Int) by omega]
              have hj3 := J2.out.setK k1 N0.out N5.out N6.out N7.out
              obtain ⟨w5', hw5'⟩ : ∃ w5', W2.setCell ⟨nb0, 0, none⟩ (.int .i64 ((k1 : Nat) : Int)) = w5' := ⟨_, rfl⟩
              rw [hw5'] at hj3 ⊢
              clear z0 ck fk ct cw cm hd1 hd2
              have hrt := RT.out.later hj3.bel
              have ck := hj3.kbx.cell
              have ct := hj3.tbx.cell
              have cm := hrt.mb.cell
              have J3 := Lib.hid hj3
              have HK1 := Lib.hid hk1
              clear hj3 hrt hw5' hk1
              by_cases hmk : many ≤ ((k1 : Nat) : Int)
              · have hd1 : decide (many ≤ ((k1 : Nat) : Int)) = true := decide_eq_true hmk
                have HMK := Lib.hid hmk
                clear hmk
                gi_wp2_with fail
                have := J3.out.put (rr .done (some (.exit 6))) N1.out N2.out N3.out N4.out
                rw [← HK1.out] at this
                exact ⟨J3.out.rec_, this, by
                  have h1 := HK1.out
                  have h2 := HMK.out
                  rcases HG.out with h3 | h3
                  · rw [h3] at h1 ⊢; simp at h1 ⊢; omega
                  · omega⟩
              · have hd1 : decide (many ≤ ((k1 : Nat) : Int)) = false := decide_eq_false hmk
                have HMK := Lib.hid hmk
                clear hmk
                gi_wp2_with fail
                have := J3.out.put (rr .ready none) N1.out N2.out N3.out N4.out
                rw [← HK1.out] at this
                exact ⟨J3.out.rec_, this, by have h1 := HK1.out; have h2 := HMK.out; omega⟩
        case rest0 =>
          rintro Wz ⟨hz1, hz2, hz3, hz4⟩
          obtain ⟨Dm, hDm⟩ : ∃ D, wk0.heap.size = D := ⟨_, rfl⟩
          rw [hDm] at hz4 ⊢
          have hrz := RT.out.later hz1
          have ck := hz2.cell
          have ct := hz3.cell
          have cw := hrz.wbx.cell
          have cm := hrz.mb.cell
          have hnl := HNL.out
          obtain ⟨M, hM1, hM2, hM3⟩ := end_two HK0.out
          have RTz := Lib.hid hrz
          have BZ := Lib.hid (HB11.out.trans (hz1.mono HB11.out.size))
          have DFM := Lib.hid hz4
          have DGE := Lib.hid (show w.heap.size ≤ Dm by have := HB11.out.size; have := ETB.out; have := XK0.out.lt; have := ENB0.out; have := XT.out.lt; omega)
          clear hrz hz1 hz2 hz3 hz4 hDm
          gi_upto_region 31 with fail
          clear ck cw cm hM1 hM2 hM3
          gi_wp2_with fail
          rw [roundsIn_succ]
          clear ct
          have halT := below_alloc Wz (.cells #[.int .i64 1] 3)
          have hxT := Boxed.new Wz 3 (.int .i64 1)
          obtain ⟨tb2, etb2⟩ : ∃ g, Wz.heap.size = g := ⟨_, rfl⟩
          obtain ⟨wT, hwT⟩ : ∃ w', Wz.alloc (.cells #[.int .i64 1] 3) = w' := ⟨_, rfl⟩
          rw [hwT] at halT hxT ⊢
          rw [etb2] at hxT ⊢
          have BT2 := Lib.hid halT
          have XT2 := Lib.hid hxT
          have ETB2 := Lib.hid etb2
          have ct := hxT.cell
          clear halT hxT hwT etb2
          gi_wp2_with fail
          clear ct
          have halK := below_alloc wT (.cells #[.int .i64 0] 3)
          have hxk : Boxed (wT.alloc (.cells #[.int .i64 0] 3)) wT.heap.size 3 (.int .i64 ((0 : Nat) : Int)) := Boxed.new wT 3 (.int .i64 0)
          obtain ⟨nb1, enb⟩ : ∃ g, wT.heap.size = g := ⟨_, rfl⟩
          obtain ⟨wk1, hwk⟩ : ∃ w', wT.alloc (.cells #[.int .i64 0] 3) = w' := ⟨_, rfl⟩
          rw [hwk] at halK hxk ⊢
          rw [enb] at hxk ⊢
          have BK1 := Lib.hid halK
          have XK1 := Lib.hid hxk
          have ENB1 := Lib.hid enb
          clear halK hxk enb hwk
          refine open_joined (gf := 67) (lb := #[.pointer (some ⟨qb, 0, none⟩)]) (by decide) rfl Try.entVals (KG Wz tb2 nb1 wk1.heap.size 1 N.length) .skip ?turn1 ?brk1 ?rest1
          case brk1 =>
            intro fr W h
            exact wpIn_skip h
          case turn1 =>
            intro W1 rr hrr hb1 hsz hR
            obtain ⟨fn, hrr⟩ := hrr
            obtain ⟨D2, hD⟩ : ∃ D2, wk1.heap.size = D2 := ⟨_, rfl⟩
            rw [hD] at hrr hb1 hsz hR ⊢
            obtain ⟨lr, hlr⟩ : ∃ lr, D2 + 1 = lr := ⟨_, rfl⟩
            rw [hlr] at hR ⊢
            have hbk1 : Below wk1.heap.size wk1 W1 := by rw [hD]; exact hb1
            have o1 : Wz.heap.size = tb2 := ETB2.out
            have o2 : tb2 < nb1 := by have := XT2.out.lt; have := ENB1.out; omega
            have o3 : nb1 < D2 := by have := XK1.out.lt; omega
            have hj0 : KJ Wz W1 tb2 nb1 lr D2 (rr .ready none) 1 ([] : List (List UInt8)).length := ⟨BT2.out.trans ((BK1.out.trans (hbk1.mono BK1.out.size)).mono BT2.out.size), boxed_below XK1.out hbk1 XK1.out.lt, boxed_below (boxed_below XT2.out BK1.out XT2.out.lt) hbk1 (Nat.lt_of_lt_of_le XT2.out.lt BK1.out.size), hR⟩
            have J0 := Lib.hid hj0
            have HRR := Lib.hid hrr
            have N0 := Lib.hid (show Wz.heap.size ≤ nb1 by omega)
            have N1 := Lib.hid (show Wz.heap.size ≤ lr by omega)
            have N2 := Lib.hid (show lr ≠ D2 by omega)
            have N3 := Lib.hid (show nb1 ≠ lr by omega)
            have N4 := Lib.hid (show tb2 ≠ lr by omega)
            have N5 := Lib.hid (show lr ≠ nb1 by omega)
            have N6 := Lib.hid (show D2 ≠ nb1 by omega)
            have N7 := Lib.hid (show tb2 ≠ nb1 by omega)
            clear hrr hb1 hsz hR hD hlr hbk1 o1 o2 o3 hj0
            refine (strs_at 5 (by decide) lr qb c' (fun i => i < w7.heap.size) A' N (fun pre W => KJ Wz W tb2 nb1 lr D2 (rr .ready none) 1 pre.length) (fun _ _ => False) (fun pre W W' h hb => h.later hb) HNL.out (fun pre W h => (RTz.out.later h.bel).sq.sl) ?hY1 W1 (RTz.out.later J0.out.bel).sq.bx.cell J0.out).mono ?post1
            case post1 =>
              rintro e W2 ⟨hv, (hj | ⟨pre, hp, hf⟩)⟩
              · exact ⟨hv, .inl ⟨hj.rec_, fun o => hj.go o N1.out N2.out N3.out N4.out⟩⟩
              · exact hf.elim
            case hY1 =>
              intro pre x W hj hpx
              have hx : N[pre.length]? = some x := by obtain ⟨t, ht⟩ := hpx; rw [← ht]; simp
              have hlt2 := (List.getElem?_eq_some_iff.1 hx).1
              have hnl := HNL.out
              have JW := Lib.hid hj
              have HX := Lib.hid hx
              clear hj hpx hx
              refine named_round HRR.out JW.out.rec_ rfl ?a11 ?asg1 ?body1
              case asg1 =>
                intro K hK
                have HK := Lib.hid hK
                clear hK
                gi_wp2
                exact HK.out
              case body1 =>
                intro W2 hW2
                have hj2 : KJ Wz W2 tb2 nb1 lr D2 (rr .busy none) 1 pre.length := by rw [hW2]; exact JW.out.put _ N1.out N2.out N3.out N4.out
                have hrt := RTz.out.later hj2.bel
                obtain ⟨g3, o3, rfl, _, hx3⟩ := hrt.wsl.2.2 pre.length x HX.out
                have z0 : W2.cell? ⟨g3, o3 + pre.length, none⟩ = some (.string (strL x)) := by have := hx3 0 _ rfl; simpa using this
                have ck := hj2.kbx.cell
                have fk := hj2.kbx.frozen
                have ct := hj2.tbx.cell
                have cw := hrt.wbx.cell
                have cm := hrt.mb.cell
                have J2 := Lib.hid hj2
                have hd1 : decide (((N.length : Nat) : Int) ≤ ((pre.length : Nat) : Int)) = false := decide_eq_false (by omega)
                have hd2 : decide (N.length ≤ pre.length) = false := decide_eq_false (by omega)
                clear hj2 hrt hx3 hW2
                gi_upto_region 28 with fail
                obtain ⟨k1, hk1⟩ : ∃ k1, pre.length + 1 = k1 := ⟨_, rfl⟩
                rw [show ((pre.length : Nat) : Int) + 1 = ((k1 : Nat) : Int) by omega]
                have hj3 := J2.out.setK k1 N0.out N5.out N6.out N7.out
                obtain ⟨w5', hw5'⟩ : ∃ w5', W2.setCell ⟨nb1, 0, none⟩ (.int .i64 ((k1 : Nat) : Int)) = w5' := ⟨_, rfl⟩
                rw [hw5'] at hj3 ⊢
                clear z0 ck fk ct cw cm hd1 hd2
                have hrt := RTz.out.later hj3.bel
                have ck := hj3.kbx.cell
                have ct := hj3.tbx.cell
                have cm := hrt.mb.cell
                have J3 := Lib.hid hj3
                have HK1 := Lib.hid hk1
                clear hj3 hrt hw5' hk1
                gi_wp2_with fail
                have := J3.out.put (rr .ready none) N1.out N2.out N3.out N4.out
                rw [← HK1.out] at this
                exact ⟨J3.out.rec_, this⟩
          case rest1 =>
            rintro Wy ⟨hz1, hz2, hz3, hz4⟩
            obtain ⟨Dn, hDn⟩ : ∃ D, wk1.heap.size = D := ⟨_, rfl⟩
            rw [hDn] at hz4 ⊢
            have hrz := RTz.out.later hz1
            have ck := hz2.cell
            have ct := hz3.cell
            have cw := hrz.wbx.cell
            have cm := hrz.mb.cell
            have hnl := HNL.out
            have hDl := (Array.getElem?_eq_some_iff.1 DFM.out).1
            have RTy := Lib.hid hrz
            have BY := Lib.hid (BZ.out.trans (hz1.mono BZ.out.size))
            have DF1 := Lib.hid ((hz1.block Dm hDl).trans DFM.out)
            have DF2 := Lib.hid hz4
            have DNE := Lib.hid (show Dm ≠ Dn by have := ETB2.out; have := XK1.out.lt; have := ENB1.out; have := XT2.out.lt; omega)
            have DGN := Lib.hid (show w.heap.size ≤ Dn by have := DGE.out; have := ETB2.out; have := XK1.out.lt; have := ENB1.out; have := XT2.out.lt; omega)
            clear hrz hz1 hz2 hz3 hz4 hDn hDl
            gi_upto_region 31 with fail
            clear ck cw cm
            gi_wp2_with fail
            rw [roundsIn_succ]
            clear ct
            gi_wp2_with fail
            go_wp2_with fail
            refine ((HKN _).out).mono ?_
            rintro e wF ⟨rfl, hbF⟩
            obtain ⟨wY, hwY⟩ : ∃ wY, Wy.alloc (.cells #[.int .i64 2] 3) = wY := ⟨_, rfl⟩
            have hbY : Below Wy.heap.size Wy wY := by rw [← hwY]; exact below_alloc Wy _
            rw [hwY] at hbF
            have hb9 : Below Wy.heap.size Wy wF := hbY.trans (hbF.mono hbY.size)
            have hrb := (RTy.out.later hb9).rb
            have cr := hrb.cell
            have cf := hrb.frozen
            have K1 := Lib.hid ((hb9.block Dm (Array.getElem?_eq_some_iff.1 DF1.out).1).trans DF1.out)
            have K2 := Lib.hid ((hb9.block Dn (Array.getElem?_eq_some_iff.1 DF2.out).1).trans DF2.out)
            have HRB := Lib.hid hrb
            have BF := Lib.hid (BY.out.trans (hb9.mono BY.out.size))
            clear hbF hbY hwY hb9 hrb DF1 DF2 RTy
            go_wp2_with fail
            have ha1 := Boxed.set (.bool true) HRB.out
            have ha2 := BF.out.setCell (p := ⟨b + 1 + 1, 0, none⟩) (by show w.heap.size ≤ b + 1 + 1; have := EB.out; omega) (.bool true)
            have n1 : Dm ≠ b + 1 + 1 := fun e => by
              have hx := K1.out
              rw [e, show wF.heap[b + 1 + 1]? = _ from HRB.out] at hx
              cases hx
            have n2 : Dn ≠ b + 1 + 1 := fun e => by
              have hx := K2.out
              rw [e, show wF.heap[b + 1 + 1]? = _ from HRB.out] at hx
              cases hx
            have k1 := (Below.heap_setCell wF ⟨b + 1 + 1, 0, none⟩ (.bool true) Dm n1).trans K1.out
            have k2 := (Below.heap_setCell wF ⟨b + 1 + 1, 0, none⟩ (.bool true) Dn n2).trans K2.out
            obtain ⟨wX, hwX⟩ : ∃ wX, wF.setCell ⟨b + 1 + 1, 0, none⟩ (.bool true) = wX := ⟨_, rfl⟩
            rw [hwX] at ha1 ha2 k1 k2 ⊢
            clear hwX cr cf
            have k3 : (wX.putObj Dn (.deferred none)).heap[Dm]? = _ := (World.putObj_heap_other (Ne.symm DNE.out).symm).trans k1
            have hb10 : Boxed (wX.putObj Dn (.deferred none)) (b + 1 + 1) 4 (.bool true) := (World.putObj_heap_other n2.symm).trans ha1
            have hb11 : Boxed ((wX.putObj Dn (.deferred none)).putObj Dm (.deferred none)) (b + 1 + 1) 4 (.bool true) := (World.putObj_heap_other n1.symm).trans hb10
            have hbw2 := ha2.grown (grownBy_putObj' wX Dn (.deferred none)) ha2.size (fun k e => by cases e; exact DGN.out)
            have hbw3 := hbw2.grown (grownBy_putObj' (wX.putObj Dn (.deferred none)) Dm (.deferred none)) hbw2.size (fun k e => by cases e; exact DGE.out)
            refine ⟨by simp, .inl ⟨_, _, rfl, run_takeDeferred k2, ?_⟩⟩
            refine ⟨by simp, .inl ⟨_, _, rfl, run_takeDeferred k3, ?_⟩⟩
            exact ⟨.bool true, by simp [results, Try.results5, go_sem, hb11.cell], rfl, hbw3⟩

end Go.Proofs.Yteibnmnpebfefaa
