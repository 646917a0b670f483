/- A definition in an examination, the conditions of its messages given. Conditions: the examination, what it knows and the messages lie in memory. -/
import Derived.Test.YtbpkppmbbpoohaaGreatJf
namespace Go.Proofs.YtbpkppmbbpoohaaGreat
open Go.RowKit Go.Shelf

/-- Nothing, or a flaw at a place. -/
def doD (r : Option (Int × Int × Int)) : Ending := match r with | none => .returned (.tuple #[]) | some p => flawE p.1 p.2.1 p.2.2
def orD (r s : Option (Int × Int × Int)) : Option (Int × Int × Int) := match r with | none => s | some c => some c
def ifD (b : Bool) (c : Int) : Option (Int × Int × Int) := if b then none else some (-1, -1, c)
/-- What is known behind a message. -/
def stepN (E : Nats) (mm : MsgD) : Nats := setN E mm.name (natS E mm.fields)
def defE (D : List MsgD) : Nats := D.foldl stepN []
theorem defE_snoc (D : List MsgD) (mm : MsgD) : defE (D ++ [mm]) = stepN (defE D) mm := by simp [defE, List.foldl_append]
/-- The first flaw of messages. -/
def msgsR (mr : Nats → Nat → MsgD → Option (Int × Int)) : Nats → Nat → List MsgD → Option (Int × Int × Int)
  | _, _, [] => none
  | E, i, mm :: D => orD ((mr E i mm).map fun c => ((i : Int), c.1, c.2)) (msgsR mr (stepN E mm) (i + 1) D)
theorem orD_assoc (a b c : Option (Int × Int × Int)) : orD (orD a b) c = orD a (orD b c) := by cases a <;> rfl
theorem msgsR_app (mr : Nats → Nat → MsgD → Option (Int × Int)) : ∀ (D F : List MsgD) (E : Nats) (i : Nat), msgsR mr E i (D ++ F) = orD (msgsR mr E i D) (msgsR mr (D.foldl stepN E) (i + D.length) F) := by
  intro D
  induction D with
  | nil => intro F E i; rfl
  | cons mm D ih =>
    intro F E i
    simp only [List.cons_append, msgsR, ih, orD_assoc, List.length_cons, List.foldl_cons]
    rw [show i + 1 + D.length = i + (D.length + 1) by omega]
/-- The first flaw of a definition. -/
def defR (mr : Nats → Nat → MsgD → Option (Int × Int)) (name : List UInt8) (D : List MsgD) (start : List UInt8) : Option (Int × Int × Int) :=
  orD (ifD (nameB name) 1) (orD (ifD (inB (D.length : Int) 1 60) 3) (orD (msgsR mr [] 0 D) (ifD (hasN (defE D) start) 11)))

section
variable {W : World} {x kr kk n c : Nat} {m f : Int} {A : Option Addr}
theorem ExAt.setAt (h : ExAt W x m f kr A n c kk) (u v : Int) : ExAt (((W.setCell ⟨x, 0, none⟩ (.int .i64 u)).setCell ⟨x, 1, none⟩ (.int .i64 v)).setCell ⟨x, 2, none⟩ (.int .i64 0)) x u v kr A n c kk :=
  ⟨heap_setCell_same _ x 2 _ 130 (.int .i64 0) (heap_setCell_same _ x 1 _ 130 (.int .i64 v) (heap_setCell_same W x 0 _ 130 (.int .i64 u) h.blk))⟩
end
theorem rest_setAt (W : World) (x : Nat) (a b c : Value) : Rest (fun k => k = x) W (((W.setCell ⟨x, 0, none⟩ a).setCell ⟨x, 1, none⟩ b).setCell ⟨x, 2, none⟩ c) :=
  (((Rest.refl (fun k => k = x) W).setCell (S := fun k => k = x) (p := ⟨x, 0, none⟩) (fun _ => rfl) _).setCell (S := fun k => k = x) (p := ⟨x, 1, none⟩) (fun _ => rfl) _).setCell (S := fun k => k = x) (p := ⟨x, 2, none⟩) (fun _ => rfl) _

set_option maxRecDepth 100000 in
set_option maxHeartbeats 6400000 in
theorem definition_any (x kr kk n0 c0 : Nat) (m0 f0 : Int) (A0 : Option Addr) (nm st : List UInt8) (A : Option Addr) (c : Nat) (D : List MsgD) (S : Nat → Prop) (mr : Nats → Nat → MsgD → Option (Int × Int)) (w : World)
    (hx : ExAt w x m0 f0 kr A0 n0 c0 kk) (hm : MapAt w kr (natE [])) (hxk : x ≠ kr) (h : SlAt MsgD.cells 2 S w A c D) (hSx : S x) (hSk : S kr)
    (hf : ∀ i mm wx, D[i]? = some mm → D.length ≤ 60 → msgsR mr [] 0 (D.take i) = none → Rest (fun k => k = x ∨ k = kr) w wx → (∃ A' n' c', ExAt wx x (i : Int) (-1) kr A' n' c' kk) → MapAt wx kr (natE (defE (D.take i))) →
      Calls Tryz.prog 117 #[.pointer (some ⟨x, 0, none⟩), mm.agg] wx fun e w' => e = doM (mr (defE (D.take i)) i mm) (i : Int) ∧ Rest (fun k => k = x ∨ k = kr) wx w' ∧ (mr (defE (D.take i)) i mm = none → MapAt w' kr (natE (stepN (defE (D.take i)) mm)) ∧ ∃ A' n' c', ExAt w' x (i : Int) (-1) kr A' n' c' kk)) :
    Calls Tryz.prog 80 #[.pointer (some ⟨x, 0, none⟩), .agg #[.string (strL nm), .slice A D.length c, .string (strL st)]] w fun e w' => e = doD (defR mr nm D st) ∧ Rest (fun k => k = x ∨ k = kr) w w' ∧ (defR mr nm D st = none → MapAt w' kr (natE (defE D)) ∧ ∃ A' n' c', ExAt w' x (-1) (-1) kr A' n' c' kk) := by
  have hl : D.length ≤ 9223372036854775807 := Nat.le_trans h.1 h.2.1
  have hal := below_alloc w (.cells #[.string (strL nm), .slice A D.length c, .string (strL st)] 24)
  have hbx : (w.alloc (.cells #[.string (strL nm), .slice A D.length c, .string (strL st)] 24)).heap[w.heap.size]? = some (.cells #[.string (strL nm), .slice A D.length c, .string (strL st)] 24 (0, 0)) := heap_alloc_new w _
  have hx1 := hx.below hal hx.lt
  have hm1 := hm.below hal hm.lt
  have h1 := h.below hal
  obtain ⟨b, eb⟩ : ∃ b, w.heap.size = b := ⟨_, rfl⟩
  obtain ⟨w0, hw0⟩ : ∃ w0, w.alloc (.cells #[.string (strL nm), .slice A D.length c, .string (strL st)] 24) = w0 := ⟨_, rfl⟩
  rw [hw0] at hal hbx hx1 hm1 h1
  rw [eb] at hbx
  have hbl : b < w0.heap.size := (Array.getElem?_eq_some_iff.1 hbx).1
  have hxb : x ≠ b := by have := hx.lt; omega
  have hkb : kr ≠ b := by have := hm.lt; omega
  have v0 := hx1.c0
  have v1 := hx1.c1
  have v2 := hx1.c2
  have vf0 := hx1.fr 0
  have vf1 := hx1.fr 1
  have vf2 := hx1.fr 2
  have hxs := hx1.setAt (-1) (-1)
  have hrs1 := rest_setAt w0 x (.int .i64 (-1)) (.int .i64 (-1)) (.int .i64 0)
  obtain ⟨w1, hw1⟩ : ∃ w1, ((w0.setCell ⟨x, 0, none⟩ (.int .i64 (-1))).setCell ⟨x, 1, none⟩ (.int .i64 (-1))).setCell ⟨x, 2, none⟩ (.int .i64 0) = w1 := ⟨_, rfl⟩
  rw [hw1] at hxs hrs1
  have hR1 : Rest (fun k => k = x ∨ k = kr) w w1 := (Rest.below (S := fun k => k = x ∨ k = kr) hal).trans hrs1 (fun _ _ e => .inl e)
  have hbx1 := (hrs1.block b hbl (fun e => hxb e.symm)).trans hbx
  have hm2 := hm1.rest hrs1 (fun e => hxk e.symm)
  have h2 := h1.rest hrs1 (fun k _ e => by rw [e]; exact hSx)
  have hbl1 : b < w1.heap.size := Nat.lt_of_lt_of_le hbl hrs1.size
  obtain ⟨Z, hZ⟩ : ∃ Z, defR mr nm D st = Z := ⟨_, rfl⟩
  rw [hZ]
  have KEEP : Hid (∀ wx, Rest (fun k => k = x ∨ k = kr) w1 wx → wx.cell? ⟨b, 0, none⟩ = some (.string (strL nm)) ∧ wx.cell? ⟨b, 1, none⟩ = some (.slice A D.length c) ∧ wx.cell? ⟨b, 2, none⟩ = some (.string (strL st))) := Lib.hid (fun wx hb => by
    have := (hb.block b hbl1 (fun e => by rcases e with e | e; exact hxb e.symm; exact hkb e.symm)).trans hbx1
    exact ⟨by simp [World.cell?, this], by simp [World.cell?, this], by simp [World.cell?, this]⟩)
  have KX : Hid (∀ wx, Below w1.heap.size w1 wx → ExAt wx x (-1) (-1) kr A0 n0 c0 kk ∧ MapAt wx kr (natE [])) := Lib.hid (fun wx hb => ⟨hxs.below hb hxs.lt, hm2.below hb hm2.lt⟩)
  have HNM := fun w => Lib.hid (sizeName nm w)
  have HWI := fun w => Lib.hid (withinS (D.length : Int) 1 60 w)
  have HDM : ∀ bv cd wx, Below w1.heap.size w1 wx → Hid (Calls Tryz.prog 115 #[.pointer (some ⟨x, 0, none⟩), .bool bv, .int .i64 cd] wx fun e w' => e = doE (ifR bv cd) (-1) (-1) ∧ Below wx.heap.size wx w') := fun bv cd wx hb => Lib.hid (demand_any x kr kk n0 c0 (-1) (-1) A0 bv cd wx (KX.out wx hb).1)
  obtain ⟨nb, hnb⟩ : ∃ nb, nameB nm = nb := ⟨_, rfl⟩
  obtain ⟨lb, hlb⟩ : ∃ lb, inB (D.length : Int) 1 60 = lb := ⟨_, rfl⟩
  rw [hnb] at HNM
  rw [hlb] at HWI
  have hzz : Z = orD (ifD nb 1) (orD (ifD lb 3) (orD (msgsR mr [] 0 D) (ifD (hasN (defE D) st) 11))) := by rw [← hZ]; unfold defR; rw [hnb, hlb]
  have HRN := Lib.hid hzz
  have hl60 : lb = true → D.length ≤ 60 := fun e => by
    rw [e] at hlb
    have : (1 : Int) ≤ (D.length : Int) ∧ (D.length : Int) ≤ 60 := by simpa [inB] using hlb
    omega
  have HL60 := Lib.hid hl60
  have HB1 : Hid (Below w1.heap.size w1 w1) := Lib.hid (Below.refl _ _)
  have HR1 := Lib.hid hR1
  have H2 := Lib.hid h2
  have HFF := Lib.hid hf
  have HXK := Lib.hid hxk
  have HSX := Lib.hid hSx
  have HSK := Lib.hid hSk
  have HW0 := Lib.hid hw0
  have HW1 := Lib.hid hw1
  have EB := Lib.hid eb
  obtain ⟨y0, y1, _⟩ := KEEP.out w1 (Rest.refl _ _)
  clear hal hbx hx1 hm1 h1 eb hw0 hw1 hbl hxb hkb hR1 hZ hnb hlb hzz hl60 hx hm hxk h hSx hSk hf hxs hrs1 hbx1 hm2 h2 hbl1
  go_enter Tryz.func80, Tryz.ntmps80
  go_upto_region 1 with fail
  rw [HW0.out, EB.out]
  go_upto_region 2 with fail
  rw [HW1.out]
  clear v0 v1 v2 vf0 vf1 vf2
  go_wp2_with (go_at_call 116; refine ((HNM _).out).mono ?_; rintro e w' ⟨rfl, hw'⟩; have hw'' := hw'.symm; clear hw'; subst hw'')
  cases nb
  · have HD := Lib.hid (HDM false 1 w1 HB1.out).out
    unfold ifR doE flawE at HD
    simp only [Bool.false_eq_true, if_false] at HD
    go_wp2_with fail
    refine HD.out.mono ?_
    rintro e w2 ⟨rfl, hb2'⟩
    have hzn := HRN.out
    simp only [ifD, orD, Bool.false_eq_true, if_true, if_false] at hzn
    exact ⟨rfl, by rw [hzn]; rfl, HR1.out.trans (Rest.below (S := fun _ => False) (HB1.out.trans (hb2'.mono HB1.out.size))) (fun _ _ e => e.elim), fun e => by rw [hzn] at e; cases e⟩
  · have HD := Lib.hid (HDM true 1 w1 HB1.out).out
    unfold ifR doE at HD
    simp only [if_true] at HD
    go_wp2_with fail
    refine HD.out.mono ?_
    rintro e w2 ⟨rfl, hb2'⟩
    have HB2 := Lib.hid (HB1.out.trans (hb2'.mono HB1.out.size))
    clear hb2' HD
    clear y0 y1
    obtain ⟨y0, y1, _⟩ := KEEP.out w2 (Rest.below HB2.out)
    go_wp2_with (go_at_call 102; refine ((HWI _).out).mono ?_; rintro e w' ⟨rfl, hw'⟩; have hw'' := hw'.symm; clear hw'; subst hw'')
    cases lb
    · have HD := Lib.hid (HDM false 3 w2 HB2.out).out
      unfold ifR doE flawE at HD
      simp only [Bool.false_eq_true, if_false] at HD
      go_wp2_with fail
      refine HD.out.mono ?_
      rintro e w3 ⟨rfl, hb3'⟩
      have hzn := HRN.out
      simp only [ifD, orD, Bool.false_eq_true, if_true, if_false] at hzn
      exact ⟨rfl, by rw [hzn]; rfl, HR1.out.trans (Rest.below (S := fun _ => False) (HB2.out.trans (hb3'.mono HB2.out.size))) (fun _ _ e => e.elim), fun e => by rw [hzn] at e; cases e⟩
    · have HD := Lib.hid (HDM true 3 w2 HB2.out).out
      unfold ifR doE at HD
      simp only [if_true] at HD
      go_wp2_with fail
      refine HD.out.mono ?_
      rintro e w3 ⟨rfl, hb3'⟩
      have HB3 := Lib.hid (HB2.out.trans (hb3'.mono HB2.out.size))
      clear hb3' HD
      clear y0 y1
      obtain ⟨y0, y1, _⟩ := KEEP.out w3 (Rest.below HB3.out)
      have HD60 := Lib.hid (HL60.out (by first | rfl | trivial))
      have HRN2 : Hid (Z = orD (msgsR mr [] 0 D) (ifD (hasN (defE D) st) 11)) := Lib.hid HRN.out
      go_wp2_with fail
      clear y0 y1
      go_loopw [24] (fun x24 wr => ∃ (i n' c' : Nat) (A' : Option Addr) (m' f' : Int), i ≤ D.length ∧ x24 = .int .i64 ((i : Nat) : Int) ∧ msgsR mr [] 0 (D.take i) = none ∧ Rest (fun k => k = x ∨ k = kr) w1 wr ∧ ExAt wr x m' f' kr A' n' c' kk ∧ MapAt wr kr (natE (defE (D.take i)))) (fun x24 _ => D.length - (intOf x24).toNat)
      case atStart => exact ⟨0, n0, c0, A0, -1, -1, Nat.zero_le _, rfl, rfl, Rest.below HB3.out, (KX.out w3 HB3.out).1, (KX.out w3 HB3.out).2⟩
      case round =>
        obtain ⟨i, n', c', A', m', f', hi, rfl, hfr, hrs, hex, hmp⟩ := hrel
        by_cases hlt : i < D.length
        · obtain ⟨d, hd⟩ : ∃ d, D[i]? = some d := ⟨_, List.getElem?_eq_getElem hlt⟩
          have hAT := (H2.out.rest hrs (fun k _ e => by rcases e with e | e; rw [e]; exact HSX.out; rw [e]; exact HSK.out))
          obtain ⟨g, o, hA, hx⟩ := hAT.at_ hd
          have x0 : wr.cell? ⟨g, o + i * 2, none⟩ = some (.string (strL d.name)) := hx 0 _ rfl
          have x1 : wr.cell? ⟨g, o + i * 2 + 1, none⟩ = some (.slice d.fa d.fields.length d.fc) := hx 1 _ rfl
          have hal5 := below_alloc wr (.cells #[.string (strL d.name), .slice d.fa d.fields.length d.fc] 36)
          have hbx5 : (wr.alloc (.cells #[.string (strL d.name), .slice d.fa d.fields.length d.fc] 36)).heap[wr.heap.size]? = some (.cells #[.string (strL d.name), .slice d.fa d.fields.length d.fc] 36 (0, 0)) := heap_alloc_new wr _
          obtain ⟨tb, etb⟩ : ∃ tb, wr.heap.size = tb := ⟨_, rfl⟩
          obtain ⟨w5, hw5⟩ : ∃ w5, wr.alloc (.cells #[.string (strL d.name), .slice d.fa d.fields.length d.fc] 36) = w5 := ⟨_, rfl⟩
          rw [hw5] at hal5 hbx5
          rw [etb] at hbx5
          have hx5 := hex.below hal5 hex.lt
          have hm5 := hmp.below hal5 hmp.lt
          have htx : tb ≠ x := by have := hex.lt; omega
          have v0 := hx5.c0
          have v1 := hx5.c1
          have v2 := hx5.c2
          have vf0 := hx5.fr 0
          have vf1 := hx5.fr 1
          have vf2 := hx5.fr 2
          have hx6 := hx5.setAt (i : Int) (-1)
          have hs6 := rest_setAt w5 x (.int .i64 (i : Int)) (.int .i64 (-1)) (.int .i64 0)
          obtain ⟨w6, hw6⟩ : ∃ w6, ((w5.setCell ⟨x, 0, none⟩ (.int .i64 (i : Int))).setCell ⟨x, 1, none⟩ (.int .i64 (-1))).setCell ⟨x, 2, none⟩ (.int .i64 0) = w6 := ⟨_, rfl⟩
          rw [hw6] at hx6 hs6
          have hbx6 := (hs6.block tb (Array.getElem?_eq_some_iff.1 hbx5).1 htx).trans hbx5
          have q0 : w6.cell? ⟨tb, 0, none⟩ = some (.string (strL d.name)) := by simp [World.cell?, hbx6]
          have q1 : w6.cell? ⟨tb, 1, none⟩ = some (.slice d.fa d.fields.length d.fc) := by simp [World.cell?, hbx6]
          have hm6 := hm5.rest hs6 (fun e => HXK.out e.symm)
          have hs16 : Rest (fun k => k = x ∨ k = kr) w1 w6 := (hrs.trans (Rest.below (S := fun _ => False) hal5) (fun _ _ e => e.elim)).trans hs6 (fun _ _ e => .inl e)
          have HFC := HFF.out i d w6 hd HD60.out hfr (HR1.out.trans hs16 (fun _ _ e => e)) ⟨_, _, _, hx6⟩ hm6
          unfold MsgD.agg at HFC
          obtain ⟨R, hR⟩ : ∃ R, mr (defE (D.take i)) i d = R := ⟨_, rfl⟩
          have hde : defE (D.take (i + 1)) = stepN (defE (D.take i)) d := by rw [(drop_of hd).2, defE_snoc]
          have hnx : msgsR mr [] 0 (D.take (i + 1)) = R.map fun c => ((i : Int), c.1, c.2) := by
            rw [(drop_of hd).2, msgsR_app, hfr]
            show orD none (orD ((mr (defE (D.take i)) (0 + (D.take i).length) d).map _) none) = _
            rw [List.length_take, Nat.min_eq_left hi, Nat.zero_add, hR]
            cases R <;> rfl
          have hall : ∀ c, R = some c → msgsR mr [] 0 D = some ((i : Int), c.1, c.2) := by
            intro c e
            rw [← List.take_append_drop (i + 1) D, msgsR_app, hnx, e]
            rfl
          rw [hR] at HFC
          have HNX := Lib.hid hnx
          have HALL := Lib.hid hall
          have HDE := Lib.hid hde
          have HFC := Lib.hid HFC
          have W5 := Lib.hid hw5
          have W6 := Lib.hid hw6
          have ETB := Lib.hid etb
          have S16 := Lib.hid hs16
          subst hA
          clear hd hfr hrs hex hmp hAT hx hal5 hbx5 etb hw5 hx5 hm5 htx hx6 hs6 hw6 hbx6 hm6 hs16 hR hde hnx hall
          go_upto_region 7 with fail
          rw [W5.out, ETB.out]
          go_upto_region 8 with fail
          rw [W6.out]
          clear v0 v1 v2 vf0 vf1 vf2 x0 x1
          go_wp2_with fail
          refine HFC.out.mono ?_
          rintro e w8 ⟨rfl, hr8, hn8⟩
          have S18 := Lib.hid (S16.out.trans hr8 (fun _ _ e => e))
          have HN8 := Lib.hid hn8
          clear hr8 hn8 q0 q1
          cases R with
          | none =>
            obtain ⟨hm8, A8, n8, c8, hx8⟩ := HN8.out rfl
            have M8 := Lib.hid hm8
            have X8 := Lib.hid hx8
            clear hm8 hx8
            dsimp only [doM]
            go_wp2_with fail
            go_roundw
            case rel => exact ⟨i + 1, n8, c8, A8, (i : Int), -1, by omega, by go_num, HNX.out, S18.out, X8.out, by rw [HDE.out]; exact M8.out⟩
            case measure => simp [intOf]; omega
          | some cd =>
            dsimp only [doM, flawE]
            have hzn : Z = some ((i : Int), cd.1, cd.2) := by rw [HRN2.out, HALL.out cd rfl]; rfl
            exact ⟨rfl, by rw [hzn]; rfl, HR1.out.trans S18.out (fun _ _ e => e), fun e => by rw [hzn] at e; cases e⟩
        · obtain rfl : i = D.length := by omega
          rw [List.take_length] at hfr hmp
          obtain ⟨hs, hh⟩ : ∃ hs, hasN (defE D) st = hs := ⟨_, rfl⟩
          have hZ2 : Z = ifD hs 11 := by rw [HRN2.out, hfr, hh]; rfl
          have v0 := hex.c0
          have v1 := hex.c1
          have v2 := hex.c2
          have vf0 := hex.fr 0
          have vf1 := hex.fr 1
          have vf2 := hex.fr 2
          have hx9 := hex.setAt (-1) (-1)
          have hs9 := hrs.trans (rest_setAt wr x (.int .i64 (-1)) (.int .i64 (-1)) (.int .i64 0)) (fun _ _ e => .inl e)
          have hm9 := hmp.rest (rest_setAt wr x (.int .i64 (-1)) (.int .i64 (-1)) (.int .i64 0)) (fun e => HXK.out e.symm)
          obtain ⟨w9, hw9⟩ : ∃ w9, ((wr.setCell ⟨x, 0, none⟩ (.int .i64 (-1))).setCell ⟨x, 1, none⟩ (.int .i64 (-1))).setCell ⟨x, 2, none⟩ (.int .i64 0) = w9 := ⟨_, rfl⟩
          rw [hw9] at hx9 hs9 hm9
          obtain ⟨y0, y1, y2⟩ := KEEP.out w9 hs9
          have HPS := passed_any x kr kk n' c' (-1) (-1) A' w9 (defE D) st hx9 hm9
          rw [hh] at HPS
          have HPS := Lib.hid HPS
          have W9 := Lib.hid hw9
          have X9 := Lib.hid hx9
          have S9 := Lib.hid (HR1.out.trans hs9 (fun _ _ e => e))
          have M9 := Lib.hid hm9
          have HZ2 := Lib.hid hZ2
          clear hex hrs hfr hmp hh hZ2 hx9 hs9 hm9 hw9
          go_upto_region 11 with fail
          rw [W9.out]
          clear v0 v1 v2 vf0 vf1 vf2
          go_wp2_with fail
          refine HPS.out.mono ?_
          rintro e wp ⟨rfl, hbp⟩
          have XP := Lib.hid (X9.out.below hbp X9.out.lt)
          have MP := Lib.hid (M9.out.below hbp M9.out.lt)
          have SP := Lib.hid (S9.out.trans (Rest.below (S := fun _ => False) hbp) (fun _ _ e => e.elim))
          clear hbp
          go_wp2_with fail
          cases hs
          · have HD := demand_any x kr kk n' c' (-1) (-1) A' false 11 wp XP.out
            unfold ifR doE flawE at HD
            simp only [Bool.false_eq_true, if_false] at HD
            refine HD.mono ?_
            rintro e w12 ⟨rfl, hb12⟩
            have hzn := HZ2.out
            simp only [ifD, Bool.false_eq_true, if_false] at hzn
            exact ⟨rfl, by rw [hzn]; rfl, SP.out.trans (Rest.below (S := fun _ => False) hb12) (fun _ _ e => e.elim), fun e => by rw [hzn] at e; cases e⟩
          · have HD := demand_any x kr kk n' c' (-1) (-1) A' true 11 wp XP.out
            unfold ifR doE at HD
            simp only [if_true] at HD
            refine HD.mono ?_
            rintro e w12 ⟨rfl, hb12⟩
            have hbz := Lib.hid hb12
            clear hb12 HD
            have hzn := Lib.hid (show Z = none from HZ2.out)
            go_wp2_with fail
            go_end0
            exact ⟨by rw [hzn.out]; rfl, SP.out.trans (Rest.below (S := fun _ => False) hbz.out) (fun _ _ e => e.elim), fun _ => ⟨MP.out.below hbz.out MP.out.lt, _, _, _, XP.out.below hbz.out XP.out.lt⟩⟩
end Go.Proofs.YtbpkppmbbpoohaaGreat
