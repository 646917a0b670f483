/- The walk of BitsReads: it returns true and changes nothing that was there. Conditions: the bytes and the calls lie in memory, and a kind is below 256. -/
import Derived.Test.YtboiiohpkoodpaaRc
import Derived.Test.YtboiiohpkoodpaaRe
import Derived.Test.YtboiiohpkoodpaaAp
import Derived.Deep.CutRange
namespace Go.Proofs.Ytboiiohpkoodpaa
open Go.RowKit Go.Shelf

/-- What lies in memory between two calls. -/
structure RE (w wx : World) (base rb : Nat) (rv : Value) (B : List Nat) (p : Nat) (V : Value) : Prop where
  at_ : RAt wx rb rv B p
  all : wx.ownsRow base 4 1 V (unpack B).length (bools (unpack B))
  blw : Below w.heap.size w wx
  low : w.heap.size ≤ rb
  high : rb < base
  le : p ≤ 8 * B.length
  sz : base ≤ wx.heap.size

/-- The copy, ahead of call number k. -/
def CpS (wx : World) (base : Nat) (B : List Nat) (k cp : Nat) : Option (Nat × Value × Nat) → Prop
  | none => k ≤ cp
  | some (ob, ov, q) => cp < k ∧ q ≤ 8 * B.length ∧ RAt wx ob ov B q ∧ base ≤ ob ∧ ∀ j, ov.ownBlock = some j → base ≤ j
def cpO : Option (Nat × Value × Nat) → Value
  | none => .pointer none
  | some (ob, _, _) => .pointer (some ⟨ob, 0, none⟩)
def cpE : Option (Nat × Value × Nat) → Nat
  | none => 0
  | some (_, _, q) => q

theorem RE.below {w wx wy : World} {base rb : Nat} {rv : Value} {B : List Nat} {p : Nat} {V : Value} (h : RE w wx base rb rv B p V) (hb : Below wx.heap.size wx wy) : RE w wy base rb rv B p V :=
  ⟨h.at_.below hb, Rest.row (S := fun _ => False) (Rest.below hb) h.all (fun _ _ e => e), h.blw.trans (hb.mono h.blw.size), h.low, h.high, h.le, Nat.le_trans h.sz hb.size⟩
theorem RE.step {w wx wy : World} {base rb : Nat} {rv : Value} {B : List Nat} {p q : Nat} {V : Value} (h : RE w wx base rb rv B p V) (hl : RLeft rb rv B q wx wy) (hq : q ≤ 8 * B.length) : RE w wy base rb rv B q V :=
  ⟨hl.1, Rest.row hl.2 h.all (fun j hj e => by have := (h.all.lt j hj).1; have := h.high; omega), h.blw.trans (hl.2.toBelow w.heap.size h.blw.size (fun i hi e => by have := h.low; omega)), h.low, h.high, hq, Nat.le_trans h.sz hl.2.size⟩
theorem RE.far {w w0 wx wy : World} {base rb : Nat} {rv : Value} {B : List Nat} {p0 p : Nat} {V : Value} {S : Nat → Prop} (h0 : RE w w0 base rb rv B p0 V) (h : RE w wx base rb rv B p V) (hr : Rest S wx wy) (hS : ∀ i, S i → w0.heap.size ≤ i) : RE w wy base rb rv B p V := by
  have l1 := h0.at_.obj.lt
  exact ⟨h.at_.stays hr (fun e => by have := hS _ e; omega) (fun k hk e => by have := (h0.at_.row.lt k hk).2; have := hS _ e; omega),
    hr.row h.all (fun k hk e => by have := (h0.all.lt k hk).2; have := hS _ e; omega),
    h.blw.trans (hr.toBelow w.heap.size h.blw.size (fun i hi e => by have := hS _ e; have := h0.blw.size; omega)), h.low, h.high, h.le, Nat.le_trans h.sz hr.size⟩
theorem RE.drewN {w wx : World} {base rb : Nat} {rv : Value} {B : List Nat} {p : Nat} {V : Value} (h : RE w wx base rb rv B p V) (n : Nat) : RE w (wx.drewN n) base rb rv B p V :=
  h.below (below_drewN (Below.refl _ _) n)

theorem CpS.below {wx wy : World} {base : Nat} {B : List Nat} {k cp : Nat} {st : Option (Nat × Value × Nat)} (h : CpS wx base B k cp st) (hb : Below wx.heap.size wx wy) : CpS wy base B k cp st := by
  cases st with
  | none => exact h
  | some x => obtain ⟨ob, ov, q⟩ := x; obtain ⟨h1, h2, h3, h4, h5⟩ := h; exact ⟨h1, h2, h3.below hb, h4, h5⟩
theorem CpS.step {wx wy : World} {base rb : Nat} {B : List Nat} {k cp : Nat} {st : Option (Nat × Value × Nat)} (h : CpS wx base B k cp st) (hr : Rest (fun q => q = rb) wx wy) (hrb : rb < base) : CpS wy base B k cp st := by
  cases st with
  | none => exact h
  | some x => obtain ⟨ob, ov, q⟩ := x; obtain ⟨h1, h2, h3, h4, h5⟩ := h; exact ⟨h1, h2, h3.stays hr (fun e => by omega) (fun j hj e => by have := h5 j hj; omega), h4, h5⟩
theorem CpS.far {w0 wx wy : World} {base : Nat} {B : List Nat} {k cp : Nat} {st : Option (Nat × Value × Nat)} {S : Nat → Prop} (h0 : CpS w0 base B k cp st) (h : CpS wx base B k cp st) (hr : Rest S wx wy) (hS : ∀ i, S i → w0.heap.size ≤ i) : CpS wy base B k cp st := by
  cases st with
  | none => exact h
  | some x =>
    obtain ⟨ob, ov, q⟩ := x
    obtain ⟨_, _, g3, _, _⟩ := h0
    obtain ⟨h1, h2, h3, h4, h5⟩ := h
    have l1 := g3.obj.lt
    exact ⟨h1, h2, h3.stays hr (fun e => by have := hS _ e; omega) (fun j hj e => by have := (g3.row.lt j hj).2; have := hS _ e; omega), h4, h5⟩

theorem CpS.next {wx : World} {base : Nat} {B : List Nat} {k cp : Nat} {st : Option (Nat × Value × Nat)} (h : CpS wx base B k cp st) (hne : k ≠ cp) : CpS wx base B (k + 1) cp st := by
  cases st with
  | none => exact show k + 1 ≤ cp from by have : k ≤ cp := h; omega
  | some x => obtain ⟨ob, ov, q⟩ := x; obtain ⟨h1, h2⟩ := h; exact ⟨by omega, h2⟩

/-- The two answers on a call, the program's and the document's. -/
theorem read_named (b : Nat) (v : Value) (B : List Nat) (p : Nat) (d : ActD) (hB : ∀ c ∈ B, c < 256) (hBl : B.length ≤ 1048576) (hp : p ≤ 8 * B.length) (hk : d.kd ≤ 255) :
    ∃ (q x : Nat) (bs : List Nat) (code : Int), q ≤ 8 * B.length ∧ (∀ c ∈ bs, c < 256) ∧ bs.length ≤ B.length ∧
      (∀ w, RAt w b v B p → Calls Try.prog 22 #[.pointer (some ⟨b, 0, none⟩), .agg #[.int .u8 d.kd, .int .i64 d.V, .int .i64 d.N, .slice d.A d.B.length d.c]] w fun e w' =>
        ∃ A c, e = .returned (.tuple #[.int .i64 x, .slice A bs.length c, .int .i64 code]) ∧ w'.ownsRow w.heap.size 5 1 (.slice A bs.length c) bs.length (u8s bs) ∧ RLeft b v B q w w') ∧
      (∀ s w, BitE w s (unpack B) → Calls Try.prog 23 #[s, .int .i64 p, .agg #[.int .u8 d.kd, .int .i64 d.V, .int .i64 d.N, .slice d.A d.B.length d.c]] w (RefGave q x bs code w)) := by
  refine ⟨rNext B p d, rVal B p d, rBytes B p d, rCode B p d, rNext_le d hp, rBytes_lt hB, rBytes_len, fun w h => ?_, fun s w h => reading_any s B p d w h hB hBl hp hk⟩
  refine (read_any b v B p d w h hB hBl hp hk).mono ?_
  rintro e w' ⟨s, rfl, h1, h2⟩
  obtain ⟨A, c, rfl⟩ := row_form h1
  exact ⟨A, c, rfl, h1, h2⟩

set_option maxRecDepth 100000 in
set_option maxHeartbeats 8000000 in
theorem reads_fit (A : Option Addr) (cb : Nat) (B : List Nat) (GA : Option Addr) (c : Nat) (L : List ActD) (cp : Nat) (w : World) (hs : SrcAt w (.slice A B.length cb) B) (hB : ∀ x ∈ B, x < 256) (hBl : B.length ≤ 100) (ha : ActsAt w (.slice GA L.length c) L) (hl : L.length ≤ 60) (hcp : cp ≤ 255) :
    Calls Try.prog 4 #[.slice A B.length cb, .slice GA L.length c, .int .u8 cp] w fun e w' => e = .returned (.bool true) ∧ Below w.heap.size w w' := by
  have h : ∀ (i : Nat) (d : ActD), L[i]? = some d → ∃ g o, GA = some ⟨g, o, none⟩ ∧ d.lies w g (o + i * 4) := by
    rcases ha with ⟨_, rfl⟩ | ⟨g, o, c', e, hc⟩
    · intro i d hi; simp at hi
    · cases e
      exact fun i d hi => ⟨g, o, rfl, hc i d hi⟩
  have H := Lib.hid h
  have HBB := Lib.hid hB
  have HS := Lib.hid hs
  have HROW := Lib.hid (World.ownsRow_lit (base := w.heap.size) (e := 5) (size := 1) w #[] 0 (Nat.le_refl _) (Nat.zero_le _) rfl)
  have HSE := Lib.hid (show SrcE (w.alloc (.cells #[] 5)) (.slice A B.length cb) B from .inl (hs.later ((Below.refl _ _).alloc (Nat.le_refl _) _)))
  clear h ha hB hs
  go_enter Try.func4, Try.ntmps4
  go_wp2_with (at_builtin; go_must (refine wpList_append_fresh rfl _ _ rfl rfl HROW.out (by simp) rfl HSE.out (by omega) ?_))
  intro gO capO w1 hrow hb1
  have hbr1 : Below w.heap.size w w1 := ((Below.refl _ w).alloc (Nat.le_refl _) _).trans hb1
  have HR1 := Lib.hid hrow
  have HBR1 := Lib.hid hbr1
  clear hrow hb1 hbr1 HROW HSE
  go_wp2_with fail
  refine (newReader_ok _ B w1 (SrcAt.of_row HR1.out) (by omega)).mono ?_
  rintro e w2 ⟨rb, rv, rfl, hR, hb2, hrb, hrv⟩
  have HRO := Lib.hid (Rest.row (S := fun _ => False) (Rest.below hb2) HR1.out (fun _ _ e => e))
  have hgO := HR1.out.lt gO rfl
  have HR := Lib.hid hR
  have HB2 := Lib.hid (HBR1.out.trans (hb2.mono HBR1.out.size))
  have HNO := Lib.hid (show gO < w1.heap.size ∧ w.heap.size ≤ gO ∧ w1.heap.size ≤ rb from ⟨hgO.2, hgO.1, hrb⟩)
  have HRV := Lib.hid hrv
  clear hR hb2 hrb hrv hgO HR1
  go_wp2_with fail
  go_loopw [10] (fun j wx => ∃ (t : Nat) (D : List Nat), j = .int .i64 t ∧ t ≤ B.length ∧ wx.ownsRow w.heap.size 5 1 (.slice (some ⟨gO, 0, none⟩) B.length capO) B.length (u8s D) ∧ Rest (fun i => i = gO) w2 wx) (fun j _ => B.length - (intOf j).toNat)
  case atStart => exact ⟨0, B, rfl, Nat.zero_le _, HRO.out, Rest.refl _ _⟩
  case round =>
    obtain ⟨t, D, rfl, ht, hrow, hrest⟩ := hrel
    have ROW := Lib.hid hrow
    have RST := Lib.hid hrest
    by_cases htl : t < B.length
    · obtain ⟨y, hy, hcy, hfy⟩ := row_cell hrow htl
      clear hrow hrest
      go_wp2
      go_roundw
      case rel =>
        have e : ((y : Int) + 1) % 256 = (((y + 1) % 256 : Nat) : Int) := by omega
        rw [e]
        exact ⟨t + 1, D.set t ((y + 1) % 256), by go_num, by omega, row_write ROW.out, RST.out.setCell (S := fun i => i = gO) (p := ⟨gO, t, none⟩) (fun _ => rfl) _⟩
      case measure => simp [intOf]; omega
    · obtain rfl : t = B.length := by omega
      have hsz := HB2.out.size
      have hRx : RAt wr rb rv B 0 := HR.out.stays RST.out (fun e => by have := HNO.out; omega) (fun k hk e => by have := HRV.out k hk; have := HNO.out; omega)
      have hBx : Below w.heap.size w wr := HB2.out.trans (RST.out.toBelow w.heap.size HB2.out.size (fun i hi e => by have := HNO.out; omega))
      have HOF := Lib.hid (refOf _ B wr (HS.out.later hBx) HBB.out (by omega))
      have HRX := Lib.hid hRx
      have HBX := Lib.hid hBx
      clear hrow hrest hRx hBx hsz RST ROW HR HRO HRV HB2
      go_wp2_with fail
      refine HOF.out.mono ?_
      rintro e w3 ⟨V, rfl, hall, hb3⟩
      obtain ⟨base, hbase⟩ : ∃ base, wr.heap.size = base := ⟨_, rfl⟩
      have hlow : w.heap.size ≤ rb := by have := HNO.out; have := HBR1.out.size; omega
      have hhigh : rb < base := by rw [← hbase]; exact HRX.out.obj.lt
      have hE0 : RE w w3 base rb rv B 0 V := ⟨HRX.out.below hb3, by rw [← hbase]; exact hall, HBX.out.trans (hb3.mono HBX.out.size), hlow, hhigh, Nat.zero_le _, by rw [← hbase]; exact hb3.size⟩
      obtain ⟨AV, cV, rfl⟩ := row_form hall
      have hul := unpack_length B
      obtain ⟨M, hM⟩ : ∃ M, (unpack B).length = M := ⟨_, rfl⟩
      rw [hM] at hul
      simp only [hM] at hE0 ⊢
      have hu1 : M ≤ 8 * B.length := by omega
      have hu2 : 8 * B.length ≤ M := by omega
      have E0 := Lib.hid hE0
      have HM := Lib.hid hM
      clear hE0 hul hM hall hb3 hbase hlow hhigh HRX HBX HOF HNO HBR1
      go_wp2_with fail
      go_loopw [12, 13, 14, 15] (fun vo va ve vi wx => ∃ (k p : Nat) (st : Option (Nat × Value × Nat)), k ≤ L.length ∧ vo = cpO st ∧ va = .int .i64 p ∧ ve = .int .i64 (cpE st) ∧ vi = .int .i64 k ∧ RE w wx base rb rv B p (.slice AV M cV) ∧ CpS wx base B k cp st) (fun _ _ _ vi _ => L.length - (intOf vi).toNat)
      case atStart => exact ⟨0, 0, none, Nat.zero_le _, rfl, rfl, rfl, rfl, E0.out, Nat.zero_le _⟩
      case round =>
        obtain ⟨k, p, st, hk, rfl, rfl, rfl, rfl, hE, hC⟩ := hrel
        have E := Lib.hid hE
        have C := Lib.hid hC
        have hp := hE.le
        clear hE hC
        by_cases hkl : k < L.length
        · obtain ⟨d, hd⟩ : ∃ d, L[k]? = some d := ⟨_, List.getElem?_eq_getElem hkl⟩
          obtain ⟨g, o, hga, hlies⟩ := H.out k d hd
          subst hga
          have LI := Lib.hid hlies
          clear hlies
          have HD := Lib.hid hd
          clear hd
          go_upto_if 70 with fail
          go_cut [12, 14] from 61 to 138 (fun x12 x14 wx => ∃ st', x12 = cpO st' ∧ x14 = .int .i64 (cpE st') ∧ RE w wx base rb rv B p (.slice AV M cV) ∧ CpS wx base B (k + 1) cp st')
          case first =>
            by_cases hq : k = cp
            · subst hq
              go_wp2_with fail
              refine (copyR_any rb rv B p wr E.out.at_ (by omega)).mono ?_
              rintro e w4 ⟨b2, v2, rfl, hR, hb, h1, h2⟩
              have hs := E.out.sz
              have HF := Lib.hid (And.intro (E.out.below hb) (show CpS w4 base B (k + 1) k (some (b2, v2, p)) from ⟨by omega, hp, hR, by omega, fun j hj => Nat.le_trans hs (h2 j hj)⟩))
              clear hR hb h1 h2 hs
              go_wp2
              go_meet
              case rel => exact ⟨some (b2, v2, p), rfl, rfl, HF.out.1, HF.out.2⟩
            · have qk : ((k : Int) == (cp : Int)) = false := by simp; omega
              have HC := Lib.hid (C.out.next hq)
              clear hq
              go_wp2
              go_meet
              case rel => exact ⟨st, rfl, rfl, E.out, HC.out⟩
          case rest =>
            obtain ⟨st', rfl, rfl, hE, hC⟩ := hcut
            clear E C
            obtain ⟨hg, c0, c1, c2, c3, _, _, hkd, _⟩ := LI.out.later hE.blw
            obtain ⟨q, x, bs, code, hq, hbs, hbl, hrd, hrg⟩ := read_named rb rv B p d HBB.out (by omega) hp hkd
            have HRD := Lib.hid (hrd wc hE.at_)
            have HRG := Lib.hid hrg
            have HBS := Lib.hid hbs
            have E := Lib.hid hE
            have C := Lib.hid hC
            clear hrd hrg hbs hE hC
            go_wp2_with fail
            refine HRD.out.mono ?_
            rintro e w4 ⟨AX, cX, rfl, hX, hL⟩
            have E4 := Lib.hid (E.out.step hL hq)
            have C4 := Lib.hid (C.out.step hL.2 E.out.high)
            obtain ⟨_, c0', c1', c2', c3', _⟩ := LI.out.later E4.out.blw
            have HX := Lib.hid hX
            have HSZ := Lib.hid hL.2.size
            have HG := Lib.hid (HRG.out (.slice AV M cV) w4 (BitE.of_row E4.out.all))
            clear hX hL c0 c1 c2 c3 HRD HRG
            go_wp2_with fail
            refine HG.out.mono ?_
            rintro e w5 ⟨AY, cY, rfl, hY, hb5⟩
            have cv1 := conv_src ((SrcAt.of_row HX.out).later hb5) HBS.out
            have cv2 := conv_src (SrcAt.of_row hY) HBS.out
            have E5 := Lib.hid (E4.out.below hb5)
            have C5 := Lib.hid (C4.out.below hb5)
            have HX5 := Lib.hid (Rest.row (S := fun _ => False) (Rest.below hb5) HX.out (fun _ _ e => e))
            have HLF := left_any rb rv B q w5 E5.out.at_ (by omega) hq
            rw [show 8 * (B.length : Int) - q = (M : Int) - q by omega] at HLF
            have HLF := Lib.hid HLF
            have HSZ5 := Lib.hid (Nat.le_trans HSZ.out hb5.size)
            clear hY hb5 c0' c1' c2' c3' HG HX HSZ
            go_wp2_with fail
            refine (place_any rb rv B q w5 E5.out.at_).mono ?_
            rintro e w' ⟨rfl, rfl⟩
            go_wp2_with fail
            refine HLF.out.mono ?_
            rintro e w6 ⟨rfl, nd, hw6⟩
            have hb6 : Below w5.heap.size w5 w6 := by rw [hw6]; exact below_drewN (Below.refl _ _) nd
            have E6 := Lib.hid (E5.out.below hb6)
            have C6 := Lib.hid (C5.out.below hb6)
            have HX6 := Lib.hid (Rest.row (S := fun _ => False) (Rest.below hb6) HX5.out (fun _ _ e => e))
            clear hw6 hb6 cv1 cv2 HLF HX5
            go_wp2_with fail
            go_loopw [23] (fun j wx => ∃ (t : Nat) (D : List Nat), j = .int .i64 t ∧ t ≤ bs.length ∧ wx.ownsRow wc.heap.size 5 1 (.slice AX bs.length cX) bs.length (u8s D) ∧ Rest (fun i => (Value.slice AX bs.length cX).ownBlock = some i) w6 wx) (fun j _ => bs.length - (intOf j).toNat)
            case atStart => exact ⟨0, bs, rfl, Nat.zero_le _, HX6.out, Rest.refl _ _⟩
            case round =>
              obtain ⟨t, D, rfl, ht, hrow, hrest⟩ := hrel
              have ROW := Lib.hid hrow
              have RST := Lib.hid hrest
              by_cases htl : t < bs.length
              · rcases Joins.ownsRow_forms hrow with ⟨e, e0⟩ | ⟨gb, cb, e⟩
                · omega
                · simp only [Value.slice.injEq] at e
                  obtain ⟨rfl, _, rfl⟩ := e
                  obtain ⟨y, hy, hcy, hfy⟩ := row_cell hrow htl
                  clear hrow hrest
                  go_wp2
                  go_roundw
                  case rel =>
                    have e : ((y : Int) + 1) % 256 = (((y + 1) % 256 : Nat) : Int) := by omega
                    rw [e]
                    exact ⟨t + 1, D.set t ((y + 1) % 256), by go_num, by omega, row_write ROW.out, RST.out.setCell (S := fun i => (Value.slice (some ⟨gb, 0, none⟩) bs.length cb).ownBlock = some i) (p := ⟨gb, t, none⟩) (fun _ => rfl) _⟩
                  case measure => simp [intOf]; omega
              · obtain rfl : t = bs.length := by omega
                have hfar : ∀ i, (Value.slice AX bs.length cX).ownBlock = some i → wc.heap.size ≤ i := fun i hi => (HX6.out.lt i hi).1
                have EZ := Lib.hid (RE.far E.out E6.out RST.out hfar)
                have CZ := Lib.hid (CpS.far C.out C6.out RST.out hfar)
                clear hrow hrest hfar ROW RST HX6
                go_wp2
                go_roundw
                case rel => exact ⟨k + 1, q, st', by omega, rfl, rfl, rfl, by go_num, EZ.out, CZ.out⟩
                case measure => simp [intOf]; omega
        · obtain rfl : k = L.length := by omega
          by_cases hcl : cp < L.length
          · cases st with
            | none => exact absurd (show L.length ≤ cp from C.out) (by omega)
            | some x =>
              obtain ⟨ob, ov, q⟩ := x
              obtain ⟨h1, h2, h3, h4, h5⟩ := C.out
              simp only [cpO, cpE]
              have R0 := Lib.hid h3
              have hoq := h2
              have HL1 := left_any ob ov B q wr h3 (by omega) h2
              rw [show 8 * (B.length : Int) - q = (M : Int) - q by omega] at HL1
              have HL1 := Lib.hid HL1
              have HOB := Lib.hid h4
              clear h1 h2 h3 h4 h5 C
              go_wp2_with fail
              refine (place_any ob ov B q wr R0.out).mono ?_
              rintro e w' ⟨rfl, rfl⟩
              go_wp2_with fail
              refine HL1.out.mono ?_
              rintro e w6 ⟨rfl, nd, hw6⟩
              have hb6 : Below wr.heap.size wr w6 := by rw [hw6]; exact below_drewN (Below.refl _ _) nd
              have E6 := Lib.hid (E.out.below hb6)
              have R6 := Lib.hid (R0.out.below hb6)
              have HL2 := left_any ob ov B q w6 R6.out (by omega) hoq
              rw [show 8 * (B.length : Int) - q = (M : Int) - q by omega] at HL2
              have HL2 := Lib.hid HL2
              clear hw6 hb6 HL1 R0
              go_wp2_with fail
              refine HL2.out.mono ?_
              rintro e w7 ⟨rfl, nd2, hw7⟩
              have hb7 : Below w6.heap.size w6 w7 := by rw [hw7]; exact below_drewN (Below.refl _ _) nd2
              have E7 := Lib.hid (E6.out.below hb7)
              have R7 := Lib.hid (R6.out.below hb7)
              have hsk := skip_ok ob ov B q (8 * B.length - q) w7 R7.out (by omega) (by omega)
              rw [show ((8 * B.length - q : Nat) : Int) = (M : Int) - q by omega] at hsk
              have HSK := Lib.hid hsk
              clear hw7 hb7 hsk HL2 E6 R6
              go_wp2_with fail
              refine HSK.out.mono ?_
              rintro e w8 ⟨rfl, hl8⟩
              have hRb : RAt w8 rb rv B p := E7.out.at_.stays hl8.2 (fun e => by have := E7.out.high; have := HOB.out; omega) (fun j hj e => row_not_obj E7.out.at_.row R7.out.obj (by decide) (by rw [hj, e]))
              have hB8 : Below w.heap.size w w8 := E7.out.blw.trans (hl8.2.toBelow w.heap.size E7.out.blw.size (fun i hi e => by have := E7.out.high; have := E7.out.low; have := HOB.out; omega))
              have RB := Lib.hid hRb
              have B8 := Lib.hid hB8
              clear hRb hB8 hl8 HSK
              go_wp2_with fail
              refine (place_any rb rv B p w8 RB.out).mono ?_
              rintro e w' ⟨rfl, rfl⟩
              go_wp2_with fail
              refine (known_any _).mono ?_
              rintro e wk ⟨rfl, hbk⟩
              have HBK := Lib.hid (B8.out.trans (hbk.mono B8.out.size))
              clear hbk
              go_wp2
              go_ret
              exact ⟨rfl, HBK.out⟩
          · have R0 := Lib.hid E.out.at_
            clear C
            go_wp2_with fail
            refine (place_any rb rv B p wr R0.out).mono ?_
            rintro e w' ⟨rfl, rfl⟩
            go_wp2_with fail
            refine (known_any _).mono ?_
            rintro e wk ⟨rfl, hbk⟩
            have HBK := Lib.hid (E.out.blw.trans (hbk.mono E.out.blw.size))
            clear hbk
            go_wp2
            go_ret
            exact ⟨rfl, HBK.out⟩

set_option maxRecDepth 100000 in
set_option maxHeartbeats 800000 in
theorem reads_not (A : Option Addr) (m cb : Nat) (GA : Option Addr) (n c cp : Nat) (w : World) (hm : m ≤ 9223372036854775807) (hn : n ≤ 9223372036854775807) (h : 60 < n ∨ 100 < m) :
    Calls Try.prog 4 #[.slice A m cb, .slice GA n c, .int .u8 cp] w fun e w' => e = .returned (.bool true) ∧ Below w.heap.size w w' := by
  by_cases h1 : 60 < n
  · clear h
    go_enter Try.func4, Try.ntmps4
    go_wp2_with fail
    refine (known_any _).mono ?_
    rintro e w1 ⟨rfl, hb⟩
    have HB := Lib.hid hb
    clear hb
    go_wp2
    go_ret
    exact ⟨rfl, HB.out⟩
  · have h2 : 100 < m := by omega
    clear h
    go_enter Try.func4, Try.ntmps4
    go_wp2_with fail
    refine (known_any _).mono ?_
    rintro e w1 ⟨rfl, hb⟩
    have HB := Lib.hid hb
    clear hb
    go_wp2
    go_ret
    exact ⟨rfl, HB.out⟩
end Go.Proofs.Ytboiiohpkoodpaa
