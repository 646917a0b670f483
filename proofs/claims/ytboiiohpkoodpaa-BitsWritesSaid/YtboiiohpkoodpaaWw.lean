/- The walk of BitsWrites: it returns true and changes nothing that was there. Conditions: the calls lie in memory. -/
import Derived.Test.YtboiiohpkoodpaaWf
import Derived.Deep.CutRange
namespace Go.Proofs.Ytboiiohpkoodpaa
open Go.RowKit Go.Shelf

theorem wNext_few (l : List Bool) (d : ActD) (hd : d.B.length ≤ 50) : (wNext l d).length ≤ l.length + 4200 := by
  unfold wNext
  split
  · rename_i h
    rw [List.length_append]
    have : (wBits l d).length ≤ 4200 := by
      unfold wCode at h
      unfold wBits
      split
      · rename_i k0
        rw [if_pos k0] at h
        obtain ⟨a, m, e1, e2, h1, h2, _⟩ := put_zero_iff h
        rw [digs_length, e2]
        omega
      · rename_i n0
        rw [if_neg n0] at h
        split
        · rename_i k1
          rw [if_pos k1] at h
          obtain ⟨a, m, e1, e2, h1, h2, _⟩ := little_zero_iff h
          rw [unpack_length, leBytes_length, e2]
          omega
        · rename_i n1
          rw [if_neg n1] at h
          split
          · rw [unpack_length]; omega
          · rename_i n2
            rw [if_neg n2] at h
            obtain ⟨m, e2, h1, h2, h3⟩ := align_zero_iff h
            rw [List.length_replicate, e2, show ((m : Nat) : Int).toNat = m by omega]
            have := bord_lt l.length m h1
            omega
    omega
  · omega

theorem packsW_lt (l : List Bool) : ∀ c ∈ packs l, c < 256 := by
  intro c hc
  simp only [packs, List.mem_map] at hc
  obtain ⟨i, _, rfl⟩ := hc
  exact byteOf_lt l i

/-- What lies in memory between two calls: the writer with the bits l, and the document's bits la. -/
structure WE (w wx : World) (base wb : Nat) (v : Value) (l : List Bool) (V : Value) (la : List Bool) : Prop where
  at_ : WAt wx wb v l
  all : wx.ownsRow base 4 1 V la.length (bools la)
  blw : Below w.heap.size w wx
  own : ∀ j, v.ownBlock = some j → w.heap.size ≤ j
  low : w.heap.size ≤ wb
  high : wb < base
  sz : base ≤ wx.heap.size

theorem WE.below {w wx wy : World} {base wb : Nat} {v : Value} {l : List Bool} {V : Value} {la : List Bool} (h : WE w wx base wb v l V la) (hb : Below wx.heap.size wx wy) : WE w wy base wb v l V la :=
  ⟨h.at_.below hb, Rest.row (S := fun _ => False) (Rest.below hb) h.all (fun _ _ e => e), h.blw.trans (hb.mono h.blw.size), h.own, h.low, h.high, Nat.le_trans h.sz hb.size⟩
theorem WE.rest {w wx wy : World} {base wb : Nat} {v : Value} {l : List Bool} {V : Value} {la : List Bool} {S : Nat → Prop} (h : WE w wx base wb v l V la) (hr : Rest S wx wy) (h0 : ¬ S wb) (h1 : ∀ j, v.ownBlock = some j → ¬ S j) (h2 : ∀ j, V.ownBlock = some j → ¬ S j) (h3 : ∀ i, S i → w.heap.size ≤ i) : WE w wy base wb v l V la :=
  ⟨h.at_.stays hr h0 h1, hr.row h.all h2, h.blw.trans (hr.toBelow w.heap.size h.blw.size (fun i hi e => by have := h3 i e; omega)), h.own, h.low, h.high, Nat.le_trans h.sz hr.size⟩
theorem WE.far {w w0 wx wy : World} {base wb : Nat} {v : Value} {l : List Bool} {V : Value} {la : List Bool} {S : Nat → Prop} (h0 : WE w w0 base wb v l V la) (h : WE w wx base wb v l V la) (hr : Rest S wx wy) (hS : ∀ i, S i → w0.heap.size ≤ i) : WE w wy base wb v l V la :=
  h.rest hr (fun e => by have := hS _ e; have := h0.at_.obj.lt; omega) (fun j hj e => by have := hS _ e; have := (h0.at_.row.lt j hj).2; omega) (fun j hj e => by have := hS _ e; have := (h0.all.lt j hj).2; omega) (fun i e => by have := hS _ e; have := h0.blw.size; omega)
theorem WE.wrote {w wx wy : World} {base wb : Nat} {v v2 : Value} {l l2 : List Bool} {V : Value} {la : List Bool} (h : WE w wx base wb v l V la) (hw : WAt wy wb v2 l2) (hst : WStep wb v v2 wx wy) : WE w wy base wb v2 l2 V la := by
  have hr := hst.rest
  refine ⟨hw, hr.row h.all (fun j hj e => ?_), h.blw.trans (hr.toBelow w.heap.size h.blw.size (fun i hi e => ?_)), fun j hj => ?_, h.low, h.high, Nat.le_trans h.sz hr.size⟩
  · rcases e with e | e
    · have := (h.all.lt j hj).1; have := h.high; omega
    · exact rows_apart h.all h.at_.row (by decide) j hj e
  · rcases e with e | e
    · have := h.low; omega
    · have := h.own i e; omega
  · rcases hst.row j hj with e | e
    · exact h.own j e
    · have := h.blw.size; omega
theorem WE.said {w wx wy : World} {base wb : Nat} {v : Value} {l : List Bool} {V V2 : Value} {la la2 : List Bool} (h : WE w wx base wb v l V la) (hV : wy.ownsRow base 4 1 V2 la2.length (bools la2)) (hb : Below wx.heap.size wx wy) : WE w wy base wb v l V2 la2 :=
  ⟨h.at_.below hb, hV, h.blw.trans (hb.mono h.blw.size), h.own, h.low, h.high, Nat.le_trans h.sz hb.size⟩

theorem WE.aside {w wx wy : World} {base wb ob : Nat} {v ov ov' : Value} {l le : List Bool} {V : Value} {la : List Bool} (h : WE w wx base wb v l V la) (ho : WAt wx ob ov le) (hob : base ≤ ob) (hov : ∀ j, ov.ownBlock = some j → base ≤ j ∧ v.ownBlock ≠ some j) (hst : WStep ob ov ov' wx wy) : WE w wy base wb v l V la := by
  refine h.rest hst.rest (fun e => ?_) (fun j hj e => ?_) (fun j hj e => ?_) (fun i e => ?_)
  · rcases e with e | e
    · have := h.high; omega
    · have := (hov _ e).1; have := h.high; omega
  · rcases e with e | e
    · subst e; exact row_not_obj h.at_.row ho.obj (by decide) hj
    · exact (hov j e).2 hj
  · rcases e with e | e
    · subst e; exact row_not_obj h.all ho.obj (by decide) hj
    · exact rows_apart h.all ho.row (by decide) j hj e
  · have := h.low; have := h.high
    rcases e with e | e
    · omega
    · have := (hov _ e).1; omega

/-- The two answers on a call, the program's and the document's. -/
theorem write_named (wb : Nat) (l : List Bool) (d : ActD) (hd50 : d.B.length ≤ 50) (hll : l.length ≤ 252000) (hB : ∀ x ∈ d.B, x < 256) (hk : d.kd ≤ 255) :
    ∃ (l2 : List Bool) (code : Int), l2.length ≤ l.length + 4200 ∧
      (∀ (v : Value) (A : Option Addr) (c : Nat) (w : World), WAt w wb v l → SrcE w (.slice A d.B.length c) d.B → Calls Try.prog 13 #[.pointer (some ⟨wb, 0, none⟩), .agg #[.int .u8 d.kd, .int .i64 d.V, .int .i64 d.N, .slice A d.B.length c]] w fun e w' =>
        e = .returned (.int .i64 code) ∧ ∃ v2, WAt w' wb v2 l2 ∧ WStep wb v v2 w w') ∧
      (∀ (base : Nat) (A : Option Addr) (c : Nat) (w : World), w.ownsRow base 4 1 (.slice A l.length c) l.length (bools l) → base ≤ w.heap.size → SrcE w (.slice d.A d.B.length d.c) d.B →
        Calls Try.prog 14 #[.slice A l.length c, .agg #[.int .u8 d.kd, .int .i64 d.V, .int .i64 d.N, .slice d.A d.B.length d.c]] w (RefWrote base l2 code w)) :=
  ⟨wNext l d, wCode l d, wNext_few l d hd50, fun v A c w h hs => write_any wb v l { d with A := A, c := c } w h (by omega) hs hB hk (by show d.B.length ≤ _; omega),
    fun base A c w h hb hs => written_any A c l base d w h hb (by omega) hs hB (by omega) hk⟩

/-- The copy, ahead of call number k: its block, its row, its bits, and the document's slice of them. -/
def CpW (wx : World) (base k cp : Nat) (v : Value) : Option (Nat × Value × List Bool × Option Addr × Nat) → Prop
  | none => k ≤ cp
  | some (ob, ov, le, Ae, ce) => cp < k ∧ WAt wx ob ov le ∧ wx.ownsRow base 4 1 (.slice Ae le.length ce) le.length (bools le) ∧ base ≤ ob ∧ (∀ j, ov.ownBlock = some j → base ≤ j ∧ v.ownBlock ≠ some j) ∧ le.length ≤ 252000
def cwO : Option (Nat × Value × List Bool × Option Addr × Nat) → Value
  | none => .pointer none
  | some (ob, _, _, _, _) => .pointer (some ⟨ob, 0, none⟩)
def cwE : Option (Nat × Value × List Bool × Option Addr × Nat) → Value
  | none => .slice none 0 0
  | some (_, _, le, Ae, ce) => .slice Ae le.length ce

theorem CpW.below {wx wy : World} {base k cp : Nat} {v : Value} {st : Option (Nat × Value × List Bool × Option Addr × Nat)} (h : CpW wx base k cp v st) (hb : Below wx.heap.size wx wy) : CpW wy base k cp v st := by
  cases st with
  | none => exact h
  | some x => obtain ⟨ob, ov, le, Ae, ce⟩ := x; obtain ⟨h1, h2, h3, h4, h5, h6⟩ := h; exact ⟨h1, h2.below hb, Rest.row (S := fun _ => False) (Rest.below hb) h3 (fun _ _ e => e), h4, h5, h6⟩
theorem CpW.next {wx : World} {base k cp : Nat} {v : Value} {st : Option (Nat × Value × List Bool × Option Addr × Nat)} (h : CpW wx base k cp v st) (hne : k ≠ cp) : CpW wx base (k + 1) cp v st := by
  cases st with
  | none => exact show k + 1 ≤ cp from by have : k ≤ cp := h; omega
  | some x => obtain ⟨ob, ov, le, Ae, ce⟩ := x; obtain ⟨h1, h2⟩ := h; exact ⟨by omega, h2⟩
theorem CpW.far {w0 wx wy : World} {base k cp : Nat} {v0 v : Value} {st : Option (Nat × Value × List Bool × Option Addr × Nat)} {S : Nat → Prop} (h0 : CpW w0 base k cp v0 st) (h : CpW wx base k cp v st) (hr : Rest S wx wy) (hS : ∀ i, S i → w0.heap.size ≤ i) : CpW wy base k cp v st := by
  cases st with
  | none => exact h
  | some x =>
    obtain ⟨ob, ov, le, Ae, ce⟩ := x
    obtain ⟨_, g2, g3, _, _, _⟩ := h0
    obtain ⟨h1, h2, h3, h4, h5, h6⟩ := h
    have l1 := g2.obj.lt
    exact ⟨h1, h2.stays hr (fun e => by have := hS _ e; omega) (fun j hj e => by have := (g2.row.lt j hj).2; have := hS _ e; omega), hr.row h3 (fun j hj e => by have := (g3.lt j hj).2; have := hS _ e; omega), h4, h5, h6⟩
theorem CpW.wrote {wx wy : World} {base wb k cp : Nat} {v v2 : Value} {l : List Bool} {st : Option (Nat × Value × List Bool × Option Addr × Nat)} (h : CpW wx base k cp v st) (hW : WAt wx wb v l) (hwb : wb < base) (hst : WStep wb v v2 wx wy) : CpW wy base k cp v2 st := by
  cases st with
  | none => exact h
  | some x =>
    obtain ⟨ob, ov, le, Ae, ce⟩ := x
    obtain ⟨h1, h2, h3, h4, h5, h6⟩ := h
    have hr := hst.rest
    refine ⟨h1, h2.stays hr (fun e => ?_) (fun j hj e => ?_), hr.row h3 (fun j hj e => ?_), h4, fun j hj => ⟨(h5 j hj).1, fun e => ?_⟩, h6⟩
    · rcases e with e | e
      · omega
      · exact row_not_obj hW.row h2.obj (by decide) e
    · rcases e with e | e
      · have := (h5 j hj).1; omega
      · exact (h5 j hj).2 e
    · rcases e with e | e
      · have := (h3.lt j hj).1; omega
      · exact rows_apart h3 hW.row (by decide) j hj e
    · rcases hst.row j e with e' | e'
      · exact (h5 j hj).2 e'
      · have := (h2.row.lt j hj).2; omega

set_option maxRecDepth 100000 in
set_option maxHeartbeats 8000000 in
theorem writes_fit (GA : Option Addr) (c : Nat) (L : List ActD) (cp : Nat) (w : World) (ha : ActsAt w (.slice GA L.length c) L) (hl : L.length ≤ 60) (hB : ∀ d ∈ L, d.B.length ≤ 50) (hcp : cp ≤ 255) :
    Calls Try.prog 3 #[.slice GA L.length c, .int .u8 cp] w fun e w' => e = .returned (.bool true) ∧ Below w.heap.size w w' := by
  have hsm : smallB L = true := by
    unfold smallB
    simp
    exact ⟨hB, hl⟩
  have hfit := acts_fit _ L w ha (by omega)
  have h : ∀ (i : Nat) (d : ActD), L[i]? = some d → ∃ g o, GA = some ⟨g, o, none⟩ ∧ d.lies w g (o + i * 4) := by
    rcases ha with ⟨_, rfl⟩ | ⟨g, o, c', e, hc⟩
    · intro i d hi; simp at hi
    · cases e
      exact fun i d hi => ⟨g, o, rfl, hc i d hi⟩
  rw [hsm] at hfit
  have HF := Lib.hid hfit
  have H := Lib.hid h
  have HBL := Lib.hid hB
  clear h hB hfit hsm ha
  go_enter Try.func3, Try.ntmps3
  go_wp2_with fail
  refine HF.out.mono ?_
  rintro e w' ⟨rfl, rfl⟩
  clear HF
  go_wp2_with fail
  refine (newWriter_any _).mono ?_
  rintro e w1 ⟨rfl, hW1, hb1⟩
  obtain ⟨wb, hwb⟩ : ∃ wb, w.heap.size = wb := ⟨_, rfl⟩
  have hE0 : WE w w1 w1.heap.size w.heap.size (.slice none 0 0) [] (.slice none 0 0) [] := ⟨hW1, ⟨by simp [bools], .inl ⟨rfl, rfl⟩⟩, hb1, fun j hj => by simp [Value.ownBlock] at hj, Nat.le_refl _, hW1.obj.lt, Nat.le_refl _⟩
  obtain ⟨base, hbase⟩ : ∃ base, w1.heap.size = base := ⟨_, rfl⟩
  have hlo : w.heap.size ≤ wb := Nat.le_of_eq hwb
  rw [hwb] at hE0 ⊢
  rw [hbase] at hE0
  have E0 := Lib.hid (show WE w w1 base wb (.slice none 0 0) [] (.slice none 0 0) [] from ⟨hE0.at_, hE0.all, hE0.blw, hE0.own, hE0.low, hE0.high, hE0.sz⟩)
  have HWB := Lib.hid hwb
  clear hE0 hW1 hb1 hwb hbase hlo
  go_wp2_with fail
  go_loopw [6, 7, 8, 9] (fun vo va ve vi wx => ∃ (k : Nat) (v : Value) (l : List Bool) (A : Option Addr) (ca : Nat) (st : Option (Nat × Value × List Bool × Option Addr × Nat)), k ≤ L.length ∧ l.length ≤ 4200 * k ∧ vo = cwO st ∧ va = .slice A l.length ca ∧ ve = cwE st ∧ vi = .int .i64 k ∧ WE w wx base wb v l (.slice A l.length ca) l ∧ CpW wx base k cp v st) (fun _ _ _ vi _ => L.length - (intOf vi).toNat)
  case atStart => exact ⟨0, .slice none 0 0, [], none, 0, none, Nat.zero_le _, Nat.le_refl _, rfl, rfl, rfl, rfl, E0.out, Nat.zero_le _⟩
  case round =>
    obtain ⟨k, v, l, A, ca, st, hk, hll, rfl, rfl, rfl, rfl, hE, hC⟩ := hrel
    have E := Lib.hid hE
    have C := Lib.hid hC
    clear hE hC
    by_cases hkl : k < L.length
    · obtain ⟨d, hd⟩ : ∃ d, L[k]? = some d := ⟨_, List.getElem?_eq_getElem hkl⟩
      obtain ⟨g, o, hga, hlies⟩ := H.out k d hd
      subst hga
      have hd50 := HBL.out d (List.mem_of_getElem? hd)
      have LI := Lib.hid hlies
      have HD := Lib.hid hd
      clear hlies hd
      go_upto_if 32 with fail
      go_cut [6, 8] from 23 to 105 (fun x6 x8 wx => ∃ st', x6 = cwO st' ∧ x8 = cwE st' ∧ WE w wx base wb v l (.slice A l.length ca) l ∧ CpW wx base (k + 1) cp v st')
      case first =>
        by_cases hq : k = cp
        · subst hq
          go_wp2_with fail
          refine (copyW_any wb v l wr E.out.at_ (by omega)).mono ?_
          rintro e w4 ⟨b2, v2, rfl, hR, hb, h1, h2⟩
          have hs := E.out.sz
          have hE4 := E.out.below hb
          have HF := Lib.hid (And.intro hE4 (show CpW w4 base (k + 1) k v (some (b2, v2, l, A, ca)) from ⟨by omega, hR, hE4.all, by omega, fun j hj => ⟨Nat.le_trans hs (h2 j hj), fun e => by have := (E.out.at_.row.lt j e).2; have := h2 j hj; omega⟩, by omega⟩))
          clear hR hb h1 h2 hs hE4
          go_wp2
          go_meet
          case rel => exact ⟨some (b2, v2, l, A, ca), rfl, rfl, HF.out.1, HF.out.2⟩
        · have qk : ((k : Int) == (cp : Int)) = false := by simp; omega
          have HC := Lib.hid (C.out.next hq)
          clear hq
          go_wp2
          go_meet
          case rel => exact ⟨st, rfl, rfl, E.out, HC.out⟩
      case rest =>
        obtain ⟨st', rfl, rfl, hE, hC⟩ := hcut
        clear E C
        have hl1 := LI.out.later hE.blw
        obtain ⟨hg, c0, c1, c2, c3, hse, h256, hkd, _⟩ := hl1
        have E := Lib.hid hE
        have C := Lib.hid hC
        have HROW := Lib.hid (World.ownsRow_lit (base := wc.heap.size) (e := 5) (size := 1) wc #[] 0 (Nat.le_refl _) (Nat.zero_le _) rfl)
        have HSE := Lib.hid (show SrcE (wc.alloc (.cells #[] 5)) (.slice d.A d.B.length d.c) d.B from hse.later ((Below.refl _ _).alloc (Nat.le_refl _) _))
        have H256 := Lib.hid h256
        clear hE hC hse h256
        go_wp2_with (at_builtin; go_must (refine wpList_append_fresh rfl _ _ rfl rfl HROW.out (by simp) rfl HSE.out (by omega) ?_))
        intro gO capO w3 hrow hb3
        have hb03 : Below wc.heap.size wc w3 := ((Below.refl _ wc).alloc (Nat.le_refl _) _).trans hb3
        have E3 := Lib.hid (E.out.below hb03)
        have C3 := Lib.hid (C.out.below hb03)
        have HO := Lib.hid hrow
        have HGO := Lib.hid (hrow.lt gO rfl)
        obtain ⟨_, c0, c1, c2, c3, _⟩ := LI.out.later E3.out.blw
        clear hrow hb3 hb03 HROW HSE
        obtain ⟨l2, code, hl2, hwr, hwn⟩ := write_named wb l d hd50 (by omega) H256.out hkd
        have hba : Below w3.heap.size w3 (w3.alloc (.cells #[.int .u8 d.kd, .int .i64 d.V, .int .i64 d.N, .slice (some ⟨gO, 0, none⟩) d.B.length capO] 30)) := (Below.refl _ _).alloc (Nat.le_refl _) _
        have hEa := E3.out.below hba
        have HWR := Lib.hid (hwr v (some ⟨gO, 0, none⟩) capO _ hEa.at_ (.inl ((SrcAt.of_row HO.out).later hba)))
        have HWN := Lib.hid hwn
        have EA := Lib.hid hEa
        have CA := Lib.hid (C3.out.below hba)
        have HOA := Lib.hid (Rest.row (S := fun _ => False) (Rest.below hba) HO.out (fun _ _ e => e))
        have HBA := Lib.hid hba
        clear hwr hwn hEa hba HO
        go_wp2_with fail
        refine HWR.out.mono ?_
        rintro e w4 ⟨rfl, v2, hw2, hst⟩
        have hgo := HGO.out
        have hbs := E.out.sz
        have hhi := E.out.high
        have hsa := HBA.out.size
        have hE4 := EA.out.wrote hw2 hst
        have hmo : ¬ Mine wb v gO := fun hm => by
          rcases hm with e | e
          · omega
          · have := (E.out.at_.row.lt gO e).2; omega
        have HO4 := Lib.hid (Rest.row hst.rest HOA.out (fun j hj e => by
          have e' : gO = j := by simpa [Value.ownBlock] using hj
          subst e'; exact hmo e))
        have HV2 := Lib.hid (show v2.ownBlock ≠ some gO from fun e => by
          rcases hst.row gO e with e' | e'
          · exact hmo (.inr e')
          · omega)
        have C4 := Lib.hid (CA.out.wrote EA.out.at_ hhi hst)
        have E4 := Lib.hid hE4
        obtain ⟨_, c0', c1', c2', c3', hse4, _⟩ := LI.out.later hE4.blw
        have HWD := Lib.hid (HWN.out base A ca w4 hE4.all hE4.sz hse4)
        clear hw2 hst hgo hbs hhi hsa hE4 hmo hse4 c0 c1 c2 c3 HWR HWN HOA EA CA HBA
        go_wp2_with fail
        refine HWD.out.mono ?_
        rintro e w5 ⟨A2, ca2, rfl, hr5, hb5⟩
        have E5 := Lib.hid (E4.out.said hr5 hb5)
        have C5 := Lib.hid (C4.out.below hb5)
        have HO5 := Lib.hid (Rest.row (S := fun _ => False) (Rest.below hb5) HO4.out (fun _ _ e => e))
        clear hr5 hb5 c0' c1' c2' c3' HWD HO4 E4 C4
        go_wp2_with fail
        go_loopw [15] (fun j wx => ∃ (t : Nat) (D : List Nat), j = .int .i64 t ∧ t ≤ d.B.length ∧ wx.ownsRow wc.heap.size 5 1 (.slice (some ⟨gO, 0, none⟩) d.B.length capO) d.B.length (u8s D) ∧ Rest (fun i => i = gO) w5 wx) (fun j _ => d.B.length - (intOf j).toNat)
        case atStart => exact ⟨0, d.B, rfl, Nat.zero_le _, HO5.out, Rest.refl _ _⟩
        case round =>
          obtain ⟨t, D, rfl, ht, hrow, hrest⟩ := hrel
          have ROW := Lib.hid hrow
          have RST := Lib.hid hrest
          by_cases htl : t < d.B.length
          · obtain ⟨y, hy, hcy, hfy⟩ := row_cell hrow htl
            clear hrow hrest
            go_wp2
            go_roundw
            case rel =>
              have e : ((y : Int) + 1) % 256 = (((y + 1) % 256 : Nat) : Int) := by omega
              rw [e]
              exact ⟨t + 1, D.set t ((y + 1) % 256), by go_num, by omega, row_write ROW.out, RST.out.setCell (S := fun i => i = gO) (p := ⟨gO, t, none⟩) (fun _ => rfl) _⟩
            case measure => simp [intOf]; omega
          · obtain rfl : t = d.B.length := by omega
            have hgo := HGO.out
            have hbs := E.out.sz
            have hhi := E.out.high
            have hlo := E.out.low
            have E6 := Lib.hid (E5.out.rest RST.out (fun e => by omega) (fun j hj e => by subst e; exact HV2.out hj) (fun j hj e => by subst e; exact rows_apart E5.out.all HO5.out (by decide) _ hj rfl) (fun i e => by omega))
            have C6 := Lib.hid (CpW.far C.out C5.out RST.out (fun i e => by omega))
            clear hrow hrest hgo hbs hhi hlo ROW RST E5 C5 HO5 HV2 HGO
            have hll2 : l2.length ≤ 256200 := by omega
            have hpl : (packs l2).length ≤ 40000 := by rw [packs_length]; omega
            go_wp2_with fail
            refine (out_any wb v2 l2 wr E6.out.at_ (by omega)).mono ?_
            rintro e w7 ⟨s, rfl, hs7, hb7, _⟩
            obtain ⟨As, cs, rfl⟩ := row_form hs7
            have E7 := Lib.hid (E6.out.below hb7)
            have C7 := Lib.hid (C6.out.below hb7)
            have HS7 := Lib.hid hs7
            have cvA := conv_src ((SrcAt.of_row hs7).later (Below.refl _ w7).drew) (packsW_lt l2)
            have HCV := fun wx (hx : Below w7.heap.size w7 wx) => Lib.hid (conv_src ((SrcAt.of_row hs7).later hx) (packsW_lt l2))
            have HLN := fun wx (hx : Below w7.heap.size w7 wx) => Lib.hid (len_any wb v2 l2 wx (E7.out.at_.below hx))
            have HBY := fun wx (hx : Below w7.heap.size w7 wx) => Lib.hid (refBytes (.slice A2 l2.length ca2) l2 wx (BitE.of_row (E7.out.below hx).all) (by omega))
            have HBR := Lib.hid (Below.refl w7.heap.size w7).drew
            clear hs7 hb7
            go_upto_region 22 with fail
            go_cut [93] from 23 to 105 (fun s93 wx => s93 = .bool false ∧ Below w7.heap.size w7 wx)
            case first =>
              go_region_held (fun w' => w7.heap.size ≤ w'.heap.size) (first | exact HBR.out.size | exact HB8.out.size) (first | (go_at_call 16; refine ((HLN _ HBR.out).out).mono ?_; rintro e w' ⟨rfl, rfl⟩) | (go_at_call 17; refine ((HBY _ HBR.out).out).mono ?_; rintro e w8 ⟨s8, rfl, hs8, hb8⟩; have HB8 := Lib.hid (HBR.out.trans (hb8.mono (Nat.le_refl _))); have cvB := conv_src (SrcAt.of_row hs8) (packsW_lt l2); have cvC := (HCV _ HB8.out).out; obtain ⟨A8, c8, rfl⟩ := row_form hs8; clear hs8 hb8))
              all_goals
                go_wp2
                go_meet
                case rel => exact ⟨rfl, HB8.out⟩
            case rest =>
              obtain ⟨rfl, hbc⟩ := hcut
              have E8 := Lib.hid (E7.out.below hbc)
              have C8 := Lib.hid (C7.out.below hbc)
              have HS8 := Lib.hid (Rest.row (S := fun _ => False) (Rest.below hbc) HS7.out (fun _ _ e => e))
              clear hbc cvA HCV HLN HBY HBR HS7 E7 C7
              go_wp2_with fail
              go_loopw [17] (fun j wx => ∃ (t : Nat) (D : List Nat), j = .int .i64 t ∧ t ≤ (packs l2).length ∧ wx.ownsRow wr.heap.size 5 1 (.slice As (packs l2).length cs) (packs l2).length (u8s D) ∧ Rest (fun i => (Value.slice As (packs l2).length cs).ownBlock = some i) wc wx) (fun j _ => (packs l2).length - (intOf j).toNat)
              case atStart => exact ⟨0, packs l2, rfl, Nat.zero_le _, HS8.out, Rest.refl _ _⟩
              case round =>
                obtain ⟨t, D2, rfl, ht2, hrow, hrest⟩ := hrel
                have ROW := Lib.hid hrow
                have RST := Lib.hid hrest
                by_cases htl2 : t < (packs l2).length
                · rcases Joins.ownsRow_forms hrow with ⟨e, e0⟩ | ⟨gb, cb, e⟩
                  · omega
                  · simp only [Value.slice.injEq] at e
                    obtain ⟨rfl, _, rfl⟩ := e
                    obtain ⟨y, hy, hcy, hfy⟩ := row_cell hrow htl2
                    clear hrow hrest
                    go_wp2
                    go_roundw
                    case rel =>
                      have e : ((y : Int) + 1) % 256 = (((y + 1) % 256 : Nat) : Int) := by omega
                      rw [e]
                      exact ⟨t + 1, D2.set t ((y + 1) % 256), by go_num, by omega, row_write ROW.out, RST.out.setCell (S := fun i => (Value.slice (some ⟨gb, 0, none⟩) (packs l2).length cs).ownBlock = some i) (p := ⟨gb, t, none⟩) (fun _ => rfl) _⟩
                    case measure => simp [intOf]; omega
                · obtain rfl : t = (packs l2).length := by omega
                  have EZ := Lib.hid (WE.far E6.out E8.out RST.out (fun i hi => (HS8.out.lt i hi).1))
                  have CZ := Lib.hid (CpW.far C6.out C8.out RST.out (fun i hi => (HS8.out.lt i hi).1))
                  clear hrow hrest ROW RST HS8
                  go_wp2
                  go_roundw
                  case rel => exact ⟨k + 1, v2, l2, A2, ca2, st', by omega, by omega, rfl, rfl, rfl, by go_num, EZ.out, CZ.out⟩
                  case measure => simp [intOf]; omega
    · obtain rfl : k = L.length := by omega
      have hll2 : l.length ≤ 252000 := by omega
      go_upto_if 110 with fail
      go_cut [] from 106 (fun wx => WE w wx base wb v l (.slice A l.length ca) l)
      case first =>
        by_cases hcl : cp < L.length
        · cases st with
          | none => exact absurd (show L.length ≤ cp from C.out) (by omega)
          | some x =>
            obtain ⟨ob, ov, le, Ae, ce⟩ := x
            obtain ⟨h1, h2, h3, h4, h5, h6⟩ := C.out
            simp only [cwO, cwE]
            have O := Lib.hid h2
            have HR3 := Lib.hid h3
            have HOV := Lib.hid h5
            have HOB := Lib.hid h4
            have HLN := fun wx (hx : Below wr.heap.size wr wx) => Lib.hid (len_any ob ov le wx (O.out.below hx))
            have HOU := fun wx (hx : Below wr.heap.size wr wx) => Lib.hid (out_any ob ov le wx (O.out.below hx) (by omega))
            have HBY := fun wx (hx : Below wr.heap.size wr wx) => Lib.hid (refBytes (.slice Ae le.length ce) le wx (BitE.of_row (Rest.row (S := fun _ => False) (Rest.below hx) h3 (fun _ _ e => e))) (by omega))
            have HPU := fun wx (hx : Below wr.heap.size wr wx) => Lib.hid (show Calls Try.prog 18 #[.pointer (some ⟨ob, 0, none⟩), .int .i64 1, .int .i64 1] wx (Wrote ob ov (le ++ digs 1 1) 0 wx) from put_ok ob ov le 1 1 wx (O.out.below hx) (by omega) (by unfold putCode; rw [if_pos (by decide), if_neg (by omega)]) (by decide) (by decide) (by omega))
            have HBR := Lib.hid (Below.refl wr.heap.size wr).drew
            clear h1 h2 h3 h4 h5 C
            go_upto_region 29 with fail
            go_region_held (fun w' => wr.heap.size ≤ w'.heap.size) (first | exact HBR.out.size | exact HB5.out.size | exact HB6.out.size | exact HB7.out) (first | (go_at_call 16; refine ((HLN _ HBR.out).out).mono ?_; rintro e w' ⟨rfl, rfl⟩) | (go_at_call 15; refine ((HOU _ HBR.out).out).mono ?_; rintro e w5 ⟨s5, rfl, hs5, hb5, _⟩; have HB5 := Lib.hid (HBR.out.trans (hb5.mono (Nat.le_refl _))); have HS5 := Lib.hid hs5; have cvA := conv_src (SrcAt.of_row hs5) (packsW_lt le); obtain ⟨A5, c5, rfl⟩ := row_form hs5; clear hs5 hb5) | (go_at_call 17; refine ((HBY _ HB5.out).out).mono ?_; rintro e w6 ⟨s6, rfl, hs6, hb6⟩; have HB6 := Lib.hid (HB5.out.trans (hb6.mono HB5.out.size)); have cvB := conv_src ((SrcAt.of_row HS5.out).later hb6) (packsW_lt le); have cvC := conv_src (SrcAt.of_row hs6) (packsW_lt le); obtain ⟨A6, c6, rfl⟩ := row_form hs6; clear hs6 hb6) | (go_at_call 18; refine ((HPU _ HB6.out).out).mono ?_; rintro e w7 ⟨rfl, v7, hw7, hst7⟩; have HB7 := Lib.hid (Nat.le_trans HB6.out.size hst7.rest.size); have ST7 := Lib.hid hst7; clear hw7 hst7))
            all_goals
              go_wp2
              go_meet
              case rel => exact (E.out.below HB6.out).aside (O.out.below HB6.out) HOB.out HOV.out ST7.out
        · go_wp2
          go_meet
          case rel => exact E.out
      case rest =>
        have E := Lib.hid hcut
        have HLN := fun wx (hx : Below wc.heap.size wc wx) => Lib.hid (len_any wb v l wx (E.out.at_.below hx))
        have HOU := fun wx (hx : Below wc.heap.size wc wx) => Lib.hid (out_any wb v l wx (E.out.at_.below hx) (by omega))
        have HBY := fun wx (hx : Below wc.heap.size wc wx) => Lib.hid (refBytes (.slice A l.length ca) l wx (BitE.of_row (E.out.below hx).all) (by omega))
        have HBR := Lib.hid (Below.refl wc.heap.size wc).drew
        clear hcut C
        go_upto_region 31 with fail
        go_region_held (fun w' => wc.heap.size ≤ w'.heap.size) (first | exact HBR.out.size | exact HB5.out.size | exact HB6.out.size | exact HB7.out.size) (first | (go_at_call 16; refine ((HLN _ HBR.out).out).mono ?_; rintro e w' ⟨rfl, rfl⟩) | (go_at_call 15; refine ((HOU _ HBR.out).out).mono ?_; rintro e w5 ⟨s5, rfl, hs5, hb5, _⟩; have HB5 := Lib.hid (HBR.out.trans (hb5.mono (Nat.le_refl _))); have HS5 := Lib.hid hs5; have cvA := conv_src (SrcAt.of_row hs5) (packsW_lt l); obtain ⟨A5, c5, rfl⟩ := row_form hs5; clear hs5 hb5) | (go_at_call 17; refine ((HBY _ HB5.out).out).mono ?_; rintro e w6 ⟨s6, rfl, hs6, hb6⟩; have HB6 := Lib.hid (HB5.out.trans (hb6.mono HB5.out.size)); have cvB := conv_src ((SrcAt.of_row HS5.out).later hb6) (packsW_lt l); have cvC := conv_src (SrcAt.of_row hs6) (packsW_lt l); obtain ⟨A6, c6, rfl⟩ := row_form hs6; clear hs6 hb6) | (go_at_call 10; refine (known_any _).mono ?_; rintro e w7 ⟨rfl, hb7⟩; have HB7 := Lib.hid (HB6.out.trans (hb7.mono HB6.out.size)); clear hb7))
        all_goals
          go_wp2
          go_ret
          exact ⟨rfl, E.out.blw.trans (HB7.out.mono E.out.blw.size)⟩

set_option maxRecDepth 100000 in
set_option maxHeartbeats 800000 in
theorem writes_not (GA : Option Addr) (c cp : Nat) (L : List ActD) (w : World) (ha : ActsAt w (.slice GA L.length c) L) (hl : L.length ≤ 9223372036854775807) (hs : smallB L = false) :
    Calls Try.prog 3 #[.slice GA L.length c, .int .u8 cp] w fun e w' => e = .returned (.bool true) ∧ Below w.heap.size w w' := by
  have hfit := acts_fit _ L w ha hl
  rw [hs] at hfit
  have HF := Lib.hid hfit
  clear hfit ha hs
  go_enter Try.func3, Try.ntmps3
  go_wp2_with fail
  refine HF.out.mono ?_
  rintro e w' ⟨rfl, rfl⟩
  go_wp2_with fail
  refine (known_any _).mono ?_
  rintro e w1 ⟨rfl, hb⟩
  have HB := Lib.hid hb
  clear hb
  go_wp2
  go_ret
  exact ⟨rfl, HB.out⟩

theorem writes_any (s : Value) (L : List ActD) (cp : Nat) (w : World) (ha : ActsAt w s L) (hl : L.length ≤ 9223372036854775807) (hcp : cp ≤ 255) :
    Calls Try.prog 3 #[s, .int .u8 cp] w fun e w' => e = .returned (.bool true) ∧ Below w.heap.size w w' := by
  obtain ⟨GA, c, rfl⟩ : ∃ GA c, s = .slice GA L.length c := by
    rcases ha with ⟨rfl, rfl⟩ | ⟨g, o, c, rfl, _⟩
    · exact ⟨none, 0, rfl⟩
    · exact ⟨_, _, rfl⟩
  cases hs : smallB L
  · exact writes_not GA c cp L w ha hl hs
  · simp [smallB] at hs
    exact writes_fit GA c L cp w ha hs.2 hs.1 hcp
end Go.Proofs.Ytboiiohpkoodpaa
