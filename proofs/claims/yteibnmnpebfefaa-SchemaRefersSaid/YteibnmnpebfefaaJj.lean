/- Depth and HasValue, from examine's contract. Conditions: the messages lie in memory. -/
import Derived.Test.YteibnmnpebfefaaJi
namespace Go.Proofs.Yteibnmnpebfefaa
open Go.RowKit Go.Shelf

def hasvB (d : FieldD) : Bool := !(d.kind == 2) && !(d.kind == 10) && !(d.kind == 11)
set_option maxRecDepth 100000 in
set_option maxHeartbeats 1600000 in
theorem hasvalue_any (d : FieldD) (w : World) : Calls Try.prog 15 #[d.agg] w fun e w' => e = .returned (.bool (hasvB d)) ∧ Below w.heap.size w w' := by
  unfold FieldD.agg
  have hal := below_alloc w (.cells #[.string (strL d.name), .int .i64 d.kind, .int .i64 d.bits, .bool d.little, .bool d.loose, .int .i64 d.low, .int .i64 d.high, .int .i64 d.base, .slice d.ta d.terms.length d.tc, .string (strL d.of_), .string (strL d.tag), .string (strL d.from_), .slice d.ca d.cases.length d.cc, .int .i64 d.check, .int .i64 d.key] 28)
  have hbx := FBox.new w d
  obtain ⟨b, eb⟩ : ∃ b, w.heap.size = b := ⟨_, rfl⟩
  obtain ⟨w1, hw1⟩ : ∃ w1, w.alloc (.cells #[.string (strL d.name), .int .i64 d.kind, .int .i64 d.bits, .bool d.little, .bool d.loose, .int .i64 d.low, .int .i64 d.high, .int .i64 d.base, .slice d.ta d.terms.length d.tc, .string (strL d.of_), .string (strL d.tag), .string (strL d.from_), .slice d.ca d.cases.length d.cc, .int .i64 d.check, .int .i64 d.key] 28) = w1 := ⟨_, rfl⟩
  rw [hw1] at hal hbx
  rw [eb] at hbx
  have HW := Lib.hid hw1
  have EB := Lib.hid eb
  have HAL := Lib.hid hal
  have y1 := hbx.c1
  obtain ⟨s2, e2⟩ : ∃ s, (d.kind == 2) = s := ⟨_, rfl⟩
  obtain ⟨s10, e10⟩ : ∃ s, (d.kind == 10) = s := ⟨_, rfl⟩
  obtain ⟨s11, e11⟩ : ∃ s, (d.kind == 11) = s := ⟨_, rfl⟩
  obtain ⟨R, hR⟩ : ∃ R, hasvB d = R := ⟨_, rfl⟩
  have hr : R = (!s2 && !s10 && !s11) := by rw [← hR]; unfold hasvB; rw [e2, e10, e11]
  rw [hR]
  have HR := Lib.hid hr
  have f2 : (d.kind != 2) = !s2 := by rw [← e2]; rfl
  have f10 : (d.kind != 10) = !s10 := by rw [← e10]; rfl
  have f11 : (d.kind != 11) = !s11 := by rw [← e11]; rfl
  clear hal hbx eb hw1 hR hr
  cases s2
  · cases s10
    · cases s11
      all_goals
        go_enter Try.func15, Try.ntmps15
        go_upto_region 1 with fail
        rw [HW.out, EB.out]
        go_wp2_with fail
        go_ret
        exact ⟨ret_bool HR.out.symm, HAL.out⟩
    · go_enter Try.func15, Try.ntmps15
      go_upto_region 1 with fail
      rw [HW.out, EB.out]
      go_wp2_with fail
      go_ret
      exact ⟨ret_bool HR.out.symm, HAL.out⟩
  · go_enter Try.func15, Try.ntmps15
    go_upto_region 1 with fail
    rw [HW.out, EB.out]
    go_wp2_with fail
    go_ret
    exact ⟨ret_bool HR.out.symm, HAL.out⟩

/-- The nature of a message of a definition, and the error. -/
def natInR (r : Option (Int × Int × Int)) (E : Nats) (D : List MsgD) (mi : Int) : (Int × Bool) × Int :=
  if r.isSome then ((0, false), 2) else if inB mi 0 ((D.length : Int) - 1) then ((D[mi.toNat]?).elim (0, false) (fun d => (getN E d.name).getD (0, false)), 0) else ((0, false), 3)

theorem nat_set (W : World) (b : Nat) (u : Int) (v : Bool) (h : NBox W b (0, false)) : NBox ((W.setCell ⟨b, 0, none⟩ (.int .i64 u)).setCell ⟨b, 1, none⟩ (.bool v)) b (u, v) ∧ Rest (fun k => k = b) W ((W.setCell ⟨b, 0, none⟩ (.int .i64 u)).setCell ⟨b, 1, none⟩ (.bool v)) :=
  ⟨(h.set0 u).set1 v, ((Rest.refl (fun k => k = b) W).setCell (S := fun k => k = b) (p := ⟨b, 0, none⟩) (fun _ => rfl) _).setCell (S := fun k => k = b) (p := ⟨b, 1, none⟩) (fun _ => rfl) _⟩

set_option maxRecDepth 100000 in
set_option maxHeartbeats 3200000 in
theorem naturein_of (nm st : List UInt8) (A : Option Addr) (c : Nat) (D : List MsgD) (S : Nat → Prop) (mi : Int) (r : Option (Int × Int × Int)) (E : Nats) (w : World) (h : SlAt MsgD.cells 2 S w A c D) (hd1 : r = none → 1 ≤ D.length)
    (he : ∀ wx, Below w.heap.size w wx → Calls Try.prog 59 #[.agg #[.string (strL nm), .slice A D.length c, .string (strL st)]] wx (ExPost r E wx)) :
    Calls Try.prog 54 #[.agg #[.string (strL nm), .slice A D.length c, .string (strL st)], .int .i64 mi] w fun e w' => e = .returned (.tuple #[natV (natInR r E D mi).1, .int .i64 (natInR r E D mi).2]) ∧ Below w.heap.size w w' := by
  have hl : D.length ≤ 9223372036854775807 := Nat.le_trans h.1 h.2.1
  obtain ⟨wa, hwa⟩ : ∃ wa, w.alloc (.cells #[.string (strL nm), .slice A D.length c, .string (strL st)] 44) = wa := ⟨_, rfl⟩
  obtain ⟨w1, hw1⟩ : ∃ w1, wa.alloc (.cells #[.int .i64 0, .bool false] 102) = w1 := ⟨_, rfl⟩
  have hw : (w.alloc (.cells #[.string (strL nm), .slice A D.length c, .string (strL st)] 44)).alloc (.cells #[.int .i64 0, .bool false] 102) = w1 := by rw [hwa, hw1]
  have ba : Below w.heap.size w wa := by rw [← hwa]; exact below_alloc _ _
  have b1 : Below wa.heap.size wa w1 := by rw [← hw1]; exact below_alloc _ _
  have sa : wa.heap.size = w.heap.size + 1 := by rw [← hwa]; simp
  have hb1 : Below w.heap.size w w1 := ba.trans (b1.mono (by omega))
  have s1 : w1.heap.size = w.heap.size + 2 := by rw [← hw1]; simp; omega
  have hxd : w1.heap[w.heap.size]? = some (.cells #[.string (strL nm), .slice A D.length c, .string (strL st)] 44 (0, 0)) := (b1.block _ (by omega)).trans (by rw [← hwa]; exact heap_alloc_new w _)
  have hxn : NBox w1 (w.heap.size + 1) (0, false) := by rw [← hw1, ← sa]; exact NBox.new wa 0 false
  have h1 := h.below hb1
  obtain ⟨b, eb⟩ : ∃ b, w.heap.size = b := ⟨_, rfl⟩
  rw [eb] at hxd hxn s1
  have KD : Hid (∀ wx, Below w1.heap.size w1 wx → wx.cell? ⟨b, 0, none⟩ = some (.string (strL nm)) ∧ wx.cell? ⟨b, 1, none⟩ = some (.slice A D.length c) ∧ wx.cell? ⟨b, 2, none⟩ = some (.string (strL st)) ∧ NBox wx (b + 1) (0, false)) := Lib.hid (fun wx hb => by
    have := (hb.block b (by omega)).trans hxd
    exact ⟨by simp [World.cell?, this], by simp [World.cell?, this], by simp [World.cell?, this], hxn.below hb hxn.lt⟩)
  have HEX : Hid (Calls Try.prog 59 #[.agg #[.string (strL nm), .slice A D.length c, .string (strL st)]] w1 (ExPost r E w1)) := Lib.hid (he w1 hb1)
  obtain ⟨⟨⟨zd, zs⟩, ze⟩, hz⟩ : ∃ z, natInR r E D mi = z := ⟨_, rfl⟩
  rw [hz]
  have HZ := Lib.hid hz
  have HW := Lib.hid hw
  have EB := Lib.hid eb
  have HB1 := Lib.hid hb1
  have H1 := Lib.hid h1
  have HD1 := Lib.hid hd1
  have S1 := Lib.hid s1
  have HFIN : Hid (∀ wx, Below w1.heap.size w1 wx → NBox ((wx.setCell ⟨b + 1, 0, none⟩ (.int .i64 zd)).setCell ⟨b + 1, 1, none⟩ (.bool zs)) (b + 1) (zd, zs) ∧ Below w.heap.size w ((wx.setCell ⟨b + 1, 0, none⟩ (.int .i64 zd)).setCell ⟨b + 1, 1, none⟩ (.bool zs))) := Lib.hid (fun wx hb => by
    have hs := nat_set wx (b + 1) zd zs (hxn.below hb hxn.lt)
    exact ⟨hs.1, (hb1.trans (hb.mono hb1.size)).trans (hs.2.toBelow w.heap.size (by have := hb1.size; have := hb.size; omega) (fun i hi e => by omega))⟩)
  have HWI := fun w => Lib.hid (withinS mi 0 ((D.length : Int) - 1) w)
  obtain ⟨d0, d1, d2, _⟩ := KD.out w1 (Below.refl _ _)
  clear h hd1 he hwa hw1 hw ba b1 sa hb1 s1 hxd hxn h1 eb hz
  go_enter Try.func54, Try.ntmps54
  go_upto_region 1 with fail
  rw [HW.out, EB.out]
  go_wp2_with fail
  refine HEX.out.mono ?_
  rintro e w2 hp
  clear d0 d1 d2
  cases r with
  | some p =>
    obtain ⟨hb2, rfl⟩ := hp
    obtain ⟨m, f, cd⟩ := p
    have hz : ((0, false), (2 : Int)) = ((zd, zs), ze) := HZ.out
    simp only [Prod.mk.injEq] at hz
    obtain ⟨⟨rfl, rfl⟩, rfl⟩ := hz
    have hb3 := hb2.trans ((below_alloc w2 (.cells #[.int .i64 m, .int .i64 f, .int .i64 cd] 79)).mono hb2.size)
    obtain ⟨w3, hw3⟩ : ∃ w3, w2.alloc (.cells #[.int .i64 m, .int .i64 f, .int .i64 cd] 79) = w3 := ⟨_, rfl⟩
    rw [hw3] at hb3
    obtain ⟨_, _, _, hn3⟩ := KD.out w3 hb3
    have v0 := hn3.c0
    have v1 := hn3.c1
    have g0 := hn3.fr 0
    have g1 := hn3.fr 1
    have HF := Lib.hid (HFIN.out w3 hb3)
    have W3 := Lib.hid hw3
    clear hb2 hb3 hw3 hn3
    dsimp only
    go_upto_region 2 with fail
    rw [W3.out]
    go_wp2_with fail
    obtain ⟨hn, hb⟩ := HF.out
    obtain ⟨w4, hw4⟩ : ∃ w4, (w3.setCell ⟨b + 1, 0, none⟩ (.int .i64 0)).setCell ⟨b + 1, 1, none⟩ (.bool false) = w4 := ⟨_, rfl⟩
    rw [hw4] at hn hb ⊢
    have p0 := hn.c0
    have p1 := hn.c1
    refine bodyPost_ret (by simp [results, Try.results54, go_sem, p0, p1]; try rfl) rfl ?_
    exact ⟨rfl, hb⟩
  | none =>
    obtain ⟨hb2, kr, hkr, rfl, hm⟩ := hp
    have hb3 := hb2.trans ((below_alloc w2 (.cells #[.int .i64 0, .int .i64 0, .int .i64 0] 79)).mono hb2.size)
    have hm3 := hm.below (below_alloc w2 (.cells #[.int .i64 0, .int .i64 0, .int .i64 0] 79)) hm.lt
    obtain ⟨w3, hw3⟩ : ∃ w3, w2.alloc (.cells #[.int .i64 0, .int .i64 0, .int .i64 0] 79) = w3 := ⟨_, rfl⟩
    rw [hw3] at hb3 hm3
    obtain ⟨q0, q1, _, hn3⟩ := KD.out w3 hb3
    have v0 := hn3.c0
    have v1 := hn3.c1
    have g0 := hn3.fr 0
    have g1 := hn3.fr 1
    have hd1 := HD1.out rfl
    have HS3 := Lib.hid (H1.out.below hb3)
    have HF := Lib.hid (HFIN.out w3 hb3)
    have M3 := Lib.hid hm3
    have W3 := Lib.hid hw3
    clear hb2 hb3 hw3 hn3 hkr hm hm3
    cases hwi : inB mi 0 ((D.length : Int) - 1) with
    | false =>
      have hz : ((0, false), (3 : Int)) = ((zd, zs), ze) := by
        have := HZ.out
        unfold natInR at this
        rw [hwi] at this
        exact this
      simp only [Prod.mk.injEq] at hz
      obtain ⟨⟨rfl, rfl⟩, rfl⟩ := hz
      rw [hwi] at HWI
      clear hwi
      dsimp only
      go_upto_region 2 with fail
      rw [W3.out]
      go_wp2_with (go_at_call 41; refine ((HWI _).out).mono ?_; rintro e w' ⟨rfl, hw'⟩; have hw'' := hw'.symm; clear hw'; subst hw'')
      obtain ⟨hn, hb⟩ := HF.out
      obtain ⟨w4, hw4⟩ : ∃ w4, (w3.setCell ⟨b + 1, 0, none⟩ (.int .i64 0)).setCell ⟨b + 1, 1, none⟩ (.bool false) = w4 := ⟨_, rfl⟩
      rw [hw4] at hn hb ⊢
      have p0 := hn.c0
      have p1 := hn.c1
      refine bodyPost_ret (by simp [results, Try.results54, go_sem, p0, p1]; try rfl) rfl ?_
      exact ⟨rfl, hb⟩
    | true =>
      have hbd : 0 ≤ mi ∧ mi ≤ (D.length : Int) - 1 := by simpa [inB] using hwi
      obtain ⟨k, rfl⟩ : ∃ k : Nat, mi = (k : Int) := ⟨mi.toNat, by omega⟩
      have hk : k < D.length := by omega
      obtain ⟨d, hd⟩ : ∃ d, D[k]? = some d := ⟨_, List.getElem?_eq_getElem hk⟩
      have hz : ((getN E d.name).getD (0, false), (0 : Int)) = ((zd, zs), ze) := by
        have := HZ.out
        unfold natInR at this
        rw [hwi] at this
        simp only [Option.isSome_none, Bool.false_eq_true, if_false, if_true, Int.toNat_natCast, hd, Option.elim] at this
        exact this
      simp only [Prod.mk.injEq] at hz
      obtain ⟨hz1, rfl⟩ := hz
      rw [hwi] at HWI
      obtain ⟨g, o, rfl, hx⟩ := HS3.out.at_ hd
      have x0 : w3.cell? ⟨g, o + k * 2, none⟩ = some (.string (strL d.name)) := hx 0 _ rfl
      have hrun := run_look (P := Try.prog) Try.underlying108 Try.ustr (Try.zeroNat w3) M3.out d.name
      rw [look_nat, hz1] at hrun
      unfold natV at hrun
      clear hwi hbd hd hx hz1
      dsimp only
      go_upto_region 2 with fail
      rw [W3.out]
      go_wp2_with (go_at_call 41; refine ((HWI _).out).mono ?_; rintro e w' ⟨rfl, hw'⟩; have hw'' := hw'.symm; clear hw'; subst hw'')
      obtain ⟨hn, hb⟩ := HF.out
      obtain ⟨w4, hw4⟩ : ∃ w4, (w3.setCell ⟨b + 1, 0, none⟩ (.int .i64 zd)).setCell ⟨b + 1, 1, none⟩ (.bool zs) = w4 := ⟨_, rfl⟩
      rw [hw4] at hn hb ⊢
      have p0 := hn.c0
      have p1 := hn.c1
      refine bodyPost_ret (by simp [results, Try.results54, go_sem, p0, p1]; try rfl) rfl ?_
      exact ⟨rfl, hb⟩
end Go.Proofs.Yteibnmnpebfefaa
