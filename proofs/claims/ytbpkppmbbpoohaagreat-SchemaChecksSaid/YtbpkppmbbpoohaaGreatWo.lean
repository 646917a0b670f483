/- The first flaw of a definition, and whether it is valid, as the document says. Conditions: the definition lies in memory. -/
import Derived.Test.YtbpkppmbbpoohaaGreatWm
import Derived.Test.YtbpkppmbbpoohaaGreatRq
import Derived.OwnWalk
import Derived.Deep.RegionHeld3
namespace Go.Proofs.YtbpkppmbbpoohaaGreat
open Go.RowKit Go.Shelf

theorem Tryz.infoIntD : (Tryz.prog.info? 3).map (fun i => (i.zero, i.size, i.bytes)) = some (some (.int .i64 0), 1, 8) := by kernel_rfl
theorem own_drow {W : World} {base dg n : Nat} (h : W.ownsRow base 3 1 (.slice (some ⟨dg, 0, none⟩) n n) n (madeCells (Value.int .i64 0).cells (n * 1)).toList) : DRow W dg n (fun _ => 0) := by
  rw [show (Value.int .i64 0).cells = #[Value.int .i64 0] from rfl, Nat.mul_one, toList_madeCells_one] at h
  rcases h.2 with ⟨e, _⟩ | ⟨g, cap, cur, e, _, hg, _, _, hs, ht⟩
  · cases e
  · simp only [Value.slice.injEq, Option.some.injEq, Addr.mk.injEq, and_true, true_and] at e
    obtain ⟨e1, e2⟩ := e
    subst e1
    subst e2
    rw [Nat.mul_one] at hs ht
    refine ⟨cur, hg, hs, fun j hj => ?_⟩
    have h1 : (cur.toList.take n)[j]? = some (.int .i64 0) := by rw [ht, List.getElem?_replicate, if_pos hj]
    rw [List.getElem?_take, if_pos hj] at h1
    simpa using h1
theorem Tryz.sizeIntC (w : World) : (sizeOf 3).run Tryz.prog w = .ok 1 w := by kernel_rfl
theorem Tryz.sizeStrC (w : World) : (sizeOf 9).run Tryz.prog w = .ok 1 w := by kernel_rfl
theorem few_refs {E : Nats} {m : MsgD} (hf : fieldsR (frA E m.fields) 0 m.fields = none) (h40 : m.fields.length ≤ 40) : (m.fields.flatMap targB).length ≤ 1600 := by
  have h1 := targs_few m.fields (fun d hd => targ_few (cases_few hf hd))
  omega
/-- What is told of a reference of a message whose fields have passed. -/
theorem ref_found {D : List MsgD} {a : Nat} {m : MsgD} {s : List UInt8} (hp : msgsR mrA [] 0 (D.take a) = none) (hf : fieldsR (frA (defE (D.take a)) m.fields) 0 m.fields = none) (hs : s ∈ refsN m.fields) :
    ∃ j : Nat, j < a ∧ j < D.length ∧ idxOf (fun d : MsgD => d.name == s) (D.take a) = ((j : Nat) : Int) ∧ ((getN (defE (D.take a)) s).getD (0, false)).1 = dJ D j ∧ 0 ≤ dJ D j ∧ dJ D j ≤ 16 := by
  have hh := refs_has hf s hs
  rcases nat_idx hp s with ⟨_, hno⟩ | ⟨j, mj, hj, hja, hn, hi, hg⟩
  · unfold hasN at hh
    rw [hno] at hh
    cases hh
  · have hd : dJ D j = (natS (defE (D.take j)) mj.fields).1 := by unfold dJ; rw [hj]; rfl
    have hpt := (pass_take hp hja hj).1.depth
    have hge : 1 ≤ (natS (defE (D.take j)) mj.fields).1 := natF_ge _ _ _
    exact ⟨j, hja, (List.getElem?_eq_some_iff.1 hj).1, hi, by rw [hg, hd]; rfl, by omega, by omega⟩

set_option maxRecDepth 100000 in
set_option maxHeartbeats 25600000 in
theorem refCheck (nm st : List UInt8) (A : Option Addr) (c : Nat) (D : List MsgD) (S : Nat → Prop) (w : World) (h : MsgsAt S w A c D) :
    Calls Tryz.prog 14 #[.agg #[.string (strL nm), .slice A D.length c, .string (strL st)]] w fun e w' => e = .returned (.tuple #[.agg #[.int .i64 (flawT (defAllR nm st D)).1, .int .i64 (flawT (defAllR nm st D)).2.1, .int .i64 (flawT (defAllR nm st D)).2.2], .bool (defAllR nm st D).isSome]) ∧ Below w.heap.size w w' := by
  have hl : D.length ≤ 9223372036854775807 := Nat.le_trans h.1.1 h.1.2.1
  obtain ⟨wa, hwa⟩ : ∃ wa, w.alloc (.cells #[.string (strL nm), .slice A D.length c, .string (strL st)] 24) = wa := ⟨_, rfl⟩
  obtain ⟨w1, hw1⟩ : ∃ w1, wa.alloc (.cells #[.int .i64 0, .int .i64 0, .int .i64 0] 30) = w1 := ⟨_, rfl⟩
  have hw : (w.alloc (.cells #[.string (strL nm), .slice A D.length c, .string (strL st)] 24)).alloc (.cells #[.int .i64 0, .int .i64 0, .int .i64 0] 30) = w1 := by rw [hwa, hw1]
  have ba : Below w.heap.size w wa := by rw [← hwa]; exact below_alloc _ _
  have b1 : Below wa.heap.size wa w1 := by rw [← hw1]; exact below_alloc _ _
  have sa : wa.heap.size = w.heap.size + 1 := by rw [← hwa]; simp
  have hb1 : Below w.heap.size w w1 := ba.trans (b1.mono (by omega))
  have s1 : w1.heap.size = w.heap.size + 2 := by rw [← hw1]; simp; omega
  have hxd : w1.heap[w.heap.size]? = some (.cells #[.string (strL nm), .slice A D.length c, .string (strL st)] 24 (0, 0)) := (b1.block _ (by omega)).trans (by rw [← hwa]; exact heap_alloc_new w _)
  have hxf : FlB w1 (w.heap.size + 1) 0 0 0 := ⟨by rw [← hw1, ← sa]; exact heap_alloc_new wa _⟩
  have h1 := h.below hb1
  obtain ⟨b, eb⟩ : ∃ b, w.heap.size = b := ⟨_, rfl⟩
  rw [eb] at hxd hxf s1
  have KD : Hid (∀ wx, Below w1.heap.size w1 wx → (wx.cell? ⟨b, 0, none⟩ = some (.string (strL nm)) ∧ wx.cell? ⟨b, 1, none⟩ = some (.slice A D.length c) ∧ wx.cell? ⟨b, 2, none⟩ = some (.string (strL st))) ∧ FlB wx (b + 1) 0 0 0) := Lib.hid (fun wx hb => by
    have := (hb.block b (by omega)).trans hxd
    exact ⟨⟨by simp [World.cell?, this], by simp [World.cell?, this], by simp [World.cell?, this]⟩, hxf.rest (S := fun _ => False) (Rest.below hb) (fun e => e)⟩)
  have H1 : Hid (∀ wx, Below w1.heap.size w1 wx → MsgsAt S wx A c D) := Lib.hid (fun wx hb => h1.rest (Rest.below (S := fun _ => False) hb) (fun _ _ e => e.elim))
  have KRET : Hid (∀ wx x y z, Below w1.heap.size w1 wx → FlB (((wx.setCell ⟨b + 1, 0, none⟩ (.int .i64 x)).setCell ⟨b + 1, 1, none⟩ (.int .i64 y)).setCell ⟨b + 1, 2, none⟩ (.int .i64 z)) (b + 1) x y z ∧ Below w.heap.size w (((wx.setCell ⟨b + 1, 0, none⟩ (.int .i64 x)).setCell ⟨b + 1, 1, none⟩ (.int .i64 y)).setCell ⟨b + 1, 2, none⟩ (.int .i64 z))) := Lib.hid (fun wx x y z hb => by
    have hf : FlB wx (b + 1) 0 0 0 := hxf.rest (S := fun _ => False) (Rest.below hb) (fun e => e)
    have hs := hf.set3 x y z
    exact ⟨hs.1, (hb1.trans (hb.mono hb1.size)).trans (hs.2.toBelow w.heap.size (by have := hb1.size; have := hb.size; omega) (fun i hi e => by omega))⟩)
  obtain ⟨R, hR⟩ : ∃ R, defAllR nm st D = R := ⟨_, rfl⟩
  rw [hR]
  have HR := Lib.hid hR
  have HW := Lib.hid hw
  have EB := Lib.hid eb
  have HB1 := Lib.hid hb1
  have HNM := fun w => Lib.hid (refName nm w)
  obtain ⟨nb, hnb⟩ : ∃ n, nameB nm = n := ⟨_, rfl⟩
  simp only [hnb] at HNM
  have HNB := Lib.hid hnb
  obtain ⟨i0, hi0, hz0, hz1, hz2⟩ := info_parts Tryz.infoIntD
  have INF := Lib.hid (And.intro hi0 (And.intro hz0 (And.intro hz1 hz2)))
  obtain ⟨⟨d0, d1, d2⟩, hfl⟩ := KD.out w1 (Below.refl _ _)
  have v0 := hfl.c0
  have v1 := hfl.c1
  have v2 := hfl.c2
  have g0 := hfl.fr 0
  have g1 := hfl.fr 1
  have g2 := hfl.fr 2
  clear h hwa hw1 hw ba b1 sa hb1 s1 hxd hxf h1 eb hR hnb hi0 hz0 hz1 hz2 hfl
  go_enter Tryz.func14, Tryz.ntmps14
  go_upto_region 1 with fail
  rw [HW.out, EB.out]
  cases nb with
  | false =>
    have hRf := Lib.hid (show R = some (-1, -1, 1) from HR.out.symm.trans (res_name HNB.out))
    go_wp2_with (go_at_call 49; refine ((HNM _).out).mono ?_; rintro e w' ⟨rfl, hw'⟩; have hw'' := hw'.symm; clear hw'; subst hw'')
    obtain ⟨hn, hb⟩ := KRET.out w1 (-1) (-1) (1) (Below.refl _ _)
    obtain ⟨wz, hwz⟩ : ∃ wz, (((w1.setCell ⟨b + 1, 0, none⟩ (.int .i64 (-1))).setCell ⟨b + 1, 1, none⟩ (.int .i64 (-1))).setCell ⟨b + 1, 2, none⟩ (.int .i64 (1))) = wz := ⟨_, rfl⟩
    rw [hwz] at hn hb ⊢
    have p0 := hn.c0
    have p1 := hn.c1
    have p2 := hn.c2
    refine bodyPost_ret (by simp [results, Tryz.results14, go_sem, p0, p1, p2]; try rfl) rfl ?_
    exact ⟨by rw [hRf.out]; rfl, hb⟩
  | true =>
  by_cases c1 : D.length < 1
  · have hRf := Lib.hid (show R = some (-1, -1, 3) from HR.out.symm.trans (res_few HNB.out (by unfold inB; rw [decide_eq_false (show ¬ 1 ≤ (D.length : Int) by omega), Bool.false_and])))
    go_wp2_with (go_at_call 49; refine ((HNM _).out).mono ?_; rintro e w' ⟨rfl, hw'⟩; have hw'' := hw'.symm; clear hw'; subst hw'')
    obtain ⟨hn, hb⟩ := KRET.out w1 (-1) (-1) (3) (Below.refl _ _)
    obtain ⟨wz, hwz⟩ : ∃ wz, (((w1.setCell ⟨b + 1, 0, none⟩ (.int .i64 (-1))).setCell ⟨b + 1, 1, none⟩ (.int .i64 (-1))).setCell ⟨b + 1, 2, none⟩ (.int .i64 (3))) = wz := ⟨_, rfl⟩
    rw [hwz] at hn hb ⊢
    have p0 := hn.c0
    have p1 := hn.c1
    have p2 := hn.c2
    refine bodyPost_ret (by simp [results, Tryz.results14, go_sem, p0, p1, p2]; try rfl) rfl ?_
    exact ⟨by rw [hRf.out]; rfl, hb⟩
  by_cases c2 : 60 < D.length
  · have hRf := Lib.hid (show R = some (-1, -1, 3) from HR.out.symm.trans (res_few HNB.out (by unfold inB; rw [decide_eq_false (show ¬ (D.length : Int) ≤ 60 by omega), Bool.and_false])))
    go_wp2_with (go_at_call 49; refine ((HNM _).out).mono ?_; rintro e w' ⟨rfl, hw'⟩; have hw'' := hw'.symm; clear hw'; subst hw'')
    obtain ⟨hn, hb⟩ := KRET.out w1 (-1) (-1) (3) (Below.refl _ _)
    obtain ⟨wz, hwz⟩ : ∃ wz, (((w1.setCell ⟨b + 1, 0, none⟩ (.int .i64 (-1))).setCell ⟨b + 1, 1, none⟩ (.int .i64 (-1))).setCell ⟨b + 1, 2, none⟩ (.int .i64 (3))) = wz := ⟨_, rfl⟩
    rw [hwz] at hn hb ⊢
    have p0 := hn.c0
    have p1 := hn.c1
    have p2 := hn.c2
    refine bodyPost_ret (by simp [results, Tryz.results14, go_sem, p0, p1, p2]; try rfl) rfl ?_
    exact ⟨by rw [hRf.out]; rfl, hb⟩
  have HLN := Lib.hid (show inB (D.length : Int) 1 60 = true by unfold inB; rw [decide_eq_true (by omega), decide_eq_true (by omega)]; rfl)
  go_upto_region 5 with (go_at_call 49; refine ((HNM _).out).mono ?_; rintro e w' ⟨rfl, hw'⟩; have hw'' := hw'.symm; clear hw'; subst hw'')
  go_upto_region 6 with (refine wpList_make_full _ rfl _ _ 37 rfl w1.heap.size 3 i0 _ 1 Tryz.underlying37 INF.out.1 INF.out.2.1 INF.out.2.2.1 _ _ _ _ D.length rfl rfl rfl rfl (by rw [INF.out.2.2.2]; omega) (by unfold maxLen; omega) (Nat.le_refl _) ?_; intro w2 hown hgrow)
  have hdr := own_drow hown
  have hb2 : Below w1.heap.size w1 w2 := (Below.refl _ _).grown hgrow (Nat.le_refl _) (fun k e => by cases e)
  obtain ⟨dg, edg⟩ : ∃ dg, w1.heap.size = dg := ⟨_, rfl⟩
  rw [edg] at hdr
  rw [edg]
  have EDG := Lib.hid edg
  have DR2 := Lib.hid (hdr.congr (vs' := vsT D 0 0) (fun j _ => by unfold vsT; simp))
  have HB2 := Lib.hid hb2
  clear hown hgrow hdr hb2 edg d0 d1 d2 v0 v1 v2 g0 g1 g2
  go_wp2_with fail
  go_loopw [5] (fun x5 wr => ∃ a : Nat, a ≤ D.length ∧ x5 = .int .i64 ((a : Nat) : Int) ∧ msgsR mrA [] 0 (D.take a) = none ∧ DRow wr dg D.length (vsT D a 0) ∧ Below w1.heap.size w1 wr) (fun x5 _ => D.length - (intOf x5).toNat)
  case atStart => exact ⟨0, Nat.zero_le _, rfl, rfl, DR2.out, HB2.out⟩
  case round =>
    obtain ⟨a, ha, rfl, hp, hdr, hb⟩ := hrel
    have HP := Lib.hid hp
    have DR := Lib.hid hdr
    have HB := Lib.hid hb
    clear hp hdr hb
    obtain ⟨w3, hw3⟩ : ∃ w3 : World, wr = w3 := ⟨_, rfl⟩
    obtain ⟨⟨d0, d1, d2⟩, hfl⟩ := KD.out _ HB.out
    have v0 := hfl.c0
    have v1 := hfl.c1
    have v2 := hfl.c2
    have g0 := hfl.fr 0
    have g1 := hfl.fr 1
    have g2 := hfl.fr 2
    clear hfl
    by_cases hlt : a < D.length
    · obtain ⟨m, hm⟩ : ∃ m, D[a]? = some m := ⟨_, List.getElem?_eq_getElem hlt⟩
      obtain ⟨mn, fa, fc, fs⟩ := m
      have HM := Lib.hid hm
      obtain ⟨g, o, eA, hx⟩ := (H1.out _ HB.out).1.at_ hm
      have d1s := d1
      rw [eA] at d1
      have EA := Lib.hid eA
      have m0 : wr.cell? ⟨g, o + a * 2, none⟩ = some (.string (strL mn)) := hx 0 _ rfl
      have m1 : wr.cell? ⟨g, o + a * 2 + 1, none⟩ = some (.slice fa fs.length fc) := hx 1 _ rfl
      have hfl := (H1.out _ HB.out).2 _ (List.mem_of_getElem? hm)
      have hfsl : fs.length ≤ 9223372036854775807 := Nat.le_trans hfl.1.1 hfl.1.2.1
      have hal := below_alloc wr (.cells #[.string (strL mn), .slice fa fs.length fc] 36)
      have hbx := msgbox wr (.string (strL mn)) (.slice fa fs.length fc)
      obtain ⟨mb, emb⟩ : ∃ mb, wr.heap.size = mb := ⟨_, rfl⟩
      obtain ⟨w4, hw4⟩ : ∃ w4, wr.alloc (.cells #[.string (strL mn), .slice fa fs.length fc] 36) = w4 := ⟨_, rfl⟩
      rw [hw4] at hal hbx
      rw [emb] at hbx
      have KM : Hid (∀ wx, Below w4.heap.size w4 wx → wx.cell? ⟨mb, 0, none⟩ = some (.string (strL mn)) ∧ wx.cell? ⟨mb, 1, none⟩ = some (.slice fa fs.length fc)) := Lib.hid (fun wx hb => by
        have := (hb.block mb (Array.getElem?_eq_some_iff.1 hbx).1).trans hbx
        exact ⟨by simp [World.cell?, this], by simp [World.cell?, this]⟩)
      have MBL := Lib.hid (Array.getElem?_eq_some_iff.1 hbx).1
      have MBN := Lib.hid (show mb ≠ dg by have := DR.out.lt; omega)
      have HB4 := Lib.hid (HB.out.trans (hal.mono HB.out.size))
      have DR4 := Lib.hid (DR.out.below hal DR.out.lt)
      have W4 := Lib.hid hw4
      have EMB := Lib.hid emb
      have ha0 : (0 : Int) ≤ ((a : Nat) : Int) := by omega
      have ha1 : ((a : Nat) : Int) < ((D.length : Nat) : Int) := by omega
      clear hm hx eA hfl hal hbx hw4 emb hw3
      go_upto_region 10 with fail
      rw [W4.out, EMB.out]
      clear d0 d1 d2 d1s v0 v1 v2 g0 g1 g2 m0 m1
      obtain ⟨⟨d0, d1, d2⟩, hfl⟩ := KD.out w4 HB4.out
      have v0 := hfl.c0
      have v1 := hfl.c1
      have v2 := hfl.c2
      have g0 := hfl.fr 0
      have g1 := hfl.fr 1
      have g2 := hfl.fr 2
      clear hfl
      obtain ⟨n0, n1⟩ := KM.out w4 (Below.refl _ _)
      have HMN := fun w => Lib.hid (refName mn w)
      obtain ⟨mb2, hmb⟩ : ∃ n, nameB mn = n := ⟨_, rfl⟩
      simp only [hmb] at HMN
      have HMB := Lib.hid hmb
      obtain ⟨q, hq⟩ : ∃ q, idxOf (fun d : MsgD => d.name == mn) (D.take a) = q := ⟨_, rfl⟩
      have HHQ := Lib.hid (show hasN (defE (D.take a)) mn = decide (0 ≤ q) by rw [has_idx, hq])
      have FQ : Hid (∀ wx, Below w1.heap.size w1 wx → Calls Tryz.prog 50 #[.agg #[.string (strL nm), .slice A D.length c, .string (strL st)], .string (strL mn), .int .i64 ((a : Nat) : Int)] wx fun e w' => e = .returned (.int .i64 q) ∧ Below wx.heap.size wx w') := Lib.hid (fun wx hb => by
        have := refFind_any nm st A c D mn a (by omega) S wx (H1.out wx hb).1
        rwa [hq] at this)
      clear hmb hq
      cases mb2 with
      | false =>
        have hRf := Lib.hid (show R = some ((a : Int), -1, 1) from HR.out.symm.trans (res_msg HNB.out HLN.out HP.out HM.out (mr_name HMB.out)))
        go_wp2_with (go_at_call 49; refine ((HMN _).out).mono ?_; rintro e w' ⟨rfl, hw'⟩; have hw'' := hw'.symm; clear hw'; subst hw'')
        obtain ⟨hn, hb⟩ := KRET.out w4 (a) (-1) (1) HB4.out
        obtain ⟨wz, hwz⟩ : ∃ wz, (((w4.setCell ⟨b + 1, 0, none⟩ (.int .i64 (a))).setCell ⟨b + 1, 1, none⟩ (.int .i64 (-1))).setCell ⟨b + 1, 2, none⟩ (.int .i64 (1))) = wz := ⟨_, rfl⟩
        rw [hwz] at hn hb ⊢
        have p0 := hn.c0
        have p1 := hn.c1
        have p2 := hn.c2
        refine bodyPost_ret (by simp [results, Tryz.results14, go_sem, p0, p1, p2]; try rfl) rfl ?_
        exact ⟨by rw [hRf.out]; rfl, hb⟩
      | true =>
      go_upto_region 12 with (go_at_call 49; refine ((HMN _).out).mono ?_; rintro e w' ⟨rfl, hw'⟩; have hw'' := hw'.symm; clear hw'; subst hw'')
      by_cases hq0 : 0 ≤ q
      · have hRf := Lib.hid (show R = some ((a : Int), -1, 2) from HR.out.symm.trans (res_msg HNB.out HLN.out HP.out HM.out (mr_twice HMB.out (by rw [HHQ.out, decide_eq_true hq0]))))
        go_upto_if 54 with (go_at_call 50; refine (FQ.out _ HB4.out).mono ?_; rintro e w5 ⟨rfl, hb5⟩)
        have HB5 := Lib.hid (HB4.out.trans (hb5.mono HB4.out.size))
        clear hb5 d0 d1 d2 v0 v1 v2 g0 g1 g2 n0 n1
        obtain ⟨⟨d0, d1, d2⟩, hfl⟩ := KD.out w5 HB5.out
        have v0 := hfl.c0
        have v1 := hfl.c1
        have v2 := hfl.c2
        have g0 := hfl.fr 0
        have g1 := hfl.fr 1
        have g2 := hfl.fr 2
        clear hfl
        go_wp2_with fail
        obtain ⟨hn, hb⟩ := KRET.out w5 (a) (-1) (2) HB5.out
        obtain ⟨wz, hwz⟩ : ∃ wz, (((w5.setCell ⟨b + 1, 0, none⟩ (.int .i64 (a))).setCell ⟨b + 1, 1, none⟩ (.int .i64 (-1))).setCell ⟨b + 1, 2, none⟩ (.int .i64 (2))) = wz := ⟨_, rfl⟩
        rw [hwz] at hn hb ⊢
        have p0 := hn.c0
        have p1 := hn.c1
        have p2 := hn.c2
        refine bodyPost_ret (by simp [results, Tryz.results14, go_sem, p0, p1, p2]; try rfl) rfl ?_
        exact ⟨by rw [hRf.out]; rfl, hb⟩
      have HNO := Lib.hid (show hasN (defE (D.take a)) mn = false by rw [HHQ.out, decide_eq_false hq0])
      go_upto_region 14 with (go_at_call 50; refine (FQ.out _ HB4.out).mono ?_; rintro e w5 ⟨rfl, hb5⟩)
      have HB5 := Lib.hid (HB4.out.trans (hb5.mono HB4.out.size))
      have HB45 := Lib.hid hb5
      have DR5 := Lib.hid (DR4.out.below hb5 DR4.out.lt)
      clear hb5 d0 d1 d2 v0 v1 v2 g0 g1 g2 n0 n1 FQ HMN
      obtain ⟨⟨d0, d1, d2⟩, hfl⟩ := KD.out w5 HB5.out
      have v0 := hfl.c0
      have v1 := hfl.c1
      have v2 := hfl.c2
      have g0 := hfl.fr 0
      have g1 := hfl.fr 1
      have g2 := hfl.fr 2
      clear hfl
      obtain ⟨n0, n1⟩ := KM.out w5 HB45.out
      by_cases e1 : fs.length < 1
      · have hRf := Lib.hid (show R = some ((a : Int), -1, 3) from HR.out.symm.trans (res_msg HNB.out HLN.out HP.out HM.out (mr_few HMB.out HNO.out (show inB (fs.length : Int) 1 40 = false by unfold inB; rw [decide_eq_false (show ¬ 1 ≤ (fs.length : Int) by omega), Bool.false_and]))))
        go_wp2_with fail
        obtain ⟨hn, hb⟩ := KRET.out w5 (a) (-1) (3) HB5.out
        obtain ⟨wz, hwz⟩ : ∃ wz, (((w5.setCell ⟨b + 1, 0, none⟩ (.int .i64 (a))).setCell ⟨b + 1, 1, none⟩ (.int .i64 (-1))).setCell ⟨b + 1, 2, none⟩ (.int .i64 (3))) = wz := ⟨_, rfl⟩
        rw [hwz] at hn hb ⊢
        have p0 := hn.c0
        have p1 := hn.c1
        have p2 := hn.c2
        refine bodyPost_ret (by simp [results, Tryz.results14, go_sem, p0, p1, p2]; try rfl) rfl ?_
        exact ⟨by rw [hRf.out]; rfl, hb⟩
      by_cases e2 : 40 < fs.length
      · have hRf := Lib.hid (show R = some ((a : Int), -1, 3) from HR.out.symm.trans (res_msg HNB.out HLN.out HP.out HM.out (mr_few HMB.out HNO.out (show inB (fs.length : Int) 1 40 = false by unfold inB; rw [decide_eq_false (show ¬ (fs.length : Int) ≤ 40 by omega), Bool.and_false]))))
        go_wp2_with fail
        obtain ⟨hn, hb⟩ := KRET.out w5 (a) (-1) (3) HB5.out
        obtain ⟨wz, hwz⟩ : ∃ wz, (((w5.setCell ⟨b + 1, 0, none⟩ (.int .i64 (a))).setCell ⟨b + 1, 1, none⟩ (.int .i64 (-1))).setCell ⟨b + 1, 2, none⟩ (.int .i64 (3))) = wz := ⟨_, rfl⟩
        rw [hwz] at hn hb ⊢
        have p0 := hn.c0
        have p1 := hn.c1
        have p2 := hn.c2
        refine bodyPost_ret (by simp [results, Tryz.results14, go_sem, p0, p1, p2]; try rfl) rfl ?_
        exact ⟨by rw [hRf.out]; rfl, hb⟩
      have HFW := Lib.hid (show inB (fs.length : Int) 1 40 = true by unfold inB; rw [decide_eq_true (by omega), decide_eq_true (by omega)]; rfl)
      go_upto_region 16 with fail
      go_wp2_with fail
      clear d0 d1 d2 v0 v1 v2 g0 g1 g2 n0 n1
      go_loopw [7] (fun x7 wx => ∃ i : Nat, i ≤ fs.length ∧ x7 = .int .i64 ((i : Nat) : Int) ∧ fieldsR (frA (defE (D.take a)) fs) 0 (fs.take i) = none ∧ Below w5.heap.size w5 wx) (fun x7 _ => fs.length - (intOf x7).toNat)
      case atStart => exact ⟨0, Nat.zero_le _, rfl, rfl, Below.refl _ _⟩
      case round =>
        obtain ⟨i, hi, rfl, hfp, hb⟩ := hrel
        have HFP := Lib.hid hfp
        have HB56 := Lib.hid hb
        have HB6 := Lib.hid (HB5.out.trans (hb.mono HB5.out.size))
        have DR6 := Lib.hid (DR5.out.below hb DR5.out.lt)
        have HB46 := Lib.hid (HB45.out.trans (hb.mono HB45.out.size))
        clear hfp hb
        obtain ⟨n0, n1⟩ := KM.out _ HB46.out
        obtain ⟨⟨d0, d1, d2⟩, hfl⟩ := KD.out _ HB6.out
        have v0 := hfl.c0
        have v1 := hfl.c1
        have v2 := hfl.c2
        have g0 := hfl.fr 0
        have g1 := hfl.fr 1
        have g2 := hfl.fr 2
        clear hfl
        by_cases hil : i < fs.length
        · obtain ⟨f, hf⟩ : ∃ f, fs[i]? = some f := ⟨_, List.getElem?_eq_getElem hil⟩
          have FC := Lib.hid (refField1 nm st A c D S wr (H1.out _ HB6.out) a _ HM.out (by omega) HP.out i f hf HFP.out)
          obtain ⟨cd, hcd⟩ : ∃ cd, codeI (frA (defE (D.take a)) fs i f) = cd := ⟨_, rfl⟩
          simp only [hcd] at FC
          have HF := Lib.hid hf
          have HCD := Lib.hid hcd
          clear hf hcd
          by_cases hc0 : cd = 0
          · have HNX := Lib.hid (fields_next HFP.out HF.out (code_zero (nz_field _ _ _ _) (HCD.out.trans hc0)))
            have hc1 : (cd != 0) = false := by rw [hc0]; rfl
            clear hc0
            go_wp2_with (go_at_call 51; refine (FC.out).mono ?_; rintro e w7 ⟨rfl, hb7⟩)
            go_roundw
            case rel => exact ⟨i + 1, by omega, by go_num, HNX.out, HB56.out.trans (hb7.mono HB56.out.size)⟩
            case measure => simp [intOf]; omega
          · have hRf := Lib.hid (show R = some ((a : Int), (i : Int), cd) from HR.out.symm.trans (res_msg (p := ((i : Int), cd)) HNB.out HLN.out HP.out HM.out (mr_field HMB.out HNO.out HFW.out (fields_at HFP.out HF.out (by have := code_some (r := frA (defE (D.take a)) fs i f) (by rw [HCD.out]; exact hc0); rwa [HCD.out] at this)))))
            have hc1 : (cd != 0) = true := bne_iff_ne.2 hc0
            clear hc0
            go_upto_if 81 with (go_at_call 51; refine (FC.out).mono ?_; rintro e w7 ⟨rfl, hb7⟩)
            have HB7 := Lib.hid (HB6.out.trans (hb7.mono HB6.out.size))
            clear hb7 d0 d1 d2 v0 v1 v2 g0 g1 g2 n0 n1
            obtain ⟨⟨d0, d1, d2⟩, hfl⟩ := KD.out w7 HB7.out
            have v0 := hfl.c0
            have v1 := hfl.c1
            have v2 := hfl.c2
            have g0 := hfl.fr 0
            have g1 := hfl.fr 1
            have g2 := hfl.fr 2
            clear hfl
            go_wp2_with fail
            obtain ⟨hn, hb⟩ := KRET.out w7 (a) (i) (cd) HB7.out
            obtain ⟨wz, hwz⟩ : ∃ wz, (((w7.setCell ⟨b + 1, 0, none⟩ (.int .i64 (a))).setCell ⟨b + 1, 1, none⟩ (.int .i64 (i))).setCell ⟨b + 1, 2, none⟩ (.int .i64 (cd))) = wz := ⟨_, rfl⟩
            rw [hwz] at hn hb ⊢
            have p0 := hn.c0
            have p1 := hn.c1
            have p2 := hn.c2
            refine bodyPost_ret (by simp [results, Tryz.results14, go_sem, p0, p1, p2]; try rfl) rfl ?_
            exact ⟨by rw [hRf.out]; rfl, hb⟩
        · obtain rfl : i = fs.length := by omega
          have hff := HFP.out
          rw [List.take_length] at hff
          have HFF := Lib.hid hff
          clear hff
          have hfew : fs.length ≤ 40 := by omega
          have HRF := Lib.hid (refRefers_any mn fa fc fs S wr ((H1.out _ HB6.out).2 _ (List.mem_of_getElem? HM.out)) (by have := few_refs (m := ⟨mn, fa, fc, fs⟩) HFF.out hfew; show (fs.flatMap targB).length ≤ 4000000000; have h2 : (fs.flatMap targB).length ≤ 1600 := this; omega))
          go_upto_region 22 with fail
          go_upto_region 23 with (go_at_call 52; refine (HRF.out).mono ?_; rintro e w7 ⟨RA, rc, rfl, hrr, hb7⟩)
          obtain ⟨W8, hW8⟩ : ∃ W8 : World, W8 = wr := ⟨_, rfl⟩
          rw [← hW8] at hrr
          have RR := Lib.hid hrr
          have HB7 := Lib.hid (HB6.out.trans (hb7.mono HB6.out.size))
          have DR7 := Lib.hid (DR6.out.below hb7 DR6.out.lt)
          obtain ⟨N, hN⟩ : ∃ N, refsN fs = N := ⟨_, rfl⟩
          rw [hN] at RR ⊢
          have HNN := Lib.hid hN
          obtain ⟨s0, hs0⟩ : ∃ s, (!(fs.any (·.loose))) = s := ⟨_, rfl⟩
          have HFIN := Lib.hid (show natS (defE (D.take a)) fs = natF (defE (D.take a)) (1, s0) N by
            unfold natS
            rw [HNN.out, hs0])
          have hNl : N.length ≤ 1600 := by
            rw [← HNN.out]
            have h1 := addAll_len (fs.flatMap targB) []
            have h2 : (fs.flatMap targB).length ≤ 1600 := few_refs (m := ⟨mn, fa, fc, fs⟩) HFF.out hfew
            unfold refsN
            simp only [List.length_nil, Nat.zero_add] at h1
            omega
          have RNE := Lib.hid (show ∀ k, Value.ownBlock (.slice RA N.length rc) = some k → k ≠ dg from fun k hk => by
            have h1 := (own_ge RR.out k hk).1
            have h2 := DR6.out.lt
            rw [hW8] at h1
            omega)
          clear hW8 hrr hb7 hN hs0 d0 d1 d2 v0 v1 v2 g0 g1 g2 n0 n1 HRF
          go_wp2_with fail
          go_loopw [10] (fun x10 wx => ∃ (i : Nat) (t : Int), i ≤ N.length ∧ x10 = .int .i64 ((i : Nat) : Int) ∧ t + 1 = (natF (defE (D.take a)) (1, s0) (N.take i)).1 ∧ 0 ≤ t ∧ t ≤ 16 ∧ DRow wx dg D.length (vsT D a t) ∧ wx.ownsRow W8.heap.size 9 1 (.slice RA N.length rc) N.length (txt N) ∧ Below w1.heap.size w1 wx) (fun x10 _ => N.length - (intOf x10).toNat)
          case atStart => exact ⟨0, 0, Nat.zero_le _, rfl, by simp [natF], by decide, by decide, DR7.out, RR.out, HB7.out⟩
          case round =>
            obtain ⟨k, t, hk, rfl, ht, ht0, ht16, hdr, hro, hb⟩ := hrel
            have HT := Lib.hid ht
            have DR8 := Lib.hid hdr
            have RR8 := Lib.hid hro
            have HB8 := Lib.hid hb
            clear ht hdr hro hb
            by_cases hkl : k < N.length
            · obtain ⟨s, hs⟩ : ∃ s, N[k]? = some s := ⟨_, List.getElem?_eq_getElem hkl⟩
              obtain ⟨j, hja, hjl, hidx, hval, hv0, hv16⟩ := ref_found (m := ⟨mn, fa, fc, fs⟩) (s := s) HP.out HFF.out (show s ∈ refsN fs by rw [HNN.out]; exact List.mem_of_getElem? hs)
              obtain ⟨v, hv⟩ : ∃ v, dJ D j = v := ⟨_, rfl⟩
              rw [hv] at hval hv0 hv16
              have hnx : (if t < v then v else t) + 1 = (natF (defE (D.take a)) (1, s0) (N.take (k + 1))).1 := by
                rw [(drop_of hs).2, natF_snoc]
                unfold natStep
                rw [hval, ← HT.out]
                simp only
                split <;> omega
              have HNX := Lib.hid hnx
              have HMX := Lib.hid (show 0 ≤ (if t < v then v else t) ∧ (if t < v then v else t) ≤ 16 by split <;> omega)
              obtain ⟨og, oo, eRA, _, hxr⟩ := (slAt_txt RR8.out).2.2 k s hs
              have r0 : wr.cell? ⟨og, oo + k, none⟩ = some (.string (strL s)) := by have := hxr 0 _ rfl; simpa using this
              subst eRA
              have r4 : wr.cell? ⟨dg, a, none⟩ = some (.int .i64 t) := by
                have := DR8.out.cell hlt
                unfold vsT at this
                rwa [if_neg (by omega), if_pos rfl] at this
              have r5 : wr.cell? ⟨dg, j, none⟩ = some (.int .i64 v) := by
                have := DR8.out.cell hjl
                unfold vsT at this
                rwa [if_pos hja, hv] at this
              have OGN := Lib.hid (RNE.out og rfl)
              have KR : Hid (∀ wx, Below wr.heap.size wr wx → wx.cell? ⟨b, 0, none⟩ = some (.string (strL nm)) ∧ wx.cell? ⟨b, 1, none⟩ = some (.slice A D.length c) ∧ wx.cell? ⟨b, 2, none⟩ = some (.string (strL st)) ∧ wx.cell? ⟨og, oo + k, none⟩ = some (.string (strL s)) ∧ wx.cell? ⟨dg, a, none⟩ = some (.int .i64 t) ∧ wx.cell? ⟨dg, j, none⟩ = some (.int .i64 v)) := Lib.hid (fun wx hb => by
                obtain ⟨⟨q0, q1, q2⟩, _⟩ := KD.out wx (HB8.out.trans (hb.mono HB8.out.size))
                exact ⟨q0, q1, q2, (hb.cell (p := ⟨og, oo + k, none⟩) (World.block_lt_of_cell? _ _ r0)).trans r0, (hb.cell (p := ⟨dg, a, none⟩) (World.block_lt_of_cell? _ _ r4)).trans r4, (hb.cell (p := ⟨dg, j, none⟩) (World.block_lt_of_cell? _ _ r5)).trans r5⟩)
              have FC : Hid (∀ wx, Below wr.heap.size wr wx → Calls Tryz.prog 50 #[.agg #[.string (strL nm), .slice A D.length c, .string (strL st)], .string (strL s), .int .i64 ((a : Nat) : Int)] wx fun e w' => e = .returned (.int .i64 ((j : Nat) : Int)) ∧ Below wx.heap.size wx w') := Lib.hid (fun wx hb => by
                have := refFind_any nm st A c D s a (by omega) S wx (H1.out wx (HB8.out.trans (hb.mono HB8.out.size))).1
                rwa [hidx] at this)
              have KW : Hid (∀ wx, Below wr.heap.size wr wx → DRow (wx.setCell ⟨dg, a, none⟩ (.int .i64 (if t < v then v else t))) dg D.length (vsT D a (if t < v then v else t)) ∧ (wx.setCell ⟨dg, a, none⟩ (.int .i64 (if t < v then v else t))).ownsRow W8.heap.size 9 1 (.slice (some ⟨og, oo, none⟩) N.length rc) N.length (txt N) ∧ Below w1.heap.size w1 (wx.setCell ⟨dg, a, none⟩ (.int .i64 (if t < v then v else t)))) := Lib.hid (fun wx hb => by
                have hr : Rest (fun k => k = dg) wx (wx.setCell ⟨dg, a, none⟩ (.int .i64 (if t < v then v else t))) := (Rest.refl (fun k => k = dg) wx).setCell (S := fun k => k = dg) (p := ⟨dg, a, none⟩) (fun _ => rfl) _
                have hbx := HB8.out.trans (hb.mono HB8.out.size)
                refine ⟨((DR8.out.below hb DR8.out.lt).set a _).congr (fun x _ => by unfold vsT; split <;> split <;> (try split) <;> first | rfl | omega), hr.row (own_below RR8.out hb) (fun x hx e => RNE.out x hx e), hbx.trans ((hr.toBelow w1.heap.size hbx.size (fun x hx e => by have := EDG.out; omega)))⟩)
              have hk0 : (0 : Int) ≤ ((k : Nat) : Int) := by omega
              have hk1 : ((k : Nat) : Int) < ((N.length : Nat) : Int) := by omega
              have hj0 : (0 : Int) ≤ ((j : Nat) : Int) := by omega
              have hj1 : ((j : Nat) : Int) < ((D.length : Nat) : Int) := by omega
              have ha0 : (0 : Int) ≤ ((a : Nat) : Int) := by omega
              have ha1 : ((a : Nat) : Int) < ((D.length : Nat) : Int) := by omega
              clear hs hidx hval hv hnx hxr r0 r4 r5
              go_upto_region 26 with fail
              refine tail_region 18 [94, 95, 96, 97, 98, 99, 100, 101, 102, 103, 104, 105, 106, 107, 108, 109, 110, 111] (fun i => match i with | 0 => Value.slice (some ⟨dg, 0, none⟩) D.length D.length | 1 => Value.int .i64 ((a : Nat) : Int) | 2 => Value.slice (some ⟨dg, 0, none⟩) D.length D.length | 3 => Value.int .i64 ((a : Nat) : Int) | 4 => Value.pointer (some ⟨dg, a, none⟩) | 5 => Value.int .i64 t | 6 => Value.slice (some ⟨dg, 0, none⟩) D.length D.length | 7 => Value.agg #[.string (strL nm), .slice A D.length c, .string (strL st)] | 8 => Value.slice (some ⟨og, oo, none⟩) N.length rc | 9 => Value.int .i64 ((k : Nat) : Int) | 10 => Value.pointer (some ⟨og, oo + k, none⟩) | 11 => Value.string (strL s) | 12 => Value.int .i64 ((a : Nat) : Int) | 13 => Value.int .i64 ((j : Nat) : Int) | 14 => Value.pointer (some ⟨dg, j, none⟩) | 15 => Value.int .i64 v | 16 => Value.int .i64 (if t < v then v else t) | _ => Value.pointer (some ⟨dg, a, none⟩)) rfl rfl (by decide) (by decide) (by simp) (by kernel_rfl) (topo (by kernel_rfl)) (by kernel_rfl) ?_ ?_
              · intro i' o' dd ho hd
                rcases i' with _ | _ | _ | _ | _ | _ | _ | _ | _ | _ | _ | _ | _ | _ | _ | _ | _ | _ | i'
                · cases ho
                  cases hd
                  refine ⟨rfl, rfl, ?_⟩
                  simp only [List.getElem_toArray, List.getElem_cons_zero, List.getElem_cons_succ]
                  refine fun a' w' hf hb ha => .inl ?_
                  have h2 : a'.eval (.tmp 4) = Value.slice (some ⟨dg, 0, none⟩) D.length D.length := eval_at ((hf.low 4 (by decide)).trans rfl)
                  unfold execOp
                  simp only
                  rw [h2]
                  rfl
                · cases ho
                  cases hd
                  refine ⟨rfl, rfl, ?_⟩
                  simp only [List.getElem_toArray, List.getElem_cons_zero, List.getElem_cons_succ]
                  refine fun a' w' hf hb ha => .inl ?_
                  have h2 : a'.eval (.tmp 5) = Value.int .i64 ((a : Nat) : Int) := eval_at ((hf.low 5 (by decide)).trans rfl)
                  unfold execOp
                  simp only
                  rw [h2]
                  rfl
                · cases ho
                  cases hd
                  refine ⟨rfl, rfl, ?_⟩
                  simp only [List.getElem_toArray, List.getElem_cons_zero, List.getElem_cons_succ]
                  refine fun a' w' hf hb ha => .inl ?_
                  have h2 : a'.eval (.tmp 4) = Value.slice (some ⟨dg, 0, none⟩) D.length D.length := eval_at ((hf.low 4 (by decide)).trans rfl)
                  unfold execOp
                  simp only
                  rw [h2]
                  rfl
                · cases ho
                  cases hd
                  refine ⟨rfl, rfl, ?_⟩
                  simp only [List.getElem_toArray, List.getElem_cons_zero, List.getElem_cons_succ]
                  refine fun a' w' hf hb ha => .inl ?_
                  have h2 : a'.eval (.tmp 5) = Value.int .i64 ((a : Nat) : Int) := eval_at ((hf.low 5 (by decide)).trans rfl)
                  unfold execOp
                  simp only
                  rw [h2]
                  rfl
                · cases ho
                  cases hd
                  refine ⟨rfl, rfl, ?_⟩
                  simp only [List.getElem_toArray, List.getElem_cons_zero, List.getElem_cons_succ]
                  refine fun a' w' hf hb ha => .inl ?_
                  have h2 := eval_at (ha { on := 2, ground := .data } (by simp) (by simp [Region.binds]) 96 rfl)
                  have h3 := eval_at (ha { on := 3, ground := .data } (by simp) (by simp [Region.binds]) 97 rfl)
                  dsimp only at h2 h3
                  unfold execOp
                  simp only
                  rw [h2, h3]
                  simp [go_sem, Tryz.sizeIntC, Tryz.sizeStrC, *]
                · cases ho
                  cases hd
                  refine ⟨rfl, rfl, ?_⟩
                  simp only [List.getElem_toArray, List.getElem_cons_zero, List.getElem_cons_succ]
                  refine fun a' w' hf hb ha => .inl ?_
                  have h2 := eval_at (ha { on := 4, ground := .data } (by simp) (by simp [Region.binds]) 98 rfl)
                  dsimp only at h2
                  obtain ⟨z0, z1, z2, z3, z4, z5⟩ := KR.out w' hb
                  unfold execOp
                  simp only
                  rw [h2]
                  simp [go_sem, z4]
                · cases ho
                  cases hd
                  refine ⟨rfl, rfl, ?_⟩
                  simp only [List.getElem_toArray, List.getElem_cons_zero, List.getElem_cons_succ]
                  refine fun a' w' hf hb ha => .inl ?_
                  have h2 : a'.eval (.tmp 4) = Value.slice (some ⟨dg, 0, none⟩) D.length D.length := eval_at ((hf.low 4 (by decide)).trans rfl)
                  unfold execOp
                  simp only
                  rw [h2]
                  rfl
                · cases ho
                  cases hd
                  refine ⟨rfl, rfl, ?_⟩
                  simp only [List.getElem_toArray, List.getElem_cons_zero, List.getElem_cons_succ]
                  refine fun a' w' hf hb ha => .inl ?_
                  have h2 : a'.eval (.tmp 1) = .pointer (some ⟨b, 0, none⟩) := eval_at ((hf.low 1 (by decide)).trans rfl)
                  obtain ⟨z0, z1, z2, z3, z4, z5⟩ := KR.out w' hb
                  unfold execOp
                  simp only
                  rw [h2]
                  simp [go_sem, z0, z1, z2]
                · cases ho
                  cases hd
                  refine ⟨rfl, rfl, ?_⟩
                  simp only [List.getElem_toArray, List.getElem_cons_zero, List.getElem_cons_succ]
                  refine fun a' w' hf hb ha => .inl ?_
                  have h2 : a'.eval (.tmp 9) = Value.slice (some ⟨og, oo, none⟩) N.length rc := eval_at ((hf.low 9 (by decide)).trans rfl)
                  unfold execOp
                  simp only
                  rw [h2]
                  rfl
                · cases ho
                  cases hd
                  refine ⟨rfl, rfl, ?_⟩
                  simp only [List.getElem_toArray, List.getElem_cons_zero, List.getElem_cons_succ]
                  refine fun a' w' hf hb ha => .inl ?_
                  have h2 : a'.eval (.tmp 10) = Value.int .i64 ((k : Nat) : Int) := eval_at ((hf.low 10 (by decide)).trans rfl)
                  unfold execOp
                  simp only
                  rw [h2]
                  rfl
                · cases ho
                  cases hd
                  refine ⟨rfl, rfl, ?_⟩
                  simp only [List.getElem_toArray, List.getElem_cons_zero, List.getElem_cons_succ]
                  refine fun a' w' hf hb ha => .inl ?_
                  have h2 := eval_at (ha { on := 8, ground := .data } (by simp) (by simp [Region.binds]) 102 rfl)
                  have h3 := eval_at (ha { on := 9, ground := .data } (by simp) (by simp [Region.binds]) 103 rfl)
                  dsimp only at h2 h3
                  unfold execOp
                  simp only
                  rw [h2, h3]
                  simp [go_sem, Tryz.sizeIntC, Tryz.sizeStrC, *]
                · cases ho
                  cases hd
                  refine ⟨rfl, rfl, ?_⟩
                  simp only [List.getElem_toArray, List.getElem_cons_zero, List.getElem_cons_succ]
                  refine fun a' w' hf hb ha => .inl ?_
                  have h2 := eval_at (ha { on := 10, ground := .data } (by simp) (by simp [Region.binds]) 104 rfl)
                  dsimp only at h2
                  obtain ⟨z0, z1, z2, z3, z4, z5⟩ := KR.out w' hb
                  unfold execOp
                  simp only
                  rw [h2]
                  simp [go_sem, z3]
                · cases ho
                  cases hd
                  refine ⟨rfl, rfl, ?_⟩
                  simp only [List.getElem_toArray, List.getElem_cons_zero, List.getElem_cons_succ]
                  refine fun a' w' hf hb ha => .inl ?_
                  have h2 : a'.eval (.tmp 5) = Value.int .i64 ((a : Nat) : Int) := eval_at ((hf.low 5 (by decide)).trans rfl)
                  unfold execOp
                  simp only
                  rw [h2]
                  rfl
                · cases ho
                  cases hd
                  refine ⟨rfl, rfl, ?_⟩
                  simp only [List.getElem_toArray, List.getElem_cons_zero, List.getElem_cons_succ]
                  refine fun a' w' hf hb ha => .inr ?_
                  have h2 := ha { on := 7, ground := .data } (by simp) (by simp [Region.binds]) 101 rfl
                  have h3 := ha { on := 11, ground := .data } (by simp) (by simp [Region.binds]) 105 rfl
                  have h4 := ha { on := 12, ground := .data } (by simp) (by simp [Region.binds]) 106 rfl
                  dsimp only at h2 h3 h4
                  refine ⟨50, #[.agg #[.string (strL nm), .slice A D.length c, .string (strL st)], .string (strL s), .int .i64 ((a : Nat) : Int)], ?_, FC.out w' hb⟩
                  unfold execOp
                  simp [go_sem, resolve, h2, h3, h4]
                · cases ho
                  cases hd
                  refine ⟨rfl, rfl, ?_⟩
                  simp only [List.getElem_toArray, List.getElem_cons_zero, List.getElem_cons_succ]
                  refine fun a' w' hf hb ha => .inl ?_
                  have h2 := eval_at (ha { on := 6, ground := .data } (by simp) (by simp [Region.binds]) 100 rfl)
                  have h3 := eval_at (ha { on := 13, ground := .data } (by simp) (by simp [Region.binds]) 107 rfl)
                  dsimp only at h2 h3
                  unfold execOp
                  simp only
                  rw [h2, h3]
                  simp [go_sem, Tryz.sizeIntC, Tryz.sizeStrC, *]
                · cases ho
                  cases hd
                  refine ⟨rfl, rfl, ?_⟩
                  simp only [List.getElem_toArray, List.getElem_cons_zero, List.getElem_cons_succ]
                  refine fun a' w' hf hb ha => .inl ?_
                  have h2 := eval_at (ha { on := 14, ground := .data } (by simp) (by simp [Region.binds]) 108 rfl)
                  dsimp only at h2
                  obtain ⟨z0, z1, z2, z3, z4, z5⟩ := KR.out w' hb
                  unfold execOp
                  simp only
                  rw [h2]
                  simp [go_sem, z5]
                · cases ho
                  cases hd
                  refine ⟨rfl, rfl, ?_⟩
                  simp only [List.getElem_toArray, List.getElem_cons_zero, List.getElem_cons_succ]
                  refine fun a' w' hf hb ha => .inl ?_
                  have h2 := ha { on := 5, ground := .data } (by simp) (by simp [Region.binds]) 99 rfl
                  have h3 := ha { on := 15, ground := .data } (by simp) (by simp [Region.binds]) 109 rfl
                  dsimp only at h2 h3
                  unfold execOp
                  simp [go_sem, resolve, h2, h3]
                · cases ho
                  cases hd
                  refine ⟨rfl, rfl, ?_⟩
                  simp only [List.getElem_toArray, List.getElem_cons_zero, List.getElem_cons_succ]
                  refine fun a' w' hf hb ha => .inl ?_
                  have h2 := eval_at (ha { on := 0, ground := .data } (by simp) (by simp [Region.binds]) 94 rfl)
                  have h3 := eval_at (ha { on := 1, ground := .data } (by simp) (by simp [Region.binds]) 95 rfl)
                  dsimp only at h2 h3
                  unfold execOp
                  simp only
                  rw [h2, h3]
                  simp [go_sem, Tryz.sizeIntC, Tryz.sizeStrC, *]
                · simp at hd
              · intro o' ho
                cases ho
                refine ⟨rfl, rfl, ?_⟩
                intro w' hb
                obtain ⟨hdw, how, hbw⟩ := KW.out w' hb
                obtain ⟨z0, z1, z2, z3, z4, z5⟩ := KR.out w' hb
                have zf := (DR8.out.below hb DR8.out.lt).fr a
                refine ⟨w'.setCell ⟨dg, a, none⟩ (.int .i64 (if t < v then v else t)), ?_, ?_⟩
                · have e1 : ∀ a' : Act, 111 < a'.tmps.size → (putFrom (fun i => match i with | 0 => Value.slice (some ⟨dg, 0, none⟩) D.length D.length | 1 => Value.int .i64 ((a : Nat) : Int) | 2 => Value.slice (some ⟨dg, 0, none⟩) D.length D.length | 3 => Value.int .i64 ((a : Nat) : Int) | 4 => Value.pointer (some ⟨dg, a, none⟩) | 5 => Value.int .i64 t | 6 => Value.slice (some ⟨dg, 0, none⟩) D.length D.length | 7 => Value.agg #[.string (strL nm), .slice A D.length c, .string (strL st)] | 8 => Value.slice (some ⟨og, oo, none⟩) N.length rc | 9 => Value.int .i64 ((k : Nat) : Int) | 10 => Value.pointer (some ⟨og, oo + k, none⟩) | 11 => Value.string (strL s) | 12 => Value.int .i64 ((a : Nat) : Int) | 13 => Value.int .i64 ((j : Nat) : Int) | 14 => Value.pointer (some ⟨dg, j, none⟩) | 15 => Value.int .i64 v | 16 => Value.int .i64 (if t < v then v else t) | _ => Value.pointer (some ⟨dg, a, none⟩)) 0 [94, 95, 96, 97, 98, 99, 100, 101, 102, 103, 104, 105, 106, 107, 108, 109, 110, 111] a').eval (.tmp 111) = .pointer (some ⟨dg, a, none⟩) := fun a' h => eval_at (putFrom_at _ _ 0 a' 17 111 (by decide) rfl h)
                  have e2 : ∀ a' : Act, 110 < a'.tmps.size → (putFrom (fun i => match i with | 0 => Value.slice (some ⟨dg, 0, none⟩) D.length D.length | 1 => Value.int .i64 ((a : Nat) : Int) | 2 => Value.slice (some ⟨dg, 0, none⟩) D.length D.length | 3 => Value.int .i64 ((a : Nat) : Int) | 4 => Value.pointer (some ⟨dg, a, none⟩) | 5 => Value.int .i64 t | 6 => Value.slice (some ⟨dg, 0, none⟩) D.length D.length | 7 => Value.agg #[.string (strL nm), .slice A D.length c, .string (strL st)] | 8 => Value.slice (some ⟨og, oo, none⟩) N.length rc | 9 => Value.int .i64 ((k : Nat) : Int) | 10 => Value.pointer (some ⟨og, oo + k, none⟩) | 11 => Value.string (strL s) | 12 => Value.int .i64 ((a : Nat) : Int) | 13 => Value.int .i64 ((j : Nat) : Int) | 14 => Value.pointer (some ⟨dg, j, none⟩) | 15 => Value.int .i64 v | 16 => Value.int .i64 (if t < v then v else t) | _ => Value.pointer (some ⟨dg, a, none⟩)) 0 [94, 95, 96, 97, 98, 99, 100, 101, 102, 103, 104, 105, 106, 107, 108, 109, 110, 111] a').eval (.tmp 110) = .int .i64 (if t < v then v else t) := fun a' h => eval_at (putFrom_at _ _ 0 a' 16 110 (by decide) rfl h)
                  unfold execOp
                  simp only [List.getElem_toArray, List.getElem_cons_zero, List.getElem_cons_succ]
                  rw [e1 _ (by simp), e2 _ (by simp)]
                  simp [go_sem, z4, zf]
                · have HDW := Lib.hid hdw
                  have HOW := Lib.hid how
                  have HBW := Lib.hid hbw
                  clear hdw how hbw z0 z1 z2 z3 z4 z5 zf
                  simp only [putFrom, Act.put, List.setIfInBounds_toArray, List.set_cons_zero, List.set_cons_succ, Nat.reduceAdd]
                  go_wp2_with fail
                  go_roundw
                  case rel => exact ⟨k + 1, if t < v then v else t, by omega, by go_num, HNX.out, HMX.out.1, HMX.out.2, HDW.out, HOW.out, HBW.out⟩
                  case measure => simp [intOf]; omega
            · obtain rfl : k = N.length := by omega
              have hdp : t + 1 = (natS (defE (D.take a)) fs).1 := by
                have := HT.out
                rw [List.take_length] at this
                rw [HFIN.out, this]
              have hdj : dJ D a = t + 1 := by
                unfold dJ
                rw [HM.out]
                exact hdp.symm
              have HDP := Lib.hid hdp
              have HDJ := Lib.hid hdj
              have r4 : wr.cell? ⟨dg, a, none⟩ = some (.int .i64 t) := by
                have := DR8.out.cell hlt
                unfold vsT at this
                rwa [if_neg (by omega), if_pos rfl] at this
              have rf := DR8.out.fr a
              have hwr : wrap64 (t + 1) = t + 1 := by unfold wrap64; omega
              have ha0 : (0 : Int) ≤ ((a : Nat) : Int) := by omega
              have ha1 : ((a : Nat) : Int) < ((D.length : Nat) : Int) := by omega
              have hr9 : Rest (fun k => k = dg) wr (wr.setCell ⟨dg, a, none⟩ (.int .i64 (t + 1))) := (Rest.refl (fun k => k = dg) wr).setCell (S := fun k => k = dg) (p := ⟨dg, a, none⟩) (fun _ => rfl) _
              have hdr9 := (DR8.out.set a (t + 1)).congr (vs' := vsT D (a + 1) 0) (fun x _ => by
                have := HDJ.out
                unfold vsT
                by_cases h1 : x = a
                · subst h1
                  rw [if_pos rfl, if_pos (by omega), this]
                · by_cases h2 : x < a
                  · rw [if_neg h1, if_pos h2, if_pos (by omega)]
                  · rw [if_neg h1, if_neg h2, if_neg h1, if_neg (by omega)]
                    split <;> rfl)
              have hb9 := HB8.out.trans (hr9.toBelow w1.heap.size HB8.out.size (fun x hx e => by have := EDG.out; omega))
              have hc9 : (wr.setCell ⟨dg, a, none⟩ (.int .i64 (t + 1))).cell? ⟨dg, a, none⟩ = some (.int .i64 (t + 1)) := by
                have := (DR8.out.set a (t + 1)).cell hlt
                rwa [if_pos rfl] at this
              obtain ⟨w9, hw9⟩ : ∃ w9, wr.setCell ⟨dg, a, none⟩ (.int .i64 (t + 1)) = w9 := ⟨_, rfl⟩
              rw [hw9] at hdr9 hb9 hc9
              have W9 := Lib.hid hw9
              have DR9 := Lib.hid hdr9
              have HB9 := Lib.hid hb9
              clear hdp hdj hr9 hdr9 hb9 hw9
              go_upto_region 28 with fail
              rw [W9.out]
              clear r4 rf
              obtain ⟨⟨d0, d1, d2⟩, hfl⟩ := KD.out w9 HB9.out
              have v0 := hfl.c0
              have v1 := hfl.c1
              have v2 := hfl.c2
              have g0 := hfl.fr 0
              have g1 := hfl.fr 1
              have g2 := hfl.fr 2
              clear hfl
              by_cases h16 : 16 < t + 1
              · have hRf := Lib.hid (show R = some ((a : Int), -1, 10) from HR.out.symm.trans (res_msg HNB.out HLN.out HP.out HM.out (mr_deep HMB.out HNO.out HFW.out HFF.out (by have := HDP.out; show ¬ (natS (defE (D.take a)) fs).1 ≤ 16; omega))))
                go_wp2_with fail
                obtain ⟨hn, hb⟩ := KRET.out w9 (a) (-1) (10) HB9.out
                obtain ⟨wz, hwz⟩ : ∃ wz, (((w9.setCell ⟨b + 1, 0, none⟩ (.int .i64 (a))).setCell ⟨b + 1, 1, none⟩ (.int .i64 (-1))).setCell ⟨b + 1, 2, none⟩ (.int .i64 (10))) = wz := ⟨_, rfl⟩
                rw [hwz] at hn hb ⊢
                have p0 := hn.c0
                have p1 := hn.c1
                have p2 := hn.c2
                refine bodyPost_ret (by simp [results, Tryz.results14, go_sem, p0, p1, p2]; try rfl) rfl ?_
                exact ⟨by rw [hRf.out]; rfl, hb⟩
              · have HNX := Lib.hid (msgs_next HP.out HM.out (mr_ok HMB.out HNO.out HFW.out HFF.out (by have := HDP.out; show (natS (defE (D.take a)) fs).1 ≤ 16; omega)))
                go_wp2_with fail
                go_roundw
                case rel => exact ⟨a + 1, by omega, by go_num, HNX.out, DR9.out, HB9.out⟩
                case measure => simp [intOf]; omega
    · obtain rfl : a = D.length := by omega
      have hpp := HP.out
      rw [List.take_length] at hpp
      have hre := HR.out.symm.trans (res_end (st := st) HNB.out HLN.out hpp)
      obtain ⟨q, hq⟩ : ∃ q, idxOf (fun d : MsgD => d.name == st) (D.take D.length) = q := ⟨_, rfl⟩
      have hhq : hasN (defE D) st = decide (0 ≤ q) := by
        have := has_idx D D.length st
        rwa [hq, List.take_length] at this
      have FQ : Hid (∀ wx, Below w1.heap.size w1 wx → Calls Tryz.prog 50 #[.agg #[.string (strL nm), .slice A D.length c, .string (strL st)], .string (strL st), .int .i64 ((D.length : Nat) : Int)] wx fun e w' => e = .returned (.int .i64 q) ∧ Below wx.heap.size wx w') := Lib.hid (fun wx hb => by
        have := refFind_any nm st A c D st D.length (Nat.le_refl _) S wx (H1.out wx hb).1
        rwa [hq] at this)
      have HRE := Lib.hid (show R = ifD (decide (0 ≤ q)) 11 by rw [hre, hhq])
      clear hpp hre hq hhq hw3
      go_upto_if 132 with (go_at_call 50; refine (FQ.out _ HB.out).mono ?_; rintro e w5 ⟨rfl, hb5⟩)
      have HB5 := Lib.hid (HB.out.trans (hb5.mono HB.out.size))
      clear hb5 d0 d1 d2 v0 v1 v2 g0 g1 g2
      obtain ⟨⟨d0, d1, d2⟩, hfl⟩ := KD.out w5 HB5.out
      have v0 := hfl.c0
      have v1 := hfl.c1
      have v2 := hfl.c2
      have g0 := hfl.fr 0
      have g1 := hfl.fr 1
      have g2 := hfl.fr 2
      clear hfl
      by_cases hq0 : q < 0
      · have hRf := Lib.hid (show R = some (-1, -1, 11) by rw [HRE.out, decide_eq_false (by omega)]; rfl)
        go_wp2_with fail
        obtain ⟨hn, hb⟩ := KRET.out w5 (-1) (-1) (11) HB5.out
        obtain ⟨wz, hwz⟩ : ∃ wz, (((w5.setCell ⟨b + 1, 0, none⟩ (.int .i64 (-1))).setCell ⟨b + 1, 1, none⟩ (.int .i64 (-1))).setCell ⟨b + 1, 2, none⟩ (.int .i64 (11))) = wz := ⟨_, rfl⟩
        rw [hwz] at hn hb ⊢
        have p0 := hn.c0
        have p1 := hn.c1
        have p2 := hn.c2
        refine bodyPost_ret (by simp [results, Tryz.results14, go_sem, p0, p1, p2]; try rfl) rfl ?_
        exact ⟨by rw [hRf.out]; rfl, hb⟩
      · have hRf := Lib.hid (show R = none by rw [HRE.out, decide_eq_true (by omega)]; rfl)
        go_wp2_with fail
        obtain ⟨hn, hb⟩ := KRET.out w5 (0) (0) (0) HB5.out
        obtain ⟨wz, hwz⟩ : ∃ wz, (((w5.setCell ⟨b + 1, 0, none⟩ (.int .i64 (0))).setCell ⟨b + 1, 1, none⟩ (.int .i64 (0))).setCell ⟨b + 1, 2, none⟩ (.int .i64 (0))) = wz := ⟨_, rfl⟩
        rw [hwz] at hn hb ⊢
        have p0 := hn.c0
        have p1 := hn.c1
        have p2 := hn.c2
        refine bodyPost_ret (by simp [results, Tryz.results14, go_sem, p0, p1, p2]; try rfl) rfl ?_
        exact ⟨by rw [hRf.out]; rfl, hb⟩
end Go.Proofs.YtbpkppmbbpoohaaGreat
