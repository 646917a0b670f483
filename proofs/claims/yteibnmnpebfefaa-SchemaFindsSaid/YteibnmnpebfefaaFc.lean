/- The walk of SchemaFinds. Conditions: the messages of the definition lie in memory. -/
import Derived.Test.YteibnmnpebfefaaFa
import Derived.Test.YteibnmnpebfefaaFb
import Derived.Test.YteibnmnpebfefaaKb
import Derived.Deep.RegionHeld
import Derived.Deep.CutRange
namespace Go.Proofs.Yteibnmnpebfefaa
open Go.RowKit Go.Shelf

/-- What the ranges of a message tell of a name. -/
theorem look_rans (fs : List FieldD) (s : List UInt8) : ∃ pa pb ok, (getE (ransE fs) s).getD (.agg #[.int .i64 0, .int .i64 0]) = .agg #[.int .i64 pa, .int .i64 pb] ∧ hasE (ransE fs) s = ok := by
  rw [ransE_p, getE_p]
  cases getP (ransP fs) s with
  | none => exact ⟨0, 0, _, rfl, rfl⟩
  | some p => exact ⟨p.1, p.2, _, rfl, rfl⟩

set_option maxRecDepth 100000 in
set_option maxHeartbeats 12800000 in
theorem finds_walk (nm st : List UInt8) (A : Option Addr) (c : Nat) (D : List MsgD) (s : List UInt8) (a : Nat) (ha : a ≤ 255) (S : Nat → Prop) (w : World) (hD : MsgsAt S w A c D) :
    Calls Try.prog 4 #[.agg #[.string (strL nm), .slice A D.length c, .string (strL st)], .string (strL s), .int .u8 ((a : Nat) : Int)] w fun e w' => e = .returned (.bool true) ∧ Below w.heap.size w w' := by
  have hl : D.length ≤ 9223372036854775807 := Nat.le_trans hD.1.1 hD.1.2.1
  obtain ⟨k, hk⟩ : ∃ k, idxOf (fun d : MsgD => d.name == s) D = k := ⟨_, rfl⟩
  obtain ⟨M, hM⟩ : ∃ M, max k 0 = M := ⟨_, rfl⟩
  obtain ⟨bv, hbv⟩ : ∃ bv, D.any (fun d : MsgD => d.name == s) = bv := ⟨_, rfl⟩
  have hnn : decide (0 ≤ k) = bv := by
    rw [← hk, ← hbv, Bool.eq_iff_iff, decide_eq_true_iff]
    exact idx_nonneg _ D 0
  have f1 : (if k < 0 then 0 else k) = M := by rw [← hM]; split <;> omega
  have HFI : ∀ wx, Below w.heap.size w wx → Hid (Calls Try.prog 19 #[.agg #[.string (strL nm), .slice A D.length c, .string (strL st)], .string (strL s)] wx fun e w' => e = .returned (.tuple #[.int .i64 M, .bool bv]) ∧ Below wx.heap.size wx w') := fun wx hb => Lib.hid (by have := msg_find nm st A c D s S wx (hD.1.rest (Rest.below hb) (fun _ _ e => e)); rw [hk, hM, hbv] at this; exact this)
  have HFR : ∀ wx, Below w.heap.size w wx → Hid (Calls Try.prog 20 #[.agg #[.string (strL nm), .slice A D.length c, .string (strL st)], .string (strL s), .int .i64 ((D.length : Nat) : Int)] wx fun e w' => e = .returned (.int .i64 k) ∧ Below wx.heap.size wx w') := fun wx hb => Lib.hid (by have := refFind_any nm st A c D s D.length (Nat.le_refl _) S wx (hD.1.rest (Rest.below hb) (fun _ _ e => e)); rw [List.take_length, hk] at this; exact this)
  have HFT : ∀ wx, Below w.heap.size w wx → Hid (Calls Try.prog 18 #[.agg #[.string (strL nm), .slice A D.length c, .string (strL st)]] wx (FitsE D wx)) := fun wx hb => Lib.hid (fits_any nm st A c D S wx (hD.rest (Rest.below hb) (fun _ _ e => e)))
  have HKN : ∀ wx, Hid (Calls Try.prog 9 #[] wx fun e w' => e = .returned (.bool true) ∧ Below wx.heap.size wx w') := fun wx => Lib.hid (known_any wx)
  have HD0 := Lib.hid hD
  clear hD hk hM hbv
  have hal := below_alloc w (.cells #[.string (strL nm), .slice A D.length c, .string (strL st)] 44)
  have hbx : (w.alloc (.cells #[.string (strL nm), .slice A D.length c, .string (strL st)] 44)).heap[w.heap.size]? = some (.cells #[.string (strL nm), .slice A D.length c, .string (strL st)] 44 (0, 0)) := heap_alloc_new w _
  obtain ⟨b, eb⟩ : ∃ b, w.heap.size = b := ⟨_, rfl⟩
  obtain ⟨w1, hw1⟩ : ∃ w1, w.alloc (.cells #[.string (strL nm), .slice A D.length c, .string (strL st)] 44) = w1 := ⟨_, rfl⟩
  rw [hw1] at hal hbx
  rw [eb] at hbx
  have KD : Hid (∀ wx, Below w1.heap.size w1 wx → wx.cell? ⟨b, 0, none⟩ = some (.string (strL nm)) ∧ wx.cell? ⟨b, 1, none⟩ = some (.slice A D.length c) ∧ wx.cell? ⟨b, 2, none⟩ = some (.string (strL st))) := Lib.hid (fun wx hb => by
    have := (hb.block b (Array.getElem?_eq_some_iff.1 hbx).1).trans hbx
    exact ⟨by simp [World.cell?, this], by simp [World.cell?, this], by simp [World.cell?, this]⟩)
  have HW := Lib.hid hw1
  have EB := Lib.hid eb
  have HAL := Lib.hid hal
  clear hal hbx eb hw1
  obtain ⟨q0, q1, q2⟩ := KD.out w1 (Below.refl _ _)
  go_enter Try.func4, Try.ntmps4
  go_upto_region 1 with fail
  rw [HW.out, EB.out]
  go_wp2_with fail
  refine ((HFT _ HAL.out).out).mono ?_
  rintro e w2 ⟨fb, rfl, _, hb2⟩
  have HB2 := Lib.hid hb2
  clear hb2 q0 q1 q2
  cases fb with
  | false =>
    go_wp2_with fail
    refine ((HKN _).out).mono ?_
    rintro e w3 ⟨rfl, hb3⟩
    have HB3 := Lib.hid (HAL.out.trans ((HB2.out.trans (hb3.mono HB2.out.size)).mono HAL.out.size))
    clear hb3
    go_wp2_with fail
    go_ret
    exact ⟨rfl, HB3.out⟩
  | true =>
    obtain ⟨q0, q1, q2⟩ := KD.out w2 HB2.out
    go_wp2_with fail
    refine ((HFI _ (HAL.out.trans (HB2.out.mono HAL.out.size))).out).mono ?_
    rintro e w3 ⟨rfl, hb3⟩
    have HB3 := Lib.hid (HB2.out.trans (hb3.mono HB2.out.size))
    clear hb3 q0 q1 q2
    obtain ⟨q0, q1, q2⟩ := KD.out w3 HB3.out
    go_wp2_with fail
    refine ((HFR _ (HAL.out.trans (HB3.out.mono HAL.out.size))).out).mono ?_
    rintro e w4 ⟨rfl, hb4⟩
    have HB4 := Lib.hid (HB3.out.trans (hb4.mono HB3.out.size))
    clear hb4 q0 q1 q2
    obtain ⟨q0, q1, q2⟩ := KD.out w4 HB4.out
    by_cases hz : D.length = 0
    · have hz1 : (((D.length : Nat) : Int) == 0) = true := beq_iff_eq.2 (by omega)
      have HZ := Lib.hid hz
      clear hz
      go_wp2_with fail
      refine ((HKN _).out).mono ?_
      rintro e w5 ⟨rfl, hb5⟩
      have HB5 := Lib.hid (HAL.out.trans ((HB4.out.trans (hb5.mono HB4.out.size)).mono HAL.out.size))
      clear hb5
      go_wp2_with fail
      go_ret
      exact ⟨rfl, HB5.out⟩
    · have hz1 : (((D.length : Nat) : Int) == 0) = false := beq_eq_false_iff_ne.2 (by omega)
      obtain ⟨q, hq⟩ : ∃ q, a % D.length = q := ⟨_, rfl⟩
      have hql : q < D.length := by rw [← hq]; exact Nat.mod_lt _ (by omega)
      obtain ⟨m, hm⟩ : ∃ m, D[q]? = some m := ⟨_, List.getElem?_eq_getElem hql⟩
      have hqi0 : (0 : Int) ≤ ((q : Nat) : Int) := by omega
      have hqi1 : ((q : Nat) : Int) < ((D.length : Nat) : Int) := by omega
      have hrem : Int.tmod ((a : Nat) : Int) ((D.length : Nat) : Int) = ((q : Nat) : Int) := by rw [← hq]; exact (Int.ofNat_tmod a D.length).symm
      have hfs := Lib.hid ((HD0.out.2 m (List.mem_of_getElem? hm)).rest (Rest.below (HAL.out.trans (HB4.out.mono HAL.out.size))) (fun _ _ e => e))
      have hmm := (HD0.out.1.rest (Rest.below (HAL.out.trans (HB4.out.mono HAL.out.size))) (fun _ _ e => e))
      obtain ⟨g, o, rfl, hx⟩ := hmm.at_ hm
      obtain ⟨mn, fa, fc, fs⟩ := m
      have m0 : w4.cell? ⟨g, o + q * 2, none⟩ = some (.string (strL mn)) := hx 0 _ rfl
      have m1 : w4.cell? ⟨g, o + q * 2 + 1, none⟩ = some (.slice fa fs.length fc) := hx 1 _ rfl
      clear hmm hx hm hq
      have lb := World.block_lt_of_cell? _ _ q1
      have lg := World.block_lt_of_cell? _ _ m0
      have KS : Hid (∀ w' : World, Below w4.heap.size w4 w' → w'.cell? ⟨b, 1, none⟩ = some (.slice (some ⟨g, o, none⟩) D.length c) ∧ w'.cell? ⟨g, o + q * 2, none⟩ = some (.string (strL mn)) ∧ w'.cell? ⟨g, o + q * 2 + 1, none⟩ = some (.slice fa fs.length fc)) := Lib.hid (fun w' hb => ⟨(hb.cell (p := ⟨b, 1, none⟩) lb).trans q1, (hb.cell (p := ⟨g, o + q * 2, none⟩) lg).trans m0, (hb.cell (p := ⟨g, o + q * 2 + 1, none⟩) lg).trans m1⟩)
      clear lb lg
      have hwq : IntKind.i64.wrap ((q : Nat) : Int) = ((q : Nat) : Int) := IntWalk.i64_in _ (by omega)
      have hwa : IntKind.i64.wrap ((a : Nat) : Int) = ((a : Nat) : Int) := IntWalk.i64_in _ (by omega)
      go_wp2_with fail
      go_region_held (fun w' => w'.cell? ⟨b, 1, none⟩ = some (.slice (some ⟨g, o, none⟩) D.length c) ∧ w'.cell? ⟨g, o + q * 2, none⟩ = some (.string (strL mn)) ∧ w'.cell? ⟨g, o + q * 2 + 1, none⟩ = some (.slice fa fs.length fc)) (first | exact KS.out _ (Below.refl _ _).drew | exact KS.out _ (below_alloc w4 _).drew | exact KS.out _ (below_alloc w4 _)) (first | fail)
      rename_i hh
      clear hh q0 q1 q2 m0 m1 hwq hwa hrem hqi0 hqi1 KS hz1 f1
      have h5 : Below w4.heap.size w4 (w4.alloc (.cells #[.string (strL mn), .slice fa fs.length fc] 50)).drew := (below_alloc w4 _).drew
      have hx5 : (w4.alloc (.cells #[.string (strL mn), .slice fa fs.length fc] 50)).drew.heap[w4.heap.size]? = some (.cells #[.string (strL mn), .slice fa fs.length fc] 50 (0, 0)) := heap_alloc_new w4 _
      obtain ⟨mb, emb⟩ : ∃ mb, w4.heap.size = mb := ⟨_, rfl⟩
      obtain ⟨w5, hw5⟩ : ∃ w5, (w4.alloc (.cells #[.string (strL mn), .slice fa fs.length fc] 50)).drew = w5 := ⟨_, rfl⟩
      rw [hw5] at h5 hx5
      rw [emb] at hx5
      rw [hw5, emb]
      have KM : Hid (∀ wx, Below w5.heap.size w5 wx → wx.cell? ⟨mb, 0, none⟩ = some (.string (strL mn)) ∧ wx.cell? ⟨mb, 1, none⟩ = some (.slice fa fs.length fc)) := Lib.hid (fun wx hb => by
        have := (hb.block mb (Array.getElem?_eq_some_iff.1 hx5).1).trans hx5
        exact ⟨by simp [World.cell?, this], by simp [World.cell?, this]⟩)
      have HB05 := Lib.hid (HAL.out.trans ((HB4.out.trans (h5.mono HB4.out.size)).mono HAL.out.size))
      have F5 : Hid (FieldsAt S w5 fa fc fs) := Lib.hid (FieldsAt.rest hfs.out (Rest.below h5) (fun _ _ e => e))
      have hfl : fs.length ≤ 9223372036854775807 := Nat.le_trans F5.out.1.1 F5.out.1.2.1
      clear h5 hx5 emb hw5 hfs HFI HFR HFT KD HB4 HB3 HB2 HD0
      obtain ⟨k2, hk2⟩ : ∃ k, idxOf (fun d : FieldD => d.name == s) fs = k := ⟨_, rfl⟩
      obtain ⟨M2, hM2⟩ : ∃ M, max k2 0 = M := ⟨_, rfl⟩
      obtain ⟨bv2, hbv2⟩ : ∃ bv, fs.any (fun d : FieldD => d.name == s) = bv := ⟨_, rfl⟩
      have hnn2 : decide (0 ≤ k2) = bv2 := by
        rw [← hk2, ← hbv2, Bool.eq_iff_iff, decide_eq_true_iff]
        exact idx_nonneg _ fs 0
      have f2 : (if k2 < 0 then 0 else k2) = M2 := by rw [← hM2]; split <;> omega
      have HGF := Lib.hid (field_find mn fa fc fs s S w5 F5.out.1)
      have HGR : ∀ wx, Below w5.heap.size w5 wx → Hid (Calls Try.prog 22 #[.agg #[.string (strL mn), .slice fa fs.length fc], .string (strL s), .int .i64 ((fs.length : Nat) : Int)] wx fun e w' => e = .returned (.int .i64 k2) ∧ Below wx.heap.size wx w') := fun wx hb => Lib.hid (by have := refField_any mn fa fc fs s fs.length (Nat.le_refl _) S wx (F5.out.1.rest (Rest.below hb) (fun _ _ e => e)); rw [List.take_length, hk2] at this; exact this)
      rw [hk2, hM2, hbv2] at HGF
      clear hk2 hM2 hbv2
      obtain ⟨p0, p1⟩ := KM.out w5 (Below.refl _ _)
      go_wp2_with fail
      refine HGF.out.mono ?_
      rintro e w6 ⟨rfl, hb6⟩
      have HB6 := Lib.hid hb6
      clear hb6 p0 p1 HGF hnn
      obtain ⟨p0, p1⟩ := KM.out w6 HB6.out
      go_wp2_with fail
      refine ((HGR _ HB6.out).out).mono ?_
      rintro e w7 ⟨rfl, hb7⟩
      have HB7 := Lib.hid (HB6.out.trans (hb7.mono HB6.out.size))
      have F7 : Hid (FieldsAt S w7 fa fc fs) := Lib.hid (FieldsAt.rest F5.out (Rest.below HB7.out) (fun _ _ e => e))
      clear hb7 p0 p1 HGR HB6
      obtain ⟨p0, p1⟩ := KM.out w7 HB7.out
      go_wp2_with fail
      refine (ranges_any mn fa fc fs S w7 F7.out.1).mono ?_
      rintro e w8 ⟨r1, rfl, _, hm1, hb8⟩
      clear p0 p1 hnn2 f2
      have HB8 := Lib.hid (HB7.out.trans (hb8.mono HB7.out.size))
      have F8 : Hid (FieldsAt S w8 fa fc fs) := Lib.hid (FieldsAt.rest F7.out (Rest.below hb8) (fun _ _ e => e))
      obtain ⟨EE, hEE⟩ : ∃ E, ransE fs = E := ⟨_, rfl⟩
      rw [hEE] at hm1
      have M1 : Hid (∀ wx, Below w8.heap.size w8 wx → MapAt wx r1 EE) := Lib.hid (fun wx hb => hm1.below hb hm1.lt)
      have LK : Hid (∀ t, ∃ pa pb ok, (getE EE t).getD (.agg #[.int .i64 0, .int .i64 0]) = .agg #[.int .i64 pa, .int .i64 pb] ∧ hasE EE t = ok) := Lib.hid (fun t => by rw [← hEE]; exact look_rans fs t)
      have K8 : Hid (∀ wx, Below w8.heap.size w8 wx → wx.cell? ⟨mb, 0, none⟩ = some (.string (strL mn)) ∧ wx.cell? ⟨mb, 1, none⟩ = some (.slice fa fs.length fc)) := Lib.hid (fun wx hb => KM.out wx (HB8.out.trans (hb.mono HB8.out.size)))
      have HB08 := Lib.hid (HB05.out.trans (HB8.out.mono HB05.out.size))
      have hm0 := MapAt.new w8
      have hb9 := below_alloc w8 (.map #[] 0)
      have hmk := run_makeMap_plain (P := Try.prog) w8 53
      obtain ⟨r2, er⟩ : ∃ r, w8.heap.size = r := ⟨_, rfl⟩
      obtain ⟨w9, hw9⟩ : ∃ w9, w8.alloc (.map #[] 0) = w9 := ⟨_, rfl⟩
      rw [hw9] at hm0 hb9 hmk
      rw [er] at hm0 hmk
      have M0 := Lib.hid hm0
      have HB9 := Lib.hid hb9
      have ER := Lib.hid er
      have HEE := Lib.hid hEE
      clear hb8 hm1 hm0 hb9 hw9 er hEE KM HB7 F7 HB8 HB05 F5
      go_wp2_with fail
      clear hmk
      go_loopw [15] (fun x15 wr => ∃ i : Nat, i ≤ fs.length ∧ x15 = .int .i64 ((i : Nat) : Int) ∧ MapAt wr r2 (ransE (fs.take i)) ∧ Below w8.heap.size w8 wr) (fun x15 _ => fs.length - (intOf x15).toNat)
      case atStart => exact ⟨0, Nat.zero_le _, rfl, M0.out, HB9.out⟩
      case round =>
        obtain ⟨i, hi, rfl, hm, hbw⟩ := hrel
        have HM := Lib.hid hm
        have HBW := Lib.hid hbw
        clear hm hbw M0 HB9
        obtain ⟨p0, p1⟩ := K8.out wr HBW.out
        by_cases hlt : i < fs.length
        · obtain ⟨d, hd⟩ : ∃ d, fs[i]? = some d := ⟨_, List.getElem?_eq_getElem hlt⟩
          obtain ⟨fg, fo, rfl, hx⟩ := (F8.out.1.rest (Rest.below HBW.out) (fun _ _ e => e)).at_ hd
          have KX : Hid (∀ wx, Below wr.heap.size wr wx → ∀ j u, d.cells[j]? = some u → wx.cell? ⟨fg, fo + i * 15 + j, none⟩ = some u) := Lib.hid (fun wx hb j u hu => (hb.cell (p := ⟨fg, fo + i * 15 + j, none⟩) (World.block_lt_of_cell? _ _ (hx j u hu))).trans (hx j u hu))
          have x0 : wr.cell? ⟨fg, fo + i * 15, none⟩ = some (.string (strL d.name)) := hx 0 _ rfl
          have x1 : wr.cell? ⟨fg, fo + i * 15 + 1, none⟩ = some (.int .i64 d.kind) := hx 1 _ rfl
          have x2 : wr.cell? ⟨fg, fo + i * 15 + 2, none⟩ = some (.int .i64 d.bits) := hx 2 _ rfl
          have x3 : wr.cell? ⟨fg, fo + i * 15 + 3, none⟩ = some (.bool d.little) := hx 3 _ rfl
          have x4 : wr.cell? ⟨fg, fo + i * 15 + 4, none⟩ = some (.bool d.loose) := hx 4 _ rfl
          have x5 : wr.cell? ⟨fg, fo + i * 15 + 5, none⟩ = some (.int .i64 d.low) := hx 5 _ rfl
          have x6 : wr.cell? ⟨fg, fo + i * 15 + 6, none⟩ = some (.int .i64 d.high) := hx 6 _ rfl
          have x7 : wr.cell? ⟨fg, fo + i * 15 + 7, none⟩ = some (.int .i64 d.base) := hx 7 _ rfl
          have x8 : wr.cell? ⟨fg, fo + i * 15 + 8, none⟩ = some (.slice d.ta d.terms.length d.tc) := hx 8 _ rfl
          have x9 : wr.cell? ⟨fg, fo + i * 15 + 9, none⟩ = some (.string (strL d.of_)) := hx 9 _ rfl
          have x10 : wr.cell? ⟨fg, fo + i * 15 + 10, none⟩ = some (.string (strL d.tag)) := hx 10 _ rfl
          have x11 : wr.cell? ⟨fg, fo + i * 15 + 11, none⟩ = some (.string (strL d.from_)) := hx 11 _ rfl
          have x12 : wr.cell? ⟨fg, fo + i * 15 + 12, none⟩ = some (.slice d.ca d.cases.length d.cc) := hx 12 _ rfl
          have x13 : wr.cell? ⟨fg, fo + i * 15 + 13, none⟩ = some (.int .i64 d.check) := hx 13 _ rfl
          have x14 : wr.cell? ⟨fg, fo + i * 15 + 14, none⟩ = some (.int .i64 d.key) := hx 14 _ rfl
          have HDT := Lib.hid (drop_of hd).2
          have HNU := Lib.hid (refNumber_any d wr)
          obtain ⟨nb, hnb⟩ : ∃ nb, numB d = nb := ⟨_, rfl⟩
          rw [hnb] at HNU
          unfold FieldD.agg at HNU
          have NB := Lib.hid hnb
          clear hd hx hnb
          go_wp2_with fail
          refine HNU.out.mono ?_
          rintro e w10 ⟨rfl, hb10⟩
          have HB10 := Lib.hid hb10
          have HBW2 := Lib.hid (HBW.out.trans (hb10.mono HBW.out.size))
          clear hb10 x0 x1 x2 x3 x4 x5 x6 x7 x8 x9 x10 x11 x12 x13 x14 p0 p1
          cases nb with
          | false =>
            have hst : ransE (fs.take (i + 1)) = ransE (fs.take i) := by rw [HDT.out, ransE_snoc]; unfold ranStep; rw [NB.out]; rfl
            have HST := Lib.hid hst
            clear hst
            go_wp2_with fail
            go_roundw
            case rel => exact ⟨i + 1, by omega, by go_num, by rw [HST.out]; exact HM.out.below HB10.out HM.out.lt, HBW2.out⟩
            case measure => simp [intOf]; omega
          | true =>
            have hx := KX.out w10 HB10.out
            have x0 : w10.cell? ⟨fg, fo + i * 15, none⟩ = some (.string (strL d.name)) := hx 0 _ rfl
            have x1 : w10.cell? ⟨fg, fo + i * 15 + 1, none⟩ = some (.int .i64 d.kind) := hx 1 _ rfl
            have x2 : w10.cell? ⟨fg, fo + i * 15 + 2, none⟩ = some (.int .i64 d.bits) := hx 2 _ rfl
            have x3 : w10.cell? ⟨fg, fo + i * 15 + 3, none⟩ = some (.bool d.little) := hx 3 _ rfl
            have x4 : w10.cell? ⟨fg, fo + i * 15 + 4, none⟩ = some (.bool d.loose) := hx 4 _ rfl
            have x5 : w10.cell? ⟨fg, fo + i * 15 + 5, none⟩ = some (.int .i64 d.low) := hx 5 _ rfl
            have x6 : w10.cell? ⟨fg, fo + i * 15 + 6, none⟩ = some (.int .i64 d.high) := hx 6 _ rfl
            have x7 : w10.cell? ⟨fg, fo + i * 15 + 7, none⟩ = some (.int .i64 d.base) := hx 7 _ rfl
            have x8 : w10.cell? ⟨fg, fo + i * 15 + 8, none⟩ = some (.slice d.ta d.terms.length d.tc) := hx 8 _ rfl
            have x9 : w10.cell? ⟨fg, fo + i * 15 + 9, none⟩ = some (.string (strL d.of_)) := hx 9 _ rfl
            have x10 : w10.cell? ⟨fg, fo + i * 15 + 10, none⟩ = some (.string (strL d.tag)) := hx 10 _ rfl
            have x11 : w10.cell? ⟨fg, fo + i * 15 + 11, none⟩ = some (.string (strL d.from_)) := hx 11 _ rfl
            have x12 : w10.cell? ⟨fg, fo + i * 15 + 12, none⟩ = some (.slice d.ca d.cases.length d.cc) := hx 12 _ rfl
            have x13 : w10.cell? ⟨fg, fo + i * 15 + 13, none⟩ = some (.int .i64 d.check) := hx 13 _ rfl
            have x14 : w10.cell? ⟨fg, fo + i * 15 + 14, none⟩ = some (.int .i64 d.key) := hx 14 _ rfl
            clear hx
            obtain ⟨p0, p1⟩ := K8.out w10 HBW2.out
            obtain ⟨lo, hlo⟩ : ∃ lo, (ranP d).1 = lo := ⟨_, rfl⟩
            obtain ⟨hg, hhg⟩ : ∃ hg, (ranP d).2 = hg := ⟨_, rfl⟩
            have HRR := Lib.hid (refRange_any d w10)
            rw [hlo, hhg] at HRR
            unfold FieldD.agg at HRR
            have hst : ransE (fs.take (i + 1)) = setE (ransE (fs.take i)) d.name (.agg #[.int .i64 lo, .int .i64 hg]) := by
              rw [HDT.out, ransE_snoc]
              unfold ranStep ranV
              rw [← hlo, ← hhg, NB.out]
              rfl
            have HST := Lib.hid hst
            clear hst hlo hhg
            go_wp2_with fail
            refine HRR.out.mono ?_
            rintro e w11 ⟨rfl, hb11⟩
            have HB11 := Lib.hid (HB10.out.trans (hb11.mono HB10.out.size))
            have HBW3 := Lib.hid (HBW2.out.trans (hb11.mono HBW2.out.size))
            clear hb11 x0 x1 x2 x3 x4 x5 x6 x7 x8 x9 x10 x11 x12 x13 x14 p0 p1 HRR
            obtain ⟨p0, p1⟩ := K8.out w11 HBW3.out
            have x0 : w11.cell? ⟨fg, fo + i * 15, none⟩ = some (.string (strL d.name)) := KX.out w11 HB11.out 0 _ rfl
            obtain ⟨w12, hrun, hm12, hr12⟩ := run_store (P := Try.prog) Try.underlying53 Try.ustr (HM.out.below HB11.out HM.out.lt) d.name (.agg #[.int .i64 lo, .int .i64 hg])
            have M12 := Lib.hid hm12
            have B12 := Lib.hid (HBW3.out.trans (hr12.toBelow w8.heap.size HBW3.out.size (fun k hk e => by have := ER.out; omega)))
            clear hm12 hr12
            go_wp2_with fail
            go_roundw
            case rel => exact ⟨i + 1, by omega, by go_num, by rw [HST.out]; exact M12.out, B12.out⟩
            case measure => simp [intOf]; omega
        · obtain rfl : i = fs.length := by omega
          have hm := HM.out
          rw [List.take_length, HEE.out] at hm
          have HM2 := Lib.hid hm
          clear hm HM HEE
          obtain ⟨wo, hwo⟩ : ∃ wo : World, wo = wr := ⟨_, rfl⟩
          rw [← hwo] at HM2 HBW p0 p1 ⊢
          clear hwo
          go_wp2_with fail
          clear p0 p1
          go_loopw [18] (fun x18 wx => ∃ i : Nat, i ≤ fs.length ∧ x18 = .int .i64 ((i : Nat) : Int) ∧ MapAt wx r2 EE ∧ Below w8.heap.size w8 wx) (fun x18 _ => fs.length - (intOf x18).toNat)
          case atStart => exact ⟨0, Nat.zero_le _, rfl, HM2.out, HBW.out⟩
          case round =>
            obtain ⟨i, hi, rfl, hm, hbw⟩ := hrel
            have HN := Lib.hid hm
            have HBX := Lib.hid hbw
            clear hm hbw HM2 HBW
            obtain ⟨p0, p1⟩ := K8.out wr HBX.out
            by_cases hlt : i < fs.length
            · obtain ⟨d, hd⟩ : ∃ d, fs[i]? = some d := ⟨_, List.getElem?_eq_getElem hlt⟩
              obtain ⟨fg, fo, rfl, hx⟩ := (F8.out.1.rest (Rest.below HBX.out) (fun _ _ e => e)).at_ hd
              have x0 : wr.cell? ⟨fg, fo + i * 15, none⟩ = some (.string (strL d.name)) := hx 0 _ rfl
              obtain ⟨pa, pb, ok, hL, hO⟩ := LK.out d.name
              have hrun := run_look_ok (P := Try.prog) Try.underlying53 Try.ustr (Try.zeroRan wr) (M1.out wr HBX.out) d.name
              rw [hL, hO] at hrun
              have hal12 := below_alloc wr (.cells #[.int .i64 pa, .int .i64 pb] 31)
              have hp12 := PBox.new wr pa pb
              obtain ⟨b1, eb1⟩ : ∃ b1, wr.heap.size = b1 := ⟨_, rfl⟩
              obtain ⟨w12, hw12⟩ : ∃ w12, wr.alloc (.cells #[.int .i64 pa, .int .i64 pb] 31) = w12 := ⟨_, rfl⟩
              rw [hw12] at hal12 hp12
              rw [eb1] at hp12
              have hrun2 := run_look_ok (P := Try.prog) Try.underlying53 Try.ustr (Try.zeroRan w12) (HN.out.below hal12 HN.out.lt) d.name
              rw [hL, hO] at hrun2
              have hal13 := below_alloc w12 (.cells #[.int .i64 pa, .int .i64 pb] 31)
              have hp13 := PBox.new w12 pa pb
              obtain ⟨b2, eb2⟩ : ∃ b2, w12.heap.size = b2 := ⟨_, rfl⟩
              obtain ⟨w13, hw13⟩ : ∃ w13, w12.alloc (.cells #[.int .i64 pa, .int .i64 pb] 31) = w13 := ⟨_, rfl⟩
              rw [hw13] at hal13 hp13
              rw [eb2] at hp13
              have hp12' := hp12.below hal13 hp12.lt
              have P12 := Lib.hid hp12'
              have P13 := Lib.hid hp13
              have W12 := Lib.hid hw12
              have W13 := Lib.hid hw13
              have EB1 := Lib.hid eb1
              have EB2 := Lib.hid eb2
              have M13 := Lib.hid ((HN.out.below hal12 HN.out.lt).below hal13 (Nat.lt_of_lt_of_le HN.out.lt hal12.size))
              have B13 := Lib.hid (HBX.out.trans ((hal12.trans (hal13.mono hal12.size)).mono HBX.out.size))
              have R2 := Lib.hid hrun2
              clear hd hx hL hO hal12 hp12 eb1 hw12 hrun2 hal13 hp13 eb2 hw13 hp12'
              go_upto_region 27 with fail
              rw [W12.out, EB1.out]
              clear hrun x0 p0 p1
              have hrun2 := R2.out
              go_upto_region 28 with fail
              rw [W13.out, EB2.out]
              clear hrun2
              have z0 := P12.out.c0
              have z1 := P12.out.c1
              have z2 := P13.out.c0
              have z3 := P13.out.c1
              go_wp2_with fail
              go_roundw
              case rel => exact ⟨i + 1, by omega, by go_num, M13.out, B13.out⟩
              case measure => simp [intOf]; omega
            · obtain rfl : i = fs.length := by omega
              have hlen1 := run_lenE (P := Try.prog) (ty := 3) Try.underlying53 (M1.out wr HBX.out)
              have hlen2 := run_lenE (P := Try.prog) (ty := 3) Try.underlying53 HN.out
              generalize ((EE.length : Nat) : Int) = N at hlen1 hlen2
              go_wp2_with fail
              refine ((HKN _).out).mono ?_
              rintro e w14 ⟨rfl, hb14⟩
              have HB14 := Lib.hid (HB08.out.trans ((HBX.out.trans (hb14.mono HBX.out.size)).mono HB08.out.size))
              clear hb14 p0 p1 hlen1 hlen2
              go_wp2_with fail
              go_ret
              exact ⟨rfl, HB14.out⟩
end Go.Proofs.Yteibnmnpebfefaa
