/- The walk of BitsJoins. -/
import Derived.Test.YtboiiohpkoodpaaJn
import Derived.StillTailTactics
import Derived.Deep.RegionHeld3
import Derived.Deep.CutRange
namespace Go.Proofs.Ytboiiohpkoodpaa
open Go.RowKit Go.Shelf

set_option maxRecDepth 100000 in
set_option maxHeartbeats 4000000 in
theorem joins_good (x y m n a : Nat) (w : World) (hm1 : 1 ≤ m) (hn1 : 1 ≤ n) (hm : m ≤ 31) (hn : n ≤ 31) (hmn : m + n ≤ 32) (hx : x < 2 ^ m) (hy : y < 2 ^ n) (ha1 : 1 ≤ a) (ha : a ≤ 31) :
    Calls Try.prog 7 #[.int .i64 x, .int .i64 y, .int .i64 m, .int .i64 n, .int .i64 a] w fun e w' => e = .returned (.bool true) ∧ Below w.heap.size w w' := by
  have hpm : 2 ^ m ≤ 2 ^ 31 := Nat.pow_le_pow_right (by omega) hm
  have hpn : 2 ^ n ≤ 2 ^ 31 := Nat.pow_le_pow_right (by omega) hn
  have hxn : x * 2 ^ n + y < 2 ^ (m + n) := by
    rw [Nat.pow_add]
    have h1 : (x + 1) * 2 ^ n ≤ 2 ^ m * 2 ^ n := Nat.mul_le_mul_right _ hx
    rw [Nat.add_mul] at h1
    omega
  have hpmn : 2 ^ (m + n) ≤ 2 ^ 32 := Nat.pow_le_pow_right (by omega) hmn
  have hM : IntKind.i64.wrap ((2 : Int) ^ m) = ((2 ^ m : Nat) : Int) := by
    have e : ((2 : Int) ^ m) = ((2 ^ m : Nat) : Int) := by simp
    rw [e]; exact IntWalk.i64_in _ (by omega)
  have hN : IntKind.i64.wrap ((2 : Int) ^ n) = ((2 ^ n : Nat) : Int) := by
    have e : ((2 : Int) ^ n) = ((2 ^ n : Nat) : Int) := by simp
    rw [e]; exact IntWalk.i64_in _ (by omega)
  have hX : IntKind.i64.wrap ((x : Int) * 2 ^ n) = ((x * 2 ^ n : Nat) : Int) := by
    have e : ((x : Int) * 2 ^ n) = ((x * 2 ^ n : Nat) : Int) := by simp
    rw [e]; exact IntWalk.i64_in _ (by omega)
  have HXN := Lib.hid hxn
  have HXX := Lib.hid hx
  have HYY := Lib.hid hy
  have hda := digs_append x y m n hy
  obtain ⟨Z, hZ⟩ : ∃ Z, x * 2 ^ n = Z := ⟨_, rfl⟩
  obtain ⟨P, hP⟩ : ∃ P, 2 ^ m = P := ⟨_, rfl⟩
  obtain ⟨R, hR⟩ : ∃ R, 2 ^ n = R := ⟨_, rfl⟩
  rw [hZ] at hX hda hxn
  rw [hP] at hM hx hpm
  rw [hR] at hN hy hpn
  have hZy : Z + y ≤ 4294967296 := by omega
  have HDA := Lib.hid hda
  have HZ := Lib.hid hZ
  clear hxn hpmn hda hZ hP hR
  go_enter Try.func7, Try.ntmps7
  go_upto_if 70 with fail
  go_cut [] from 23 (fun wx => wx = w)
  case first =>
    go_wp2_with fail
    go_meet
    case rel => rfl
  case rest =>
  rw [hcut]
  clear hcut
  have HZL := Lib.hid (show Z + y < 2 ^ (m + n) by rw [← HZ.out]; exact HXN.out)
  clear hM hN hx hy hpm hpn
  obtain ⟨l, hl⟩ : ∃ l, [] ++ digs 0 a ++ digs x m ++ digs y n = l := ⟨_, rfl⟩
  have hl2 : [] ++ digs 0 a ++ digs (Z + y) (m + n) = l := by rw [HDA.out, ← hl]; simp
  have hll : l.length = a + m + n := by rw [← hl]; simp [digs_length]; omega
  obtain ⟨NB, hNB⟩ : ∃ NB, (packs l).length = NB := ⟨_, rfl⟩
  obtain ⟨SB, hSB⟩ : ∃ SB, strOf (packs l) = SB := ⟨_, rfl⟩
  have HL1 := Lib.hid hl
  have HL2 := Lib.hid hl2
  have HLEN := Lib.hid hll
  have HLL := Lib.hid (show l.length ≤ 8388608 by omega)
  have HLN := Lib.hid (show l ≠ [] by intro e; rw [e] at hll; simp at hll; omega)
  have HNB := Lib.hid hNB
  have HSB := Lib.hid hSB
  clear hl hl2 hll hNB hSB
  go_wp2_with fail
  refine (two_new _).mono ?_
  rintro e w1 ⟨rfl, hw1, hb1⟩
  have HW1 := Lib.hid hw1
  have HB1 := Lib.hid hb1
  clear hw1 hb1
  go_wp2_with fail
  refine (two_new _).mono ?_
  rintro e w2 ⟨rfl, hw2, hb2⟩
  have T := Lib.hid (two_start HW1.out HB1.out hw2 hb2)
  clear hw2 hb2
  obtain ⟨b1, e1⟩ : ∃ b1, w.heap.size = b1 := ⟨_, rfl⟩
  obtain ⟨b2, e2⟩ : ∃ b2, w1.heap.size = b2 := ⟨_, rfl⟩
  simp only [e1, e2] at T ⊢
  have T0 := Lib.hid T.out.drew
  clear e1 e2 T
  have hw1 : IntKind.i64.wrap ((Z : Int) + (y : Int)) = (Z : Int) + (y : Int) := IntWalk.i64_in _ (by omega)
  have hw2 : IntKind.i64.wrap ((m : Int) + (n : Int)) = (m : Int) + (n : Int) := IntWalk.i64_in _ (by omega)
  go_upto_region 4 with fail
  go_cut [126] from 23 (fun s126 wx => s126 = .bool false ∧ ∃ v1 v2, Two w wx b1 v1 l b2 v2 l)
  case first =>
    as_aux_lemma =>
      go_region_held (fun w' => w.heap.size ≤ w'.heap.size) (first | exact T0.out.below.size | exact T1.out.below.size | exact T2.out.below.size | exact T3.out.below.size | exact T4.out.below.size | exact T5.out.below.size | exact T6.out.below.size | exact T7.out.below.size | assumption) (first | (go_at_call 16; with_reducible refine (Two.len T7.out.swap).mono ?_; rintro e w10 ⟨rfl, rfl⟩) | (go_at_call 16; with_reducible refine (Two.len T7.out).mono ?_; rintro e w10 ⟨rfl, rfl⟩) | (go_at_call 15; with_reducible refine (Two.outS T6.out HLL.out HLN.out NB HNB.out SB HSB.out).mono ?_; rintro e w9 ⟨g2, c2, rfl, h1, h2, h3, hcv2⟩; have T7 := Lib.hid h1.out.swap; have hcv3 := src_conv SR1.out h3.out (packs_lt _) HSB.out; clear h1 h2 h3 T6) | (go_at_call 15; with_reducible refine (Two.outS T5.out HLL.out HLN.out NB HNB.out SB HSB.out).mono ?_; rintro e w8 ⟨g1, c1, rfl, h1, h2, h3, hcv1⟩; have T6 := Lib.hid h1.out.swap; have SR1 := h2; clear h1 h3 T5) | (go_at_call 18; with_reducible refine (Two.putI T4.out (Z + y) (m + n) ((Z : Int) + y) ((m : Int) + n) (by simp) (by simp) (by omega) (by omega) HZL.out (by simp [digs_length]; omega)).mono ?_; rintro e w7 ⟨rfl, v2'', h⟩; rw [HL2.out] at h; have T5 := Lib.hid h.swap; clear h T4) | (go_at_call 18; with_reducible refine (Two.putI T3.out 0 a 0 a rfl rfl ha1 (by omega) (Nat.pow_pos (by decide)) (by simp; omega)).mono ?_; rintro e w6 ⟨rfl, v2', h⟩; have T4 := Lib.hid h; clear h T3) | (go_at_call 18; with_reducible refine (Two.putI T2.out y n y n rfl rfl hn1 (by omega) HYY.out (by simp [digs_length]; omega)).mono ?_; rintro e w5 ⟨rfl, v1''', h⟩; rw [HL1.out] at h; have T3 := Lib.hid h.swap; clear h T2) | (go_at_call 18; with_reducible refine (Two.putI T1.out x m x m rfl rfl hm1 (by omega) HXX.out (by simp [digs_length]; omega)).mono ?_; rintro e w4 ⟨rfl, v1'', h⟩; have T2 := Lib.hid h; clear h T1) | (go_at_call 18; with_reducible refine (Two.putI T0.out 0 a 0 a rfl rfl ha1 (by omega) (Nat.pow_pos (by decide)) (by simp; omega)).mono ?_; rintro e w3 ⟨rfl, v1', h⟩; have T1 := Lib.hid h; clear h T0))
      all_goals
        go_wp2
        go_meet
        case rel => exact ⟨rfl, _, _, T7.out⟩
  case rest =>
    as_aux_lemma =>
      obtain ⟨rfl, v1, v2, hT⟩ := hcut
      have T := Lib.hid hT
      have hBl : (packs l).length ≤ 1048576 := by rw [packs_length]; have := HLEN.out; omega
      have hup : unpack (packs l) = l ++ List.replicate (8 * ((l.length + 7) / 8) - l.length) false := unpack_packs l
      have hval1 : val (((unpack (packs l)).drop a).take m) = x := by rw [hup, ← HL1.out]; exact join_one a m n x y _ HXX.out
      have hval2 : val (((unpack (packs l)).drop (a + m)).take n) = y := by rw [hup, ← HL1.out]; exact join_two a m n x y _ HYY.out
      have hroom : a + m + n ≤ 8 * (packs l).length := by rw [packs_length]; have := HLEN.out; omega
      have HV1 := Lib.hid hval1
      have HV2 := Lib.hid hval2
      have HX31 := Lib.hid (show x < 2 ^ 31 from Nat.lt_of_lt_of_le HXX.out (Nat.pow_le_pow_right (by decide) hm))
      clear hT hup hval1 hval2
      go_wp2_with fail
      refine (Two.out T.out.swap HLL.out HLN.out).mono ?_
      rintro e w3 ⟨g, c, rfl, hr, h2⟩
      have SRC := Lib.hid (SrcAt.of_row hr)
      have B3 := Lib.hid h2.below
      clear hr h2 T
      go_wp2_with fail
      refine (newReader_ok _ (packs l) _ SRC.out hBl).mono ?_
      rintro e w4 ⟨rb, rv, rfl, hR, hb4, hrb, hrv⟩
      have B4 := Lib.hid (B3.out.trans (hb4.mono B3.out.size))
      have hrbw : w.heap.size ≤ rb := Nat.le_trans B3.out.size hrb
      have RB := Lib.hid hrbw
      have R4 := Lib.hid hR
      clear hR hb4 hrb hrv hrbw
      go_wp2_with fail
      refine (skip_ok rb rv (packs l) 0 a _ R4.out hBl (by omega)).mono ?_
      rintro e w5 ⟨rfl, hl5⟩
      rw [Nat.zero_add] at hl5
      have R5 := Lib.hid hl5.1
      have B5 := Lib.hid (B4.out.trans (hl5.2.toBelow w.heap.size B4.out.size (fun i hi e => by have := RB.out; omega)))
      clear hl5 R4
      have G1 := get_ok rb rv (packs l) a m w5 R5.out (packs_lt l) hBl hm1 (by omega) (by omega)
      rw [HV1.out] at G1
      have G1 := Lib.hid G1
      go_wp2_with fail
      refine G1.out.mono ?_
      rintro e w6 ⟨rfl, hl6⟩
      have R6 := Lib.hid hl6.1
      have B6 := Lib.hid (B5.out.trans (hl6.2.toBelow w.heap.size B5.out.size (fun i hi e => by have := RB.out; omega)))
      clear hl6 R5 G1
      have G2 := get_ok rb rv (packs l) (a + m) n w6 R6.out (packs_lt l) hBl hn1 (by omega) hroom
      rw [HV2.out] at G2
      have G2 := Lib.hid G2
      go_wp2_with fail
      refine G2.out.mono ?_
      rintro e w7 ⟨rfl, hl7⟩
      have B7 := Lib.hid (B6.out.trans (hl7.2.toBelow w.heap.size B6.out.size (fun i hi e => by have := RB.out; omega)))
      clear hl7 R6 G2
      go_wp2_with fail
      refine (two_new _).mono ?_
      rintro e w8 ⟨rfl, hw8, hb8⟩
      have HW8 := Lib.hid hw8
      have HB8 := Lib.hid hb8
      clear hw8 hb8
      go_wp2_with fail
      refine (two_new _).mono ?_
      rintro e w9 ⟨rfl, hw9, hb9⟩
      have T9 := Lib.hid (two_start HW8.out HB8.out hw9 hb9)
      clear hw9 hb9
      go_wp2_with fail
      refine (little_ok _ _ [] x 4 _ T9.out.one (by simp) (little_four x HX31.out) (by decide) (by decide) (by have := HX31.out; omega) (by simp) (by simp)).mono ?_
      rintro e w10 ⟨rfl, v3, hw10, hs10⟩
      have T10 := Lib.hid (T9.out.step hw10 hs10).swap
      clear hw10 hs10 T9
      go_wp2_with fail
      refine (Two.putI T10.out x 32 x 32 rfl rfl (by decide) (by decide) (by have := HX31.out; omega) (by simp)).mono ?_
      rintro e w11 ⟨rfl, v4, h11⟩
      have T11 := Lib.hid h11.swap
      clear h11 T10
      go_wp2_with fail
      have l3 : ([] ++ unpack (leBytes x 4) : List Bool).length = 32 := by rw [List.nil_append, unpack_length, leBytes_length]
      have n3 : ([] ++ unpack (leBytes x 4) : List Bool) ≠ [] := fun e => by rw [e] at l3; simp at l3
      have l4 : ([] ++ digs x 32 : List Bool).length = 32 := by rw [List.nil_append, digs_length]
      have n4 : ([] ++ digs x 32 : List Bool) ≠ [] := fun e => by rw [e] at l4; simp at l4
      have L4 := Lib.hid l4
      have N4 := Lib.hid n4
      refine (Two.out T11.out (by rw [l3]; decide) n3).mono ?_
      clear l3 n3 l4 n4
      rintro e w12 ⟨g3, c3, rfl, hr3, h12⟩
      rw [le_small, le_list] at hr3 ⊢
      have ROW3 := Lib.hid hr3
      have T12 := Lib.hid h12
      clear hr3 h12 T11
      go_wp2_with fail
      refine (out_any _ v4 _ _ T12.out.two (by rw [L4.out]; decide)).mono ?_
      rintro e w13 ⟨s4, rfl, hr4, hb13, hf4⟩
      rw [be_bytes x (by have := HX31.out; omega)] at hr4 hf4
      obtain ⟨g4, c4, rfl⟩ : ∃ g4 c4, s4 = .slice (some ⟨g4, 0, none⟩) 4 c4 := by
        rcases hf4 with rfl | ⟨g4, c4, rfl⟩
        · have := hr4.2
          rcases this with ⟨_, h0⟩ | ⟨_, _, _, h0, _⟩
          · simp at h0
          · cases h0
        · exact ⟨g4, c4, rfl⟩
      have hr3 : w13.ownsRow w7.heap.size 5 1 (.slice (some ⟨g3, 0, none⟩) 4 c3) 4 (u8s [x % 256, x / 2 ^ 8 % 256, x / 2 ^ 16 % 256, x / 2 ^ 24 % 256]) := Rest.row (S := fun _ => False) (Rest.below hb13) ROW3.out (fun _ _ e => e)
      obtain ⟨y0, hy0⟩ : ∃ y0, x % 256 = y0 := ⟨_, rfl⟩
      obtain ⟨y1, hy1⟩ : ∃ y1, x / 2 ^ 8 % 256 = y1 := ⟨_, rfl⟩
      obtain ⟨y2, hy2⟩ : ∃ y2, x / 2 ^ 16 % 256 = y2 := ⟨_, rfl⟩
      obtain ⟨y3, hy3⟩ : ∃ y3, x / 2 ^ 24 % 256 = y3 := ⟨_, rfl⟩
      rw [hy0, hy1, hy2, hy3] at hr3 hr4
      have p0 : w13.cell? ⟨g3, 0, none⟩ = some (.int .u8 y0) := by have := hr3.cellAt 0 (by decide); simpa [u8s] using this
      have p1 : w13.cell? ⟨g3, 1, none⟩ = some (.int .u8 y1) := by have := hr3.cellAt 1 (by decide); simpa [u8s] using this
      have p2 : w13.cell? ⟨g3, 2, none⟩ = some (.int .u8 y2) := by have := hr3.cellAt 2 (by decide); simpa [u8s] using this
      have p3 : w13.cell? ⟨g3, 3, none⟩ = some (.int .u8 y3) := by have := hr3.cellAt 3 (by decide); simpa [u8s] using this
      have q0 : w13.cell? ⟨g4, 0, none⟩ = some (.int .u8 y3) := by have := hr4.cellAt 0 (by decide); simpa [u8s] using this
      have q1 : w13.cell? ⟨g4, 1, none⟩ = some (.int .u8 y2) := by have := hr4.cellAt 1 (by decide); simpa [u8s] using this
      have q2 : w13.cell? ⟨g4, 2, none⟩ = some (.int .u8 y1) := by have := hr4.cellAt 2 (by decide); simpa [u8s] using this
      have q3 : w13.cell? ⟨g4, 3, none⟩ = some (.int .u8 y0) := by have := hr4.cellAt 3 (by decide); simpa [u8s] using this
      have B13 := Lib.hid (B7.out.trans ((T12.out.below.trans (hb13.mono T12.out.below.size)).mono B7.out.size))
      clear hr3 hr4 hb13 hf4 hy0 hy1 hy2 hy3 T12 ROW3
      go_wp2_with fail
      go_still_tail 45, (by kernel_rfl)
      change wpList _ _ _ _ _ w13.drew
      go_wp2_with fail
      refine (known_any _).mono ?_
      rintro e w14 ⟨rfl, hb14⟩
      have HB14 := Lib.hid hb14
      clear hb14
      go_wp2
      go_ret
      exact ⟨rfl, B13.out.drew.trans (HB14.out.mono B13.out.size)⟩
end Go.Proofs.Ytboiiohpkoodpaa
