/- The document's Interval of a size whose fields have allowed ranges. Conditions: the terms and the ranges lie in memory. -/
import Derived.Test.YtbpkppmbbpoohaaGreatOz
import Derived.Test.YtbpkppmbbpoohaaGreatHb
namespace Go.Proofs.YtbpkppmbbpoohaaGreat
open Go.RowKit Go.Shelf

structure RanD where
  name : List UInt8
  lo : Int
  hi : Int
def RanD.cells (d : RanD) : List Value := [.string (strL d.name), .int .i64 d.lo, .int .i64 d.hi]

set_option maxRecDepth 100000 in
set_option maxHeartbeats 1600000 in
theorem refFindRange (A : Option Addr) (c : Nat) (L : List RanD) (s : List UInt8) (S : Nat → Prop) (w : World) (h : SlAt RanD.cells 3 S w A c L) (i : Nat) (r : RanD) (hi : L[i]? = some r) (hn : r.name = s) (hlast : ∀ (j : Nat) x, L[j]? = some x → i < j → x.name ≠ s) :
    Calls Tryz.prog 163 #[.slice A L.length c, .string (strL s)] w fun e w' => e = .returned (.int .i64 ((i : Nat) : Int)) ∧ w' = w := by
  have hl : L.length ≤ 9223372036854775807 := Nat.le_trans h.1 h.2.1
  have hil : i < L.length := (List.getElem?_eq_some_iff.1 hi).1
  have H := Lib.hid h
  have HI := Lib.hid hi
  have HN := Lib.hid hn
  have HL := Lib.hid hlast
  clear h hi hn hlast
  go_enter Tryz.func163, Tryz.ntmps163
  go_wp2_with fail
  go_loop [5, 6] (fun x5 x6 => ∃ (j : Nat) (v : Int), j ≤ L.length ∧ x6 = .int .i64 ((j : Nat) : Int) ∧ x5 = .int .i64 v ∧ (i < j → v = ((i : Nat) : Int))) (fun _ x6 => L.length - (intOf x6).toNat)
  case atStart => exact ⟨0, -1, Nat.zero_le _, rfl, rfl, fun h => absurd h (by omega)⟩
  case round =>
    obtain ⟨j, v, hj, rfl, rfl, hv⟩ := hrel
    have HV := Lib.hid hv
    clear hv
    by_cases hlt : j < L.length
    · obtain ⟨x, hx⟩ : ∃ x, L[j]? = some x := ⟨_, List.getElem?_eq_getElem hlt⟩
      obtain ⟨g, o, rfl, hc⟩ := H.out.at_ hx
      have x0 : w.cell? ⟨g, o + j * 3, none⟩ = some (.string (strL x.name)) := hc 0 _ rfl
      have HX := Lib.hid hx
      clear hx hc
      by_cases he : x.name = s
      · have HJ := Lib.hid (show i < j + 1 → ((j : Nat) : Int) = ((i : Nat) : Int) from fun h => by
          by_cases hij : i < j
          · exact absurd he (HL.out j x HX.out hij)
          · omega)
        rw [he] at x0
        clear he
        go_wp2_with fail
        go_round
        case rel => exact ⟨j + 1, ((j : Nat) : Int), by omega, by go_num, rfl, HJ.out⟩
        case measure => simp [intOf]; omega
      · have HJ := Lib.hid (show i < j + 1 → v = ((i : Nat) : Int) from fun h => by
          by_cases hij : i < j
          · exact HV.out hij
          · exfalso
            obtain rfl : i = j := by omega
            have h1 := HX.out
            rw [HI.out] at h1
            cases h1
            exact he HN.out)
        have e1 := text_ne he
        clear he
        go_wp2_with fail
        go_round
        case rel => exact ⟨j + 1, v, by omega, by go_num, rfl, HJ.out⟩
        case measure => simp [intOf]; omega
    · have hv := HV.out (by omega)
      subst hv
      go_wp2_with fail
      go_ret
      exact ⟨rfl, rfl⟩

/-- The ranges of the terms' fields. -/
def toRan (E : PEnts) (t : TermD) : RanD := ⟨t.f, loE E t, hiE E t⟩
theorem okFrom_once : ∀ (D pre : List TermD), okFrom pre D = true → ∀ (i : Nat) (d : TermD), D[i]? = some d → ∀ x ∈ pre ++ D.take i, x.f ≠ d.f
  | [], _, _, i, d, h, _, _ => by simp at h
  | t :: D, pre, h, i, d, hd, x, hx => by
    simp only [okFrom, Bool.and_eq_true] at h
    match i, hd, hx with
    | 0, hd, hx =>
      simp only [List.getElem?_cons_zero, Option.some.injEq] at hd
      subst hd
      simp only [List.take_zero, List.append_nil] at hx
      have h1 := h.1
      unfold okT at h1
      simp only [Bool.and_eq_true, decide_eq_true_eq] at h1
      intro e
      have := (idx_nonneg (fun y : TermD => y.f == t.f) pre 0).2 (List.any_eq_true.2 ⟨x, hx, by simp [e]⟩)
      have h2 := h1.2.2.2
      unfold idxOf at h2
      omega
    | i + 1, hd, hx =>
      simp only [List.getElem?_cons_succ] at hd
      refine okFrom_once D (pre ++ [t]) h.2 i d hd x ?_
      simpa using hx
theorem valid_once {base : Int} {D : List TermD} (h : validS base D = true) {i j : Nat} {a b : TermD} (hi : D[i]? = some a) (hj : D[j]? = some b) (hij : i < j) : b.f ≠ a.f := by
  unfold validS at h
  simp only [Bool.and_eq_true] at h
  intro e
  have := okFrom_once D [] h.2 j b hj a (by
    rw [List.nil_append]
    exact List.mem_of_getElem? (show (D.take j)[i]? = some a by rw [List.getElem?_take, if_pos hij]; exact hi))
  exact this e.symm

set_option maxRecDepth 100000 in
set_option maxHeartbeats 12800000 in
theorem refInterval_ok (base : Int) (A : Option Addr) (c : Nat) (D : List TermD) (LA : Option Addr) (lc : Nat) (E : PEnts) (S : Nat → Prop) (w : World) (h : SlAt TermD.cells 2 S w A c D) (hL : SlAt RanD.cells 3 S w LA lc (D.map (toRan E))) (hv : validS base D = true) (hall : ∀ t ∈ D, ∃ p, getP E t.f = some p ∧ allowP p = true) :
    Calls Tryz.prog 149 #[.agg #[.int .i64 base, .slice A D.length c], .slice LA D.length lc] w fun e w' => e = .returned (.tuple #[.int .i64 (ivS E base D).1, .int .i64 (ivS E base D).2, .int .i64 0]) ∧ Below w.heap.size w w' := by
  have hl : D.length ≤ 9223372036854775807 := Nat.le_trans h.1 h.2.1
  obtain ⟨hv1, hv2, hv3⟩ := valid_parts hv
  have b1 := below_alloc w (.cells #[.int .i64 base, .slice A D.length c] 52)
  have x1 := szbox w (.int .i64 base) (.slice A D.length c)
  have h1 := h.below b1
  have hL1 := hL.below b1
  obtain ⟨b, eb⟩ : ∃ b, w.heap.size = b := ⟨_, rfl⟩
  obtain ⟨w1, hw1⟩ : ∃ w1, w.alloc (.cells #[.int .i64 base, .slice A D.length c] 52) = w1 := ⟨_, rfl⟩
  rw [hw1] at b1 x1 h1 hL1
  rw [eb] at x1
  have KB : Hid (∀ wx, Below w1.heap.size w1 wx → wx.cell? ⟨b, 0, none⟩ = some (.int .i64 base) ∧ wx.cell? ⟨b, 1, none⟩ = some (.slice A D.length c)) := Lib.hid (fun wx hb => by
    have := (hb.block b (Array.getElem?_eq_some_iff.1 x1).1).trans x1
    exact ⟨by simp [World.cell?, this], by simp [World.cell?, this]⟩)
  have H1 : Hid (∀ wx, Below w1.heap.size w1 wx → SlAt TermD.cells 2 S wx A c D) := Lib.hid (fun wx hb => h1.rest (Rest.below (S := fun _ => False) hb) (fun _ _ e => e.elim))
  have H2 : Hid (∀ wx, Below w1.heap.size w1 wx → SlAt RanD.cells 3 S wx LA lc (D.map (toRan E))) := Lib.hid (fun wx hb => hL1.rest (Rest.below (S := fun _ => False) hb) (fun _ _ e => e.elim))
  have HFR : Hid (∀ i d wx, D[i]? = some d → Below w1.heap.size w1 wx → Calls Tryz.prog 163 #[.slice LA D.length lc, .string (strL d.f)] wx fun e w' => e = .returned (.int .i64 ((i : Nat) : Int)) ∧ w' = wx) := Lib.hid (fun i d wx hd hb => by
    have h3 := H2.out wx hb
    have := refFindRange LA lc (D.map (toRan E)) d.f S wx h3 i (toRan E d) (by rw [List.getElem?_map, hd]; rfl) rfl (fun j x hx hij => by
      rw [List.getElem?_map] at hx
      cases hj : D[j]? with
      | none => rw [hj] at hx; cases hx
      | some y =>
        rw [hj] at hx
        cases hx
        exact valid_once hv hd hj hij)
    rwa [List.length_map] at this)
  have HSM : Hid (∀ j, -(36028797018963968 * 4) ≤ mixN E D j ∧ mixN E D j ≤ 36028797018963968 * 4) := Lib.hid (fun j => by
    have := mix_small (E := E) D (fun t ht => ⟨hv3 t ht, hall t ht⟩) j
    omega)
  have HST : Hid (∀ i j, -(36028797018963968 * 4) ≤ mixN E (D.take i) j ∧ mixN E (D.take i) j ≤ 36028797018963968 * 4) := Lib.hid (fun i j => by
    have := mix_small (E := E) (D.take i) (fun t ht => ⟨hv3 t (List.mem_of_mem_take ht), hall t (List.mem_of_mem_take ht)⟩) j
    have : (D.take i).length ≤ D.length := by rw [List.length_take]; omega
    omega)
  have HAL : Hid (∀ t ∈ D, 0 ≤ loE E t ∧ loE E t ≤ hiE E t ∧ hiE E t < 34359738368 ∧ -36028797018963968 ≤ t.k * loE E t ∧ t.k * loE E t ≤ 36028797018963968 ∧ -36028797018963968 ≤ t.k * hiE E t ∧ t.k * hiE E t ≤ 36028797018963968) := Lib.hid (fun t ht => by
    obtain ⟨p, hp, ha⟩ := hall t ht
    have ha2 : 0 ≤ p.1 ∧ p.1 ≤ p.2 ∧ p.2 < 34359738368 := by simpa [allowP] using ha
    have hk2 : -1048576 ≤ t.k ∧ t.k ≤ 1048576 := by simpa [inB] using hv3 t ht
    unfold loE hiE
    rw [hp]
    simp only [Option.getD_some]
    have m1 := mul_small (k := t.k) (v := p.1) hk2.1 hk2.2 (by omega) (by omega)
    have m2 := mul_small (k := t.k) (v := p.2) hk2.1 hk2.2 (by omega) (by omega)
    exact ⟨ha2.1, ha2.2.1, ha2.2.2, m1.1, m1.2, m2.1, m2.2⟩)
  have HBS : Hid (-1048576 ≤ base ∧ base ≤ 1048576) := Lib.hid (by simpa [inB] using hv1)
  have HVL : Hid (∀ wx, Below w1.heap.size w1 wx → Calls Tryz.prog 148 #[.agg #[.int .i64 base, .slice A D.length c]] wx fun e w' => e = .returned (.bool true) ∧ Below wx.heap.size wx w') := Lib.hid (fun wx hb => by
    have := refSizeValid base A c D S wx (H1.out wx hb)
    rwa [hv] at this)
  obtain ⟨⟨rlo, rhi⟩, hR⟩ : ∃ R, ivS E base D = R := ⟨_, rfl⟩
  rw [hR]
  have HR := Lib.hid hR
  have HW := Lib.hid hw1
  have EB := Lib.hid eb
  have HB1 := Lib.hid b1
  have HLN := Lib.hid hv2
  obtain ⟨M, hM⟩ : ∃ M : Nat, 2 ^ D.length = M := ⟨_, rfl⟩
  have HM := Lib.hid hM
  have e2 : wrap64 ((2 : Int) ^ min D.length 64) = ((M : Nat) : Int) := by
    have hp : (2 : Int) ^ min D.length 64 = ((2 ^ D.length : Nat) : Int) := by rw [Nat.min_eq_left (by omega)]; simp
    have hq := (by decide : ∀ n : Nat, n < 5 → 2 ^ n ≤ 16) D.length (by omega)
    rw [hp, ← hM]
    unfold wrap64
    omega
  have hM16 : 1 ≤ M ∧ M ≤ 16 := by
    rw [← hM]
    exact (by decide : ∀ n : Nat, n < 5 → 1 ≤ 2 ^ n ∧ 2 ^ n ≤ 16) D.length (by omega)
  obtain ⟨q0, q1⟩ := KB.out w1 (Below.refl _ _)
  clear h hL hv hall h1 hL1 b1 x1 hw1 eb hR hv1 hv2 hv3 hM
  go_enter Tryz.func149, Tryz.ntmps149
  go_upto_region 1 with fail
  rw [HW.out, EB.out]
  go_upto_region 3 with (go_at_call 148; refine (HVL.out _ (Below.refl _ _)).mono ?_; rintro e w2 ⟨rfl, hb2⟩)
  have HB2 := Lib.hid hb2
  clear q0 q1 hb2 HVL
  go_wp2_with fail
  go_loopw [7, 8] (fun x7 x8 wr => ∃ i : Nat, i ≤ D.length ∧ x7 = .bool false ∧ x8 = .int .i64 ((i : Nat) : Int) ∧ Below w1.heap.size w1 wr) (fun _ x8 _ => D.length - (intOf x8).toNat)
  case atStart => exact ⟨0, Nat.zero_le _, rfl, rfl, HB2.out⟩
  case round =>
    obtain ⟨i, hi, rfl, rfl, hb⟩ := hrel
    have HB := Lib.hid hb
    obtain ⟨q0, q1⟩ := KB.out wr hb
    clear hb
    by_cases hlt : i < D.length
    · obtain ⟨d, hd⟩ : ∃ d, D[i]? = some d := ⟨_, List.getElem?_eq_getElem hlt⟩
      obtain ⟨g, o, rfl, hx⟩ := (H1.out wr HB.out).at_ hd
      have a0 : wr.cell? ⟨g, o + i * 2, none⟩ = some (.string (strL d.f)) := hx 0 _ rfl
      obtain ⟨lg, lo, rfl, hy⟩ := (H2.out wr HB.out).at_ (d := toRan E d) (i := i) (by rw [List.getElem?_map, hd]; rfl)
      have c1 : wr.cell? ⟨lg, lo + i * 3 + 1, none⟩ = some (.int .i64 (loE E d)) := hy 1 _ rfl
      have c2 : wr.cell? ⟨lg, lo + i * 3 + 2, none⟩ = some (.int .i64 (hiE E d)) := hy 2 _ rfl
      obtain ⟨al1, al2, al3, _, _, _, _⟩ := HAL.out d (List.mem_of_getElem? hd)
      have HF := Lib.hid (HFR.out i d wr hd HB.out)
      have hi0 : (0 : Int) ≤ ((i : Nat) : Int) := by omega
      have hi1 : ((i : Nat) : Int) < ((D.length : Nat) : Int) := by omega
      obtain ⟨lv, hlv⟩ : ∃ v, loE E d = v := ⟨_, rfl⟩
      obtain ⟨hv', hhv⟩ : ∃ v, hiE E d = v := ⟨_, rfl⟩
      rw [hlv] at c1 al1 al2
      rw [hhv] at c2 al2 al3
      have f1 : decide (lv < 0) = false := decide_eq_false (by omega)
      have f2 : decide (hv' < lv) = false := decide_eq_false (by omega)
      have f3 : decide (34359738368 ≤ hv') = false := decide_eq_false (by omega)
      clear hd hx hy hlv hhv
      go_wp2_with (go_at_call 163; refine (HF.out).mono ?_; rintro e w' ⟨rfl, hw'⟩; have hw'' := hw'.symm; clear hw'; subst hw'')
      go_quiet (fail)
      go_wp2_with fail
      go_roundw
      case rel => exact ⟨i + 1, by omega, rfl, by go_num, HB.out.trans ((below_drewN _ _).mono HB.out.size)⟩
      case measure => simp [intOf]; omega
    · obtain rfl : i = D.length := by omega
      go_wp2_with fail
      clear q0 q1
      go_loopw [10, 11, 12] (fun x10 x11 x12 wr => ∃ (m : Nat) (lo hi : Int), m ≤ M ∧ x10 = .int .i64 lo ∧ x11 = .int .i64 hi ∧ x12 = .int .i64 ((m : Nat) : Int) ∧ (m = 0 ∨ ((∀ j, j < m → lo ≤ base + mixN E D j ∧ base + mixN E D j ≤ hi) ∧ (∃ j, lo = base + mixN E D j) ∧ (∃ j, hi = base + mixN E D j))) ∧ Below w1.heap.size w1 wr) (fun _ _ x12 _ => M - (intOf x12).toNat)
      case atStart => exact ⟨0, 0, 0, Nat.zero_le _, rfl, rfl, rfl, .inl rfl, HB.out⟩
      case round =>
        obtain ⟨m, lo, hi2, hm, rfl, rfl, rfl, hmm, hb⟩ := hrel
        have HMM := Lib.hid hmm
        have HC := Lib.hid hb
        obtain ⟨q0, q1⟩ := KB.out _ hb
        clear hmm hb
        by_cases hlt : m < M
        · go_wp2_with fail
          clear q0 q1
          go_loopw [13, 14] (fun x13 x14 wx => ∃ i : Nat, i ≤ D.length ∧ x13 = .int .i64 (base + mixN E (D.take i) m) ∧ x14 = .int .i64 ((i : Nat) : Int) ∧ Below w1.heap.size w1 wx) (fun _ x14 _ => D.length - (intOf x14).toNat)
          case atStart => exact ⟨0, Nat.zero_le _, by simp [mixN], rfl, HC.out⟩
          case round =>
            obtain ⟨i, hi, rfl, rfl, hb⟩ := hrel
            have HD := Lib.hid hb
            obtain ⟨q0, q1⟩ := KB.out _ hb
            clear hb e2
            by_cases hil : i < D.length
            · obtain ⟨d, hd⟩ : ∃ d, D[i]? = some d := ⟨_, List.getElem?_eq_getElem hil⟩
              have hat := (H1.out _ HD.out).at_ hd
              obtain ⟨g, o, rfl, hx⟩ := hat
              have a0 : wr.cell? ⟨g, o + i * 2, none⟩ = some (.string (strL d.f)) := hx 0 _ rfl
              have a1 : wr.cell? ⟨g, o + i * 2 + 1, none⟩ = some (.int .i64 d.k) := hx 1 _ rfl
              have haty := (H2.out _ HD.out).at_ (d := toRan E d) (i := i) (by rw [List.getElem?_map, hd]; rfl)
              obtain ⟨lg, lo', rfl, hy⟩ := haty
              have c0 : wr.cell? ⟨lg, lo' + i * 3, none⟩ = some (.string (strL d.f)) := hy 0 _ rfl
              have c1 : wr.cell? ⟨lg, lo' + i * 3 + 1, none⟩ = some (.int .i64 (loE E d)) := hy 1 _ rfl
              have c2 : wr.cell? ⟨lg, lo' + i * 3 + 2, none⟩ = some (.int .i64 (hiE E d)) := hy 2 _ rfl
              have HF := Lib.hid (HFR.out i d _ hd HD.out)
              have hi0 : (0 : Int) ≤ ((i : Nat) : Int) := by omega
              have hi1 : ((i : Nat) : Int) < ((D.length : Nat) : Int) := by omega
              have HDD := Lib.hid hd
              clear hd hx hy
              go_upto_region 23 with (go_at_call 163; refine (HF.out).mono ?_; rintro e w' ⟨rfl, hw'⟩; have hw'' := hw'.symm; clear hw'; subst hw'')
              have hal := below_alloc wr (.cells #[.string (strL d.f), .int .i64 (loE E d), .int .i64 (hiE E d)] 182)
              have hbx := heap_alloc_new wr (.cells #[.string (strL d.f), .int .i64 (loE E d), .int .i64 (hiE E d)] 182)
              obtain ⟨rb, erb⟩ : ∃ rb, wr.heap.size = rb := ⟨_, rfl⟩
              obtain ⟨w3, hw3⟩ : ∃ w3, wr.alloc (.cells #[.string (strL d.f), .int .i64 (loE E d), .int .i64 (hiE E d)] 182) = w3 := ⟨_, rfl⟩
              rw [hw3] at hal hbx
              rw [erb] at hbx
              have r1 : w3.cell? ⟨rb, 1, none⟩ = some (.int .i64 (loE E d)) := by simp [World.cell?, hbx]
              have r2 : w3.cell? ⟨rb, 2, none⟩ = some (.int .i64 (hiE E d)) := by simp [World.cell?, hbx]
              have HB3 := Lib.hid (HD.out.trans (hal.mono HD.out.size))
              have W3 := Lib.hid hw3
              have ERB := Lib.hid erb
              clear hal hbx hw3 erb q0 q1 a0 a1 c0 c1 c2
              obtain ⟨al1, al2, al3, m1, m2, m3, m4⟩ := HAL.out d (List.mem_of_getElem? HDD.out)
              obtain ⟨sb, hsb⟩ : ∃ s, decide ((m / 2 ^ i) % 2 = 1) = s := ⟨_, rfl⟩
              have e24 : ((((m : Nat) : Int) / 2 ^ min i 64).tmod 2 == 1) = sb := by
                have hq : ((((m : Nat) : Int) / 2 ^ min i 64).tmod 2) = (((m / 2 ^ i) % 2 : Nat) : Int) := by
                  rw [Nat.min_eq_left (by have := HLN.out; omega), show (2 : Int) ^ i = ((2 ^ i : Nat) : Int) by simp]
                  rfl
                rw [hq, ← hsb, Bool.eq_iff_iff, beq_iff_eq, decide_eq_true_eq]
                generalize m / 2 ^ i % 2 = q
                omega
              have hsn : mixN E (D.take (i + 1)) m = mixN E (D.take i) m + d.k * (if sb then hiE E d else loE E d) := by
                rw [(drop_of HDD.out).2, mixN_snoc, List.length_take, Nat.min_eq_left (by omega)]
                unfold ends
                rw [← hsb]
                simp
              have hst := HST.out i m
              have HSN := Lib.hid hsn
              clear hsn hsb
              go_upto_region 24 with fail
              rw [W3.out, ERB.out]
              obtain ⟨q0, q1⟩ := KB.out w3 HB3.out
              have hat := (H1.out _ HB3.out).at_ HDD.out
              obtain ⟨g', o', eg, hx⟩ := hat
              cases eg
              have a1 : w3.cell? ⟨g, o + i * 2 + 1, none⟩ = some (.int .i64 d.k) := hx 1 _ rfl
              clear hx
              cases sb
              · have e26 : wrap64 (base + mixN E (D.take i) m + wrap64 (d.k * loE E d)) = base + mixN E (D.take (i + 1)) m := by
                  rw [HSN.out]
                  have := HBS.out
                  simp only [Bool.false_eq_true, if_false]
                  unfold wrap64
                  omega
                have E26 := Lib.hid e26
                clear e26 al1 al2 al3 m1 m2 m3 m4 hst
                go_wp2_with fail
                go_roundw
                case rel => exact ⟨i + 1, by omega, by rw [E26.out], by go_num, HB3.out⟩
                case measure => simp [intOf]; omega
              · have e26 : wrap64 (base + mixN E (D.take i) m + wrap64 (d.k * hiE E d)) = base + mixN E (D.take (i + 1)) m := by
                  rw [HSN.out]
                  have := HBS.out
                  simp only [if_true]
                  unfold wrap64
                  omega
                have E26 := Lib.hid e26
                clear e26 al1 al2 al3 m1 m2 m3 m4 hst
                go_wp2_with fail
                go_roundw
                case rel => exact ⟨i + 1, by omega, by rw [E26.out], by go_num, HB3.out⟩
                case measure => simp [intOf]; omega
            · obtain rfl : i = D.length := by omega
              rw [List.take_length]
              obtain ⟨N, hN⟩ : ∃ N, base + mixN E D m = N := ⟨_, rfl⟩
              rw [hN]
              have HN := Lib.hid hN
              clear hN
              by_cases hm0 : m = 0
              · subst hm0
                have HNX := Lib.hid (show (1 = 0 ∨ ((∀ j, j < 1 → N ≤ base + mixN E D j ∧ base + mixN E D j ≤ N) ∧ (∃ j, N = base + mixN E D j) ∧ (∃ j, N = base + mixN E D j))) from .inr ⟨fun j hj => by
                  obtain rfl : j = 0 := by omega
                  rw [HN.out]
                  omega, ⟨0, HN.out.symm⟩, ⟨0, HN.out.symm⟩⟩)
                go_wp2_with fail
                go_roundw
                case rel => exact ⟨1, N, N, by omega, rfl, rfl, by go_num, HNX.out, HD.out⟩
                case measure => simp [intOf]; omega
              · have hmm := HMM.out.resolve_left hm0
                have hm1 : (((m : Nat) : Int) == 0) = false := beq_eq_false_iff_ne.2 (by omega)
                by_cases h1 : N < lo <;> by_cases h2 : hi2 < N
                · have HNX := Lib.hid (show (m + 1 = 0 ∨ ((∀ j, j < m + 1 → N ≤ base + mixN E D j ∧ base + mixN E D j ≤ N) ∧ (∃ j, N = base + mixN E D j) ∧ (∃ j, N = base + mixN E D j))) from by
                    exfalso
                    have := hmm.1 0 (by omega)
                    omega)
                  clear hmm
                  go_wp2_with fail
                  go_roundw
                  case rel => exact ⟨m + 1, N, N, by omega, rfl, rfl, by go_num, HNX.out, HD.out⟩
                  case measure => simp [intOf]; omega
                · have HNX := Lib.hid (show (m + 1 = 0 ∨ ((∀ j, j < m + 1 → N ≤ base + mixN E D j ∧ base + mixN E D j ≤ hi2) ∧ (∃ j, N = base + mixN E D j) ∧ (∃ j, hi2 = base + mixN E D j))) from .inr ⟨fun j hj => by
                    by_cases e : j = m
                    · subst e
                      rw [HN.out]
                      omega
                    · have := hmm.1 j (by omega)
                      omega, ⟨m, HN.out.symm⟩, hmm.2.2⟩)
                  clear hmm
                  go_wp2_with fail
                  go_roundw
                  case rel => exact ⟨m + 1, N, hi2, by omega, rfl, rfl, by go_num, HNX.out, HD.out⟩
                  case measure => simp [intOf]; omega
                · have HNX := Lib.hid (show (m + 1 = 0 ∨ ((∀ j, j < m + 1 → lo ≤ base + mixN E D j ∧ base + mixN E D j ≤ N) ∧ (∃ j, lo = base + mixN E D j) ∧ (∃ j, N = base + mixN E D j))) from .inr ⟨fun j hj => by
                    by_cases e : j = m
                    · subst e
                      rw [HN.out]
                      omega
                    · have := hmm.1 j (by omega)
                      omega, hmm.2.1, ⟨m, HN.out.symm⟩⟩)
                  clear hmm
                  go_wp2_with fail
                  go_roundw
                  case rel => exact ⟨m + 1, lo, N, by omega, rfl, rfl, by go_num, HNX.out, HD.out⟩
                  case measure => simp [intOf]; omega
                · have HNX := Lib.hid (show (m + 1 = 0 ∨ ((∀ j, j < m + 1 → lo ≤ base + mixN E D j ∧ base + mixN E D j ≤ hi2) ∧ (∃ j, lo = base + mixN E D j) ∧ (∃ j, hi2 = base + mixN E D j))) from .inr ⟨fun j hj => by
                    by_cases e : j = m
                    · subst e
                      rw [HN.out]
                      omega
                    · have := hmm.1 j (by omega)
                      omega, hmm.2.1, hmm.2.2⟩)
                  clear hmm
                  go_wp2_with fail
                  go_roundw
                  case rel => exact ⟨m + 1, lo, hi2, by omega, rfl, rfl, by go_num, HNX.out, HD.out⟩
                  case measure => simp [intOf]; omega
        · obtain rfl : m = M := by omega
          have hmm := HMM.out.resolve_left (by omega)
          have hiv := mix_ends (E := E) (base := base) (D := D) (lo := lo) (hi := hi2) (by rw [HM.out]; exact hmm.1) hmm.2.1 hmm.2.2
          rw [HR.out] at hiv
          have HIV := Lib.hid hiv
          clear hmm hiv
          go_wp2_with fail
          go_ret3
          refine ⟨?_, HB1.out.trans (HC.out.mono HB1.out.size)⟩
          have := HIV.out
          simp only [Prod.mk.injEq] at this
          rw [this.1, this.2]
          rfl
end Go.Proofs.YtbpkppmbbpoohaaGreat
