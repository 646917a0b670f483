/- The document's Scan, walked. Conditions: the text has at most 1048576 bytes. -/
import Derived.Test.YtgdjfifnnhfonaaRh
import Derived.Test.YtgdjfifnnhfonaaIb
namespace Go.Proofs.Ytgdjfifnnhfonaa
open Go.RowKit Go.Shelf

theorem number_kind {l : List UInt8} {k v n : Nat} {t : List UInt8} (h : numberR l = .ok k t v n) : k = 2 := by
  cases hdg : isDig (firstOf l) with
  | false => rw [numberR_no l hdg] at h; cases h
  | true =>
    rcases number_core l hdg with ⟨hb, _⟩ | ⟨m, u, _, _, hn, hc⟩
    · rw [hb] at h; cases h
    · rw [hn] at h
      exact (numTail_ok h).2.1

/-- Which symbol stands at an index. -/
theorem symR_two (l : List UInt8) (a : Nat) (h : a + 1 < l.length) (hz : (l[a].toNat = 46 ∧ l[a + 1].toNat = 46) ∨ (l[a].toNat = 45 ∧ l[a + 1].toNat = 62)) : symR (l.drop a) = .ok 4 ((l.drop a).take 2) 0 2 := by
  unfold symR
  rw [if_pos]
  rw [Bool.or_eq_true]
  rcases hz with ⟨h1, h2⟩ | ⟨h1, h2⟩
  · exact .inl (preB_at 46 46 l a h (u8_eq h1 46 rfl) (u8_eq h2 46 rfl))
  · exact .inr (preB_at 45 62 l a h (u8_eq h1 45 rfl) (u8_eq h2 62 rfl))
theorem symR_one (l : List UInt8) (a : Nat) (h1 : a < l.length) (ha : amongB l[a].toNat symsL = true) (hz : ∀ h : a + 1 < l.length, ¬ ((l[a].toNat = 46 ∧ l[a + 1].toNat = 46) ∨ (l[a].toNat = 45 ∧ l[a + 1].toNat = 62))) : symR (l.drop a) = .ok 4 ((l.drop a).take 1) 0 1 := by
  unfold symR
  rw [preB_not 46 46 l a (fun h hx => hz h (.inl ⟨by rw [hx.1]; rfl, by rw [hx.2]; rfl⟩)), preB_not 45 62 l a (fun h hx => hz h (.inr ⟨by rw [hx.1]; rfl, by rw [hx.2]; rfl⟩)), if_neg (by decide), if_neg]
  rw [firstOf_at l a h1, sym_among, ha]
  decide
theorem symR_no (l : List UInt8) (a : Nat) (h1 : a < l.length) (ha : amongB l[a].toNat symsL = false) : symR (l.drop a) = .no := by
  have h46 : l[a].toNat ≠ 46 := fun e => by rw [e] at ha; exact absurd ha (by decide)
  have h45 : l[a].toNat ≠ 45 := fun e => by rw [e] at ha; exact absurd ha (by decide)
  unfold symR
  rw [preB_not 46 46 l a (fun h hx => h46 (by rw [hx.1]; rfl)), preB_not 45 62 l a (fun h hx => h45 (by rw [hx.1]; rfl)), if_neg (by decide), if_pos]
  rw [firstOf_at l a h1, sym_among, ha]

set_option maxRecDepth 100000 in
set_option maxHeartbeats 16000000 in
theorem refScan_any (l : List UInt8) (w : World) (h3 : l.length ≤ 1048576) :
    Calls Try.prog 10 #[.string (strL l)] w (RefR l w (scanS l)) := by
  obtain ⟨R, hR⟩ : ∃ R, scanS l = R := ⟨_, rfl⟩
  have hS0 : RS w w l R (.slice none 0 0) [] 0 := ⟨⟨by simp [rCells], .inl ⟨rfl, rfl⟩⟩, Below.refl _ _, Nat.zero_le _, Nat.le_refl _, by simp, by rw [← hR, List.map_nil, pre_nil, List.drop_zero]; rfl⟩
  rw [hR]
  have S0 := Lib.hid hS0
  obtain ⟨i0, hi, hz0, hz1, hz2⟩ := info_parts Try.info38
  have HI := Lib.hid hi
  have HZ := Lib.hid (And.intro hz0 (And.intro hz1 hz2))
  have hs : (strL l).size = l.length := strL_size l
  clear hR hS0 hi hz0 hz1 hz2
  go_enter Try.func10, Try.ntmps10
  go_wp2_with fail
  go_loopw [5, 6] (fun out x wr => ∃ (ws : List RTk) (a : Nat), x = .int .i64 ((a : Nat) : Int) ∧ RS w wr l R out ws a) (fun _ x _ => l.length - (intOf x).toNat)
  case atStart => exact ⟨[], 0, rfl, S0.out⟩
  case round =>
    obtain ⟨ws, a, rfl, hS⟩ := hrel
    obtain ⟨A, c, rfl⟩ := row_shape hS.row
    have hle := hS.le
    have S := Lib.hid hS
    clear hS
    by_cases hlt : a < l.length
    · have hsk : a < (strL l).size := by rw [strL_size]; exact hlt
      have hg : (strL l)[a].toNat = l[a].toNat := congrArg UInt8.toNat (strL_get l a hsk)
      obtain ⟨y, hy⟩ : ∃ y, l[a].toNat = y := ⟨_, rfl⟩
      rw [hy] at hg
      have HY := Lib.hid hy
      clear hy
      cases hbl : isBlank y with
      | true =>
        have hS' := S.out.blank hlt ((congrArg isBlank HY.out).trans hbl)
        have S' := Lib.hid hS'
        clear hS'
        have h4 : y = 32 ∨ y = 9 ∨ y = 10 ∨ y = 13 := by simpa [isBlank, or_assoc] using hbl
        clear hbl
        rcases h4 with rfl | rfl | rfl | rfl
        all_goals
          go_wp2_with fail
          go_roundw
          case rel => exact ⟨ws, a + 1, by go_num, S'.out⟩
          case measure => simp [intOf]; omega
      | false =>
        have h4 : y ≠ 32 ∧ y ≠ 9 ∧ y ≠ 10 ∧ y ≠ 13 := by simpa [isBlank, and_assoc] using hbl
        have HBL := Lib.hid hbl
        clear hbl
        obtain ⟨n32, n9, n10, n13⟩ := h4
        have b32 : (((y : Nat) : Int) == 32) = false := by simp; omega
        have b9 : (((y : Nat) : Int) == 9) = false := by simp; omega
        have b10 : (((y : Nat) : Int) == 10) = false := by simp; omega
        have b13 : (((y : Nat) : Int) == 13) = false := by simp; omega
        clear n32 n9 n10 n13
        by_cases h35 : y = 35
        · have H35 := Lib.hid h35
          have b35 : (((y : Nat) : Int) == 35) = true := by simp; omega
          clear h35
          obtain ⟨wo, hwo⟩ : ∃ wo : World, wo = wr := ⟨_, rfl⟩
          rw [← hwo] at S ⊢
          clear hwo
          go_wp2_with fail
          go_loopw [6] (fun x wx => ∃ k : Nat, a + k ≤ l.length ∧ (∀ j (h : j < (l.drop a).length), j < k → isCom ((l.drop a)[j].toNat) = true) ∧ x = .int .i64 ((a + k : Nat) : Int) ∧ wx = wo) (fun x _ => l.length - (intOf x).toNat)
          case atStart => exact ⟨0, hle, fun j h hj => by omega, rfl, rfl⟩
          case round =>
            obtain ⟨k, hak, hall, rfl, rfl⟩ := hrel
            have HALL := Lib.hid hall
            clear hall
            have hout : ∀ (hx : ∀ h : a + k < l.length, isCom l[a + k].toNat = false), RS w wr l R (.slice A ws.length c) ws (a + k) ∧ 1 ≤ k := by
              intro hx
              have e : k = spanP isCom (l.drop a) := (spanP_eq isCom (l.drop a) k HALL.out (by rw [List.length_drop]; omega) (fun h => by
                have h' : a + k < l.length := by rw [List.length_drop] at h; omega
                rw [get_drop l a k h']
                exact hx h')).symm
              refine ⟨S.out.com hlt (HY.out.trans H35.out) k e, ?_⟩
              rw [e]
              exact com_n ((firstOf_at l a hlt).trans (HY.out.trans H35.out))
            have HOUT := Lib.hid hout
            clear hout
            by_cases hlt2 : a + k < l.length
            · have hsk2 : a + k < (strL l).size := by rw [strL_size]; exact hlt2
              have hg2 : (strL l)[a + k].toNat = l[a + k].toNat := congrArg UInt8.toNat (strL_get l (a + k) hsk2)
              obtain ⟨z, hz⟩ : ∃ z, l[a + k].toNat = z := ⟨_, rfl⟩
              rw [hz] at hg2
              have HZ2 := Lib.hid hz
              clear hz
              by_cases hz10 : z = 10
              · have hfin := HOUT.out (fun h => (congrArg isCom (HZ2.out.trans hz10)).trans rfl)
                have FIN := Lib.hid hfin
                have c10 : (((z : Nat) : Int) != 10) = false := by simp; omega
                have hk1 := hfin.2
                clear hfin hz10
                go_wp2_with fail
                go_roundw
                case rel => exact ⟨ws, a + k, rfl, FIN.out.1⟩
                case measure => simp [intOf]; omega
              · have c10 : (((z : Nat) : Int) != 10) = true := by simp; omega
                have hcz : isCom z = true := by unfold isCom; simpa using hz10
                have HCZ := Lib.hid hcz
                clear hcz hz10
                go_wp2_with fail
                go_roundw
                case rel =>
                  refine ⟨k + 1, hlt2, fun j h hj => ?_, by go_num, trivial⟩
                  by_cases hjk : j < k
                  · exact HALL.out j h hjk
                  · obtain rfl : j = k := by omega
                    rw [get_drop l a j hlt2]
                    exact (congrArg isCom HZ2.out).trans HCZ.out
                case measure => simp [intOf]; omega
            · have hfin := HOUT.out (fun h => absurd h hlt2)
              have FIN := Lib.hid hfin
              have hk1 := hfin.2
              clear hfin
              go_wp2_with fail
              go_roundw
              case rel => exact ⟨ws, a + k, rfl, FIN.out.1⟩
              case measure => simp [intOf]; omega
        · have H35 := Lib.hid h35
          have b35 : (((y : Nat) : Int) == 35) = false := by simp; omega
          have HBAD := Lib.hid (fun m (ht : tokR (l.drop a) = .bad m) => S.out.bad hlt ((congrArg isBlank HY.out).trans HBL.out) (fun e => h35 (HY.out.symm.trans e)) m ht)
          have HTOK := Lib.hid (fun k t v n (ht : tokR (l.drop a) = .ok k t v n) => S.out.tok hlt ((congrArg isBlank HY.out).trans HBL.out) (fun e => h35 (HY.out.symm.trans e)) k t v n ht)
          clear h35
          have HF := Lib.hid ((firstOf_at l a hlt).trans HY.out)
          obtain ⟨bL, hbL⟩ : ∃ b, isLet y = b := ⟨_, rfl⟩
          obtain ⟨bD, hbD⟩ : ∃ b, isDig y = b := ⟨_, rfl⟩
          obtain ⟨bA, hbA⟩ : ∃ b, amongB y symsL = b := ⟨_, rfl⟩
          have HL := fun wx => Lib.hid ((refLetter_any y wx).mono (fun e w' h => (⟨h.1, h.2.symm⟩ : _ ∧ wx = w')))
          have HD := fun wx => Lib.hid ((refDigit_any y wx).mono (fun e w' h => (⟨h.1, h.2.symm⟩ : _ ∧ wx = w')))
          have HAM : ∀ wx, Hid (Calls Try.prog 33 #[.int .u8 ((y : Nat) : Int), .string ⟨#[40, 41, 123, 125, 91, 93, 60, 62, 44, 59, 58, 46, 61, 43, 45, 42, 47, 124, 33, 63, 64]⟩] wx fun e w' => e = .returned (.bool (amongB y symsL)) ∧ wx = w') := fun wx => Lib.hid ((refAmong_any y symsL wx (by decide)).mono (fun e w' h => (⟨h.1, h.2.symm⟩ : _ ∧ wx = w')))
          rw [hbL] at HL
          rw [hbD] at HD
          rw [hbA] at HAM
          have BL := Lib.hid hbL
          have BD := Lib.hid hbD
          have BA := Lib.hid hbA
          clear hbL hbD hbA
          have hal := (Below.refl wr.heap.size wr).alloc (Nat.le_refl _) (.cells #[.int .i64 0, .string ⟨#[]⟩, .int .i64 0, .int .i64 ((a : Nat) : Int)] 38)
          have hqb := qbox_new wr (.int .i64 0) (.string ⟨#[]⟩) (.int .i64 0) (.int .i64 ((a : Nat) : Int))
          have hS1 := S.out.later hal
          obtain ⟨tb, etb⟩ : ∃ tb, wr.heap.size = tb := ⟨_, rfl⟩
          have hnew : Value.ownBlock (.slice A ws.length c) ≠ some tb := fun e => by
            have h := S.out.row
            rcases h.2 with ⟨hn, _⟩ | ⟨g, cap, cur, hv, _, hgg, _⟩
            · rw [hn] at e; simp [Value.ownBlock] at e
            · rw [hv] at e
              simp [Value.ownBlock] at e
              have := (Array.getElem?_eq_some_iff.1 hgg).1
              omega
          have hwt : w.heap.size ≤ tb := by have := S.out.below.size; omega
          obtain ⟨w1, hw1⟩ : ∃ w1, wr.alloc (.cells #[.int .i64 0, .string ⟨#[]⟩, .int .i64 0, .int .i64 ((a : Nat) : Int)] 38) = w1 := ⟨_, rfl⟩
          rw [hw1] at hqb hS1
          rw [etb] at hqb
          have QB := Lib.hid hqb
          have S1 := Lib.hid hS1
          have ETB := Lib.hid etb
          have W1 := Lib.hid hw1
          have NEW := Lib.hid (And.intro hnew hwt)
          clear hal hqb hS1 etb hnew hwt hw1
          go_upto_region 11 with fail
          rw [W1.out, ETB.out]
          go_upto_if 53 with (go_at_call 28; refine ((HL _).out).mono ?_; rintro e w' ⟨rfl, rfl⟩)
          go_cut [9, 10] from 11 to 138 (fun x9 x10 wx => ∃ k v : Nat, QBox wx tb (.int .i64 ((k : Nat) : Int)) (.string ⟨#[]⟩) (.int .i64 ((v : Nat) : Int)) (.int .i64 ((a : Nat) : Int)) ∧ RS w wx l R (.slice A ws.length c) ws a ∧ KindL (tokR (l.drop a)) a k v x9 x10)
          case first =>
            have q0 := QB.out.c0
            have q2 := QB.out.c2
            have f0 := QB.out.fr 0
            have f2 := QB.out.fr 2
            clear W1 ETB
            cases bL with
            | true =>
              obtain ⟨n, hn⟩ : ∃ n, min 32 (spanP isWrd (l.drop a)) = n := ⟨_, rfl⟩
              have hwd : tokR (l.drop a) = if isWrd (firstOf (l.drop (a + n))) then .bad n else .ok 1 ((l.drop a).take n) 0 n := by
                rw [tokR_let _ (by rw [HF.out]; exact BL.out)]
                unfold wordR
                rw [hn, if_pos (by rw [HF.out]; exact BL.out), List.drop_drop]
              have HC : ∀ wx, Hid (Calls Try.prog 29 #[.string (strL l), .int .i64 ((a : Nat) : Int)] wx fun e w' => e = .returned (if isWrd (firstOf (l.drop (a + n))) then .tuple #[.int .i64 0, .int .i64 ((a + n : Nat) : Int)] else .tuple #[.int .i64 ((a + n : Nat) : Int), .int .i64 (-1)]) ∧ wx = w') := fun wx => Lib.hid ((refWord_any l a wx hle (by omega)).mono (by
                rintro e w' ⟨n', hn', rfl, he⟩
                rw [hn] at hn'
                subst hn'
                exact ⟨he, rfl⟩))
              have hnl : n ≤ l.length - a := by have := spanP_le isWrd (l.drop a); rw [List.length_drop] at this; omega
              clear hn HD HAM HL
              cases hw : isWrd (firstOf (l.drop (a + n))) with
              | true =>
                rw [hw] at hwd HC
                simp only [if_true] at hwd HC
                have HWD := Lib.hid hwd
                clear hwd hw
                go_wp2_with (go_at_call 29; refine ((HC _).out).mono ?_; rintro e w' ⟨rfl, rfl⟩)
                go_meet
                case rel => exact ⟨1, 0, QB.out.set0 _, S1.out.setNew NEW.out.2 NEW.out.1 0 _, by rw [HWD.out]; exact ⟨⟨0, rfl⟩, by first | rfl | go_num⟩⟩
              | false =>
                rw [hw] at hwd HC
                simp only [Bool.false_eq_true, if_false] at hwd HC
                have HWD := Lib.hid hwd
                clear hwd hw
                go_wp2_with (go_at_call 29; refine ((HC _).out).mono ?_; rintro e w' ⟨rfl, rfl⟩)
                go_meet
                case rel => exact ⟨1, 0, QB.out.set0 _, S1.out.setNew NEW.out.2 NEW.out.1 0 _, by rw [HWD.out]; exact ⟨rfl, rfl, by first | rfl | go_num, rfl⟩⟩
            | false =>
              cases bD with
              | true =>
                have hdig : isDig l[a].toNat = true := (congrArg isDig HY.out).trans BD.out
                have htk : tokR (l.drop a) = numberR (l.drop a) := tokR_dig _ (by rw [HF.out]; exact BL.out) (by rw [HF.out]; exact BD.out)
                have hnp := fun wx => refNumber_any l a wx hlt hdig (by omega)
                unfold NumP at hnp
                clear HL HAM
                cases hr : numberR (l.drop a) with
                | no => exact absurd hr (numberR_yes _ (by rw [HF.out]; exact BD.out))
                | ok k t v n =>
                  obtain rfl := number_kind hr
                  have hnl := number_n hr
                  rw [List.length_drop] at hnl
                  rw [hr] at htk
                  simp only [hr] at hnp
                  have HC := fun wx => Lib.hid ((hnp wx).mono (fun e w' h => (⟨h.2, h.1.symm⟩ : _ ∧ wx = w')))
                  have HWD := Lib.hid htk
                  clear htk hnp hr hdig
                  go_wp2_with (first | (go_at_call 30; refine ((HD _).out).mono ?_; rintro e w' ⟨rfl, rfl⟩) | (go_at_call 31; refine ((HC _).out).mono ?_; rintro e w' ⟨rfl, rfl⟩))
                  go_meet
                  case rel => exact ⟨2, v, (QB.out.set2 _).set0 _, (S1.out.setNew NEW.out.2 NEW.out.1 2 _).setNew NEW.out.2 NEW.out.1 0 _, by rw [HWD.out]; exact ⟨rfl, rfl, by first | rfl | go_num, rfl⟩⟩
                | bad m =>
                  rw [hr] at htk
                  simp only [hr] at hnp
                  have HC := fun wx => Lib.hid ((hnp wx).mono (fun e w' h => (⟨h.2, h.1.symm⟩ : _ ∧ wx = w')))
                  have HWD := Lib.hid htk
                  clear htk hnp hr hdig
                  go_wp2_with (first | (go_at_call 30; refine ((HD _).out).mono ?_; rintro e w' ⟨rfl, rfl⟩) | (go_at_call 31; refine ((HC _).out).mono ?_; rintro e w' ⟨rfl, rfl⟩))
                  go_meet
                  case rel => exact ⟨2, 0, (QB.out.set2 _).set0 _, (S1.out.setNew NEW.out.2 NEW.out.1 2 _).setNew NEW.out.2 NEW.out.1 0 _, by rw [HWD.out]; exact ⟨⟨0, rfl⟩, by first | rfl | go_num⟩⟩
              | false =>
                by_cases h34 : y = 34
                · obtain ⟨n, hn⟩ : ∃ n, spanP isQ (l.drop (a + 1)) = n := ⟨_, rfl⟩
                  have hwd : tokR (l.drop a) = if firstOf (l.drop (a + 1 + n)) = 34 then .ok 3 ((l.drop (a + 1)).take n) 0 (n + 2) else .bad (1 + n) := by
                    rw [tokR_quo _ (by rw [HF.out]; exact h34)]
                    unfold quotedR
                    rw [if_pos (by rw [HF.out]; exact h34), show (l.drop a).drop 1 = l.drop (a + 1) from List.drop_drop, hn, List.drop_drop, Nat.add_assoc]
                  have HC : ∀ wx, Hid (Calls Try.prog 32 #[.string (strL l), .int .i64 ((a : Nat) : Int)] wx fun e w' => e = .returned (if firstOf (l.drop (a + 1 + n)) = 34 then .tuple #[.int .i64 ((a + 1 + n + 1 : Nat) : Int), .int .i64 (-1)] else .tuple #[.int .i64 0, .int .i64 ((a + 1 + n : Nat) : Int)]) ∧ wx = w') := fun wx => Lib.hid ((refQuoted_any l a wx hlt (by omega)).mono (by
                    rintro e w' ⟨n', hn', rfl, he⟩
                    rw [hn] at hn'
                    subst hn'
                    exact ⟨he, rfl⟩))
                  have hnl : n ≤ l.length := by have := spanP_le isQ (l.drop (a + 1)); rw [List.length_drop] at this; omega
                  have b34 : (((y : Nat) : Int) == 34) = true := by simp; omega
                  clear hn HAM HL h34
                  by_cases hw : firstOf (l.drop (a + 1 + n)) = 34
                  · rw [if_pos hw] at hwd
                    simp only [if_pos hw] at HC
                    have HWD := Lib.hid hwd
                    clear hwd hw
                    go_wp2_with (first | (go_at_call 30; refine ((HD _).out).mono ?_; rintro e w' ⟨rfl, rfl⟩) | (go_at_call 32; refine ((HC _).out).mono ?_; rintro e w' ⟨rfl, rfl⟩))
                    go_meet
                    case rel => exact ⟨3, 0, QB.out.set0 _, S1.out.setNew NEW.out.2 NEW.out.1 0 _, by rw [HWD.out]; exact ⟨rfl, rfl, by first | rfl | (congr 1; omega), rfl⟩⟩
                  · rw [if_neg hw] at hwd
                    simp only [if_neg hw] at HC
                    have HWD := Lib.hid hwd
                    clear hwd hw
                    go_wp2_with (first | (go_at_call 30; refine ((HD _).out).mono ?_; rintro e w' ⟨rfl, rfl⟩) | (go_at_call 32; refine ((HC _).out).mono ?_; rintro e w' ⟨rfl, rfl⟩))
                    go_meet
                    case rel => exact ⟨3, 0, QB.out.set0 _, S1.out.setNew NEW.out.2 NEW.out.1 0 _, by rw [HWD.out]; exact ⟨⟨0, rfl⟩, by first | rfl | (congr 1; omega)⟩⟩
                · have b34 : (((y : Nat) : Int) == 34) = false := by simp; omega
                  have hts : tokR (l.drop a) = firstR [symR (l.drop a)] := tokR_sym _ (by rw [HF.out]; exact BL.out) (by rw [HF.out]; exact BD.out) (by rw [HF.out]; exact h34)
                  clear HL h34
                  cases bA with
                  | false =>
                    have hno := symR_no l a hlt ((congrArg (amongB · symsL) HY.out).trans BA.out)
                    rw [hno] at hts
                    have hfin := HBAD.out 0 hts
                    have hc6 : codeOf (l.drop (a + 0)) = 6 := codeOf_cons (by rw [List.length_drop]; omega)
                    rw [hc6] at hfin
                    have FIN := Lib.hid hfin
                    clear hno hts hfin hc6
                    go_wp2_with (first | (go_at_call 30; refine ((HD _).out).mono ?_; rintro e w' ⟨rfl, rfl⟩) | (go_at_call 33; refine ((HAM _).out).mono ?_; rintro e w' ⟨rfl, rfl⟩))
                    go_ret3
                    refine ⟨S1.out.below, ?_⟩
                    rw [FIN.out]
                    exact ⟨a, hle, rfl, rfl⟩
                  | true =>
                    have ham := (congrArg (amongB · symsL) HY.out).trans BA.out
                    by_cases h2 : a + 1 < l.length
                    · have hs2 : a + 1 < (strL l).size := by rw [strL_size]; exact h2
                      have hg2 : (strL l)[a + 1].toNat = l[a + 1].toNat := congrArg UInt8.toNat (strL_get l (a + 1) hs2)
                      obtain ⟨z, hz⟩ : ∃ z, l[a + 1].toNat = z := ⟨_, rfl⟩
                      rw [hz] at hg2
                      by_cases hp : (y = 46 ∧ z = 46) ∨ (y = 45 ∧ z = 62)
                      · have hsy := symR_two l a h2 (hp.elim (fun h => .inl ⟨HY.out.trans h.1, hz.trans h.2⟩) (fun h => .inr ⟨HY.out.trans h.1, hz.trans h.2⟩))
                        rw [hsy] at hts
                        have HWD := Lib.hid hts
                        clear hsy hts hz ham
                        rcases hp with ⟨hp1, hp2⟩ | ⟨hp1, hp2⟩
                        · have e1 : (((y : Nat) : Int) == 46) = true := by simp; omega
                          have e2 : (((z : Nat) : Int) == 46) = true := by simp; omega
                          clear hp1 hp2
                          go_wp2_with (first | (go_at_call 30; refine ((HD _).out).mono ?_; rintro e w' ⟨rfl, rfl⟩) | (go_at_call 33; refine ((HAM _).out).mono ?_; rintro e w' ⟨rfl, rfl⟩))
                          go_meet
                          case rel => exact ⟨4, 0, QB.out.set0 _, S1.out.setNew NEW.out.2 NEW.out.1 0 _, by rw [HWD.out]; exact ⟨rfl, rfl, by first | rfl | (congr 1; omega), rfl⟩⟩
                        · have e1 : (((y : Nat) : Int) == 46) = false := by simp; omega
                          have e2 : (((y : Nat) : Int) == 45) = true := by simp; omega
                          have e3 : (((z : Nat) : Int) == 62) = true := by simp; omega
                          clear hp1 hp2
                          go_wp2_with (first | (go_at_call 30; refine ((HD _).out).mono ?_; rintro e w' ⟨rfl, rfl⟩) | (go_at_call 33; refine ((HAM _).out).mono ?_; rintro e w' ⟨rfl, rfl⟩))
                          go_meet
                          case rel => exact ⟨4, 0, QB.out.set0 _, S1.out.setNew NEW.out.2 NEW.out.1 0 _, by rw [HWD.out]; exact ⟨rfl, rfl, by first | rfl | (congr 1; omega), rfl⟩⟩
                      · have hsy := symR_one l a hlt ham (fun _ hx => hp (hx.elim (fun h => .inl ⟨HY.out.symm.trans h.1, hz.symm.trans h.2⟩) (fun h => .inr ⟨HY.out.symm.trans h.1, hz.symm.trans h.2⟩)))
                        rw [hsy] at hts
                        have HWD := Lib.hid hts
                        have HP := Lib.hid hp
                        clear hsy hts hz ham hp
                        by_cases y46 : y = 46
                        · have e1 : (((y : Nat) : Int) == 46) = true := by simp; omega
                          have e2 : (((z : Nat) : Int) == 46) = false := by have := HP.out; simp; omega
                          have e3 : (((y : Nat) : Int) == 45) = false := by simp; omega
                          clear y46
                          go_wp2_with (first | (go_at_call 30; refine ((HD _).out).mono ?_; rintro e w' ⟨rfl, rfl⟩) | (go_at_call 33; refine ((HAM _).out).mono ?_; rintro e w' ⟨rfl, rfl⟩))
                          go_meet
                          case rel => exact ⟨4, 0, QB.out.set0 _, S1.out.setNew NEW.out.2 NEW.out.1 0 _, by rw [HWD.out]; exact ⟨rfl, rfl, by first | rfl | go_num, rfl⟩⟩
                        · by_cases y45 : y = 45
                          · have e1 : (((y : Nat) : Int) == 46) = false := by simp; omega
                            have e2 : (((z : Nat) : Int) == 62) = false := by have := HP.out; simp; omega
                            have e3 : (((y : Nat) : Int) == 45) = true := by simp; omega
                            clear y45 y46
                            go_wp2_with (first | (go_at_call 30; refine ((HD _).out).mono ?_; rintro e w' ⟨rfl, rfl⟩) | (go_at_call 33; refine ((HAM _).out).mono ?_; rintro e w' ⟨rfl, rfl⟩))
                            go_meet
                            case rel => exact ⟨4, 0, QB.out.set0 _, S1.out.setNew NEW.out.2 NEW.out.1 0 _, by rw [HWD.out]; exact ⟨rfl, rfl, by first | rfl | go_num, rfl⟩⟩
                          · have e1 : (((y : Nat) : Int) == 46) = false := by simp; omega
                            have e3 : (((y : Nat) : Int) == 45) = false := by simp; omega
                            clear y45 y46
                            go_wp2_with (first | (go_at_call 30; refine ((HD _).out).mono ?_; rintro e w' ⟨rfl, rfl⟩) | (go_at_call 33; refine ((HAM _).out).mono ?_; rintro e w' ⟨rfl, rfl⟩))
                            go_meet
                            case rel => exact ⟨4, 0, QB.out.set0 _, S1.out.setNew NEW.out.2 NEW.out.1 0 _, by rw [HWD.out]; exact ⟨rfl, rfl, by first | rfl | go_num, rfl⟩⟩
                    · have hsy := symR_one l a hlt ham (fun h => absurd h h2)
                      rw [hsy] at hts
                      have HWD := Lib.hid hts
                      clear hsy hts ham
                      go_wp2_with (first | (go_at_call 30; refine ((HD _).out).mono ?_; rintro e w' ⟨rfl, rfl⟩) | (go_at_call 33; refine ((HAM _).out).mono ?_; rintro e w' ⟨rfl, rfl⟩))
                      go_meet
                      case rel => exact ⟨4, 0, QB.out.set0 _, S1.out.setNew NEW.out.2 NEW.out.1 0 _, by rw [HWD.out]; exact ⟨rfl, rfl, by first | rfl | go_num, rfl⟩⟩
          case rest =>
            obtain ⟨k, v, hQ, hS, hK⟩ := hcut
            clear HL HD HAM QB S1 W1 ETB b32 b9 b10 b13 b35 hg
            have SR := Lib.hid hS
            have QR := Lib.hid hQ
            clear hS hQ
            cases ht : tokR (l.drop a) with
            | no => exact absurd ht (tok_no _)
            | bad m =>
              rw [ht] at hK
              obtain ⟨⟨z, rfl⟩, rfl⟩ := hK
              have hfin := HBAD.out m ht
              have hml := (tok_bad ht).1
              rw [List.length_drop] at hml
              have HFIN := Lib.hid hfin
              clear hfin ht
              by_cases he : a + m = l.length
              · have hc : codeOf (l.drop (a + m)) = 4 := by rw [he, List.drop_length]; rfl
                have HC := Lib.hid hc
                have be : (((a : Nat) : Int) + ((m : Nat) : Int) == ((l.length : Nat) : Int)) = true := by simp; omega
                clear hc
                have HE := Lib.hid he
                clear he
                go_wp2_with fail
                go_ret3
                refine ⟨SR.out.below, ?_⟩
                rw [HFIN.out, HC.out]
                exact ⟨a + m, by omega, rfl, rfl⟩
              · have hc : codeOf (l.drop (a + m)) = 6 := codeOf_cons (by rw [List.length_drop]; omega)
                have HC := Lib.hid hc
                have be : (((a : Nat) : Int) + ((m : Nat) : Int) == ((l.length : Nat) : Int)) = false := by simp; omega
                clear hc he
                go_wp2_with fail
                go_ret3
                refine ⟨SR.out.below, ?_⟩
                rw [HFIN.out, HC.out]
                exact ⟨a + m, by omega, rfl, rfl⟩
            | ok k' t v' n =>
              rw [ht] at hK
              obtain ⟨rfl, rfl, rfl, rfl⟩ := hK
              have hnn := tok_n ht
              rw [List.length_drop] at hnn
              have hwh := (tok_ext (r := []) ht (.inl rfl)).2
              have hfin := HTOK.out k t v n ht
              have hnl : a + n ≤ l.length := by omega
              have hx : (strL l).extract a (a + n) = strL (wholeOf k t) := by
                rw [strL_extract, ← hwh, List.drop_take, Nat.add_sub_cancel_left]
              have hwl : (wholeOf k t).length = n := by rw [← hwh, List.length_take, List.length_drop]; omega
              have hRS : ∀ (W' : World) (out' : Value), W'.ownsRow w.heap.size 38 4 out' (ws ++ [(⟨k, t, v, a⟩ : RTk)]).length (rCells (ws ++ [⟨k, t, v, a⟩])) → Below w.heap.size w W' → RS w W' l R out' (ws ++ [⟨k, t, v, a⟩]) (a + n) := fun W' out' h1 h2 =>
                ⟨h1, h2, hnl, by have := SR.out.few; simp; omega, fun x hx => by
                  rcases List.mem_append.1 hx with h | h
                  · exact SR.out.ats x h
                  · rw [List.mem_singleton] at h; subst h; exact hle, hfin⟩
              have HRS := Lib.hid hRS
              have TL := Lib.hid (show ws.length ≤ 1048576 by have := SR.out.few; omega)
              have hm1 : ((-1 : Int) == ((l.length : Nat) : Int)) = false := by simp
              have q0 := QR.out.c0
              have q1 := QR.out.c1
              have q2 := QR.out.c2
              have q3 := QR.out.c3
              have f1 := QR.out.fr 1
              by_cases hk : k = 3
              · subst hk
                have hw3 : wholeOf ((3 : Nat) : Int) t = 34 :: t ++ [34] := if_pos rfl
                obtain ⟨T, hT⟩ : ∃ T, t.length = T := ⟨_, rfl⟩
                have hnT : n = T + 2 := by rw [← hwl, hw3]; simp; omega
                have hx2 : (strL l).extract (a + 1) (a + (T + 1)) = strL t := by
                  have e : (l.drop a).take n = 34 :: t ++ [34] := hwh.trans hw3
                  have e2 : (l.take (a + (T + 1))).drop (a + 1) = (((l.drop a).take n).drop 1).take T := by
                    rw [hnT]
                    simp only [List.drop_take, List.take_take, List.drop_drop]
                    congr 1; omega
                  rw [strL_extract, e2, e]
                  simp [← hT]
                subst hnT
                clear hwl hfin hRS hwh ht hw3 hT
                go_upto_region 33 with fail
                have hq5 := (QR.out.set1 (.string (strL (wholeOf 3 t)))).set1 (.string (strL t))
                have hs5 := (SR.out.setNew NEW.out.2 NEW.out.1 1 (.string (strL (wholeOf 3 t)))).setNew NEW.out.2 NEW.out.1 1 (.string (strL t))
                generalize (wc.setCell ⟨tb, 1, none⟩ (.string (strL (wholeOf 3 t)))).setCell ⟨tb, 1, none⟩ (.string (strL t)) = w5 at hq5 hs5 ⊢
                have r0 := hq5.c0
                have r1 := hq5.c1
                have r2 := hq5.c2
                have r3 := hq5.c3
                have hal := (Below.refl w5.heap.size w5).alloc (Nat.le_refl _) (.cells #[.int .i64 3, .string (strL t), .int .i64 ((v : Nat) : Int), .int .i64 ((a : Nat) : Int)] 38)
                have hcn : ∀ j u, (RTk.cells ⟨3, t, v, a⟩)[j]? = some u → (w5.alloc (.cells #[.int .i64 3, .string (strL t), .int .i64 ((v : Nat) : Int), .int .i64 ((a : Nat) : Int)] 38)).cell? ((⟨w5.heap.size, 0, none⟩ : Addr).add j) = some u := fun j u hu => by
                  rw [add_at, Nat.zero_add, cell_new_at w5 _ 38 _ j rfl]
                  simpa [RTk.cells] using hu
                have hone : ∀ u ∈ RTk.cells ⟨3, t, v, a⟩, u.oneCell' = true := fun u hu => by
                  simp only [RTk.cells, List.mem_cons, List.not_mem_nil, or_false] at hu
                  rcases hu with rfl | rfl | rfl | rfl <;> rfl
                have hrow := Rest.row (S := fun _ => False) (Rest.below hal) hs5.row (fun _ _ e => e)
                have HCN := Lib.hid hcn
                have HONE := Lib.hid hone
                have HROW := Lib.hid hrow
                have HAL := Lib.hid hal
                have S5 := Lib.hid hs5
                have SZ := Lib.hid (Nat.le_trans hs5.below.size hal.size)
                clear hq5 hs5 hal hcn hone hrow q0 q1 q2 q3 f1 SR QR
                go_wp2_with (at_builtin; go_must (refine wpList_append_own_at _ rfl _ _ 29 rfl w.heap.size 38 i0 (.agg #[.int .i64 0, .string ⟨#[]⟩, .int .i64 0, .int .i64 0]) 4 40 Try.underlying29 HI.out HZ.out.1 HZ.out.2.1 HZ.out.2.2 rfl (by decide) _ _ _ rfl HROW.out ⟨w5.heap.size, 0, none⟩ 1 1 (RTk.cells ⟨3, t, v, a⟩) rfl rfl HCN.out HONE.out (by have := TL.out; unfold maxLen; omega) (by have := TL.out; omega) SZ.out ?_); go_must (intro v1 w6 hown1 hgrow1 _ _); have HO := Lib.hid hown1; have HG := Lib.hid hgrow1; clear hown1 hgrow1)
                have hr6 : Rest (fun q => some q = (Value.slice A ws.length c).ownBlock) _ w6 := (Rest.refl _ _).grown HG.out (fun q e _ => e.symm)
                have hb6 := (S5.out.below.trans (HAL.out.mono S5.out.below.size)).trans (hr6.toBelow w.heap.size SZ.out (fun q hq e => by have := row_ge S5.out.row q e.symm; omega))
                have HB6 := Lib.hid hb6
                clear hr6 hb6
                go_roundw
                case rel =>
                  refine ⟨ws ++ [⟨3, t, v, a⟩], a + (T + 2), by first | rfl | go_num, HRS.out _ _ ?_ HB6.out⟩
                  rw [rCells_snoc, List.length_append]
                  exact HO.out
                case measure => simp [intOf]; omega
              · have hwk : wholeOf ((k : Nat) : Int) t = t := if_neg (by omega)
                rw [hwk] at hx
                have bk : (((k : Nat) : Int) == 3) = false := by simp; omega
                clear hwl hfin hRS hwh ht hwk hk
                go_upto_region 33 with fail
                have hq5 := QR.out.set1 (.string (strL t))
                have hs5 := SR.out.setNew NEW.out.2 NEW.out.1 1 (.string (strL t))
                generalize wc.setCell ⟨tb, 1, none⟩ (.string (strL t)) = w5 at hq5 hs5 ⊢
                have r0 := hq5.c0
                have r1 := hq5.c1
                have r2 := hq5.c2
                have r3 := hq5.c3
                have hal := (Below.refl w5.heap.size w5).alloc (Nat.le_refl _) (.cells #[.int .i64 ((k : Nat) : Int), .string (strL t), .int .i64 ((v : Nat) : Int), .int .i64 ((a : Nat) : Int)] 38)
                have hcn : ∀ j u, (RTk.cells ⟨k, t, v, a⟩)[j]? = some u → (w5.alloc (.cells #[.int .i64 ((k : Nat) : Int), .string (strL t), .int .i64 ((v : Nat) : Int), .int .i64 ((a : Nat) : Int)] 38)).cell? ((⟨w5.heap.size, 0, none⟩ : Addr).add j) = some u := fun j u hu => by
                  rw [add_at, Nat.zero_add, cell_new_at w5 _ 38 _ j rfl]
                  simpa [RTk.cells] using hu
                have hone : ∀ u ∈ RTk.cells ⟨k, t, v, a⟩, u.oneCell' = true := fun u hu => by
                  simp only [RTk.cells, List.mem_cons, List.not_mem_nil, or_false] at hu
                  rcases hu with rfl | rfl | rfl | rfl <;> rfl
                have hrow := Rest.row (S := fun _ => False) (Rest.below hal) hs5.row (fun _ _ e => e)
                have HCN := Lib.hid hcn
                have HONE := Lib.hid hone
                have HROW := Lib.hid hrow
                have HAL := Lib.hid hal
                have S5 := Lib.hid hs5
                have SZ := Lib.hid (Nat.le_trans hs5.below.size hal.size)
                clear hq5 hs5 hal hcn hone hrow q0 q1 q2 q3 f1 SR QR
                go_wp2_with (at_builtin; go_must (refine wpList_append_own_at _ rfl _ _ 29 rfl w.heap.size 38 i0 (.agg #[.int .i64 0, .string ⟨#[]⟩, .int .i64 0, .int .i64 0]) 4 40 Try.underlying29 HI.out HZ.out.1 HZ.out.2.1 HZ.out.2.2 rfl (by decide) _ _ _ rfl HROW.out ⟨w5.heap.size, 0, none⟩ 1 1 (RTk.cells ⟨k, t, v, a⟩) rfl rfl HCN.out HONE.out (by have := TL.out; unfold maxLen; omega) (by have := TL.out; omega) SZ.out ?_); go_must (intro v1 w6 hown1 hgrow1 _ _); have HO := Lib.hid hown1; have HG := Lib.hid hgrow1; clear hown1 hgrow1)
                have hr6 : Rest (fun q => some q = (Value.slice A ws.length c).ownBlock) _ w6 := (Rest.refl _ _).grown HG.out (fun q e _ => e.symm)
                have hb6 := (S5.out.below.trans (HAL.out.mono S5.out.below.size)).trans (hr6.toBelow w.heap.size SZ.out (fun q hq e => by have := row_ge S5.out.row q e.symm; omega))
                have HB6 := Lib.hid hb6
                clear hr6 hb6
                go_roundw
                case rel =>
                  refine ⟨ws ++ [⟨k, t, v, a⟩], a + n, by first | rfl | go_num, HRS.out _ _ ?_ HB6.out⟩
                  rw [rCells_snoc, List.length_append]
                  exact HO.out
                case measure => simp [intOf]; omega
    · obtain rfl : a = l.length := by omega
      have hfin := S.out.eq
      rw [List.drop_length, scanT_nil] at hfin
      have FIN := Lib.hid hfin
      clear hfin
      go_wp2_with fail
      go_ret3
      refine ⟨S.out.below, ?_⟩
      rw [FIN.out]
      exact ⟨ws, _, by simp, S.out.ats, rfl, S.out.row⟩
end Go.Proofs.Ytgdjfifnnhfonaa
