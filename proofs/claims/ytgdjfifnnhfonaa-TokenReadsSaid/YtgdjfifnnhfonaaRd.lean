/- The document's answers: numbers, hexadecimal. Conditions: an index lies in the text. -/
import Derived.Test.YtgdjfifnnhfonaaRc
namespace Go.Proofs.Ytgdjfifnnhfonaa
open Go.RowKit Go.Shelf

/-- What the document's number answers at an index. -/
def NumP (l : List UInt8) (a : Nat) (w : World) (e : Ending) (w' : World) : Prop := w' = w ∧ match numberR (l.drop a) with
  | .no => False
  | .ok _ _ v n => e = .returned (.tuple #[.int .i64 ((v : Nat) : Int), .int .i64 ((a + n : Nat) : Int), .int .i64 (-1)])
  | .bad m => e = .returned (.tuple #[.int .i64 0, .int .i64 0, .int .i64 ((a + m : Nat) : Int)])

theorem digs_nil (bv v : Nat) : digs bv [] v = (0, v) := rfl
theorem digs_at (bv : Nat) (l : List UInt8) (i v : Nat) (h : i < l.length) (y : Nat) (hy : l[i].toNat = y) : digs bv (l.drop i) v = if fitsD bv v (digOf y) then ((digs bv (l.drop (i + 1)) (v * bv + digOf y)).1 + 1, (digs bv (l.drop (i + 1)) (v * bv + digOf y)).2) else (0, v) := by
  subst hy
  rw [List.drop_eq_getElem_cons h]; rfl
theorem hexI_lt {n : Nat} (h : digOf n < 16) : hexI n = ((digOf n : Nat) : Int) := if_pos h
theorem hexI_no {n : Nat} (h : ¬ digOf n < 16) : hexI n = -1 := if_neg h
theorem wrd_of_hex (n : Nat) (h : digOf n < 16) : isWrd n = true := by
  unfold digOf at h
  split at h
  · rename_i hd; simp [isWrd, hd]
  · split at h
    · rename_i h1; simp [isWrd, isLet]; omega
    · split at h
      · rename_i h1; simp [isWrd, isLet]; omega
      · omega

set_option maxRecDepth 100000 in
set_option maxHeartbeats 3200000 in
theorem refNumber_hex (l : List UInt8) (a : Nat) (w : World) (h1 : a + 1 < l.length) (hx0 : l[a].toNat = 48) (hx1 : l[a + 1].toNat = 120) (hl : l.length ≤ 1099511627776) (hp : preB [48, 120] (l.drop a) = true) :
    Calls Try.prog 31 #[.string (strL l), .int .i64 a] w (NumP l a w) := by
  have hs : (strL l).size = l.length := strL_size l
  have hsa : a < (strL l).size := by rw [hs]; omega
  have hsb : a + 1 < (strL l).size := by rw [hs]; omega
  have hg0 : (strL l)[a].toNat = 48 := (congrArg UInt8.toNat (strL_get l a hsa)).trans hx0
  have hg1 : (strL l)[a + 1].toNat = 120 := (congrArg UInt8.toNat (strL_get l (a + 1) hsb)).trans hx1
  have hf0 : firstOf (l.drop a) = 48 := (firstOf_at l a (by omega)).trans hx0
  have hR : numberR (l.drop a) = if (digs 16 (l.drop (a + 2)) 0).1 = 0 then .bad 2 else numTail (l.drop a) (2 + (digs 16 (l.drop (a + 2)) 0).1) ((l.drop a).take (2 + (digs 16 (l.drop (a + 2)) 0).1)) (digs 16 (l.drop (a + 2)) 0).2 := by
    unfold numberR
    rw [hf0, if_pos (by rfl), if_pos hp, List.drop_drop]
  have HR := Lib.hid hR
  have HL := Lib.hid hl
  clear hR hf0 hp hx0 hx1
  by_cases hlt2 : a + 2 < l.length
  · have hs2 : a + 2 < (strL l).size := by rw [hs]; omega
    have hg2 : (strL l)[a + 2].toNat = l[a + 2].toNat := congrArg UInt8.toNat (strL_get l (a + 2) hs2)
    obtain ⟨y, hy⟩ : ∃ y, l[a + 2].toNat = y := ⟨_, rfl⟩
    have hdg := digs_at 16 l (a + 2) 0 hlt2 y hy
    have hy5 : y ≤ 255 := by have := l[a + 2].toNat_lt; omega
    have HX := fun w => Lib.hid ((refHex_any y hy5 w).mono (fun e w' h => (⟨h.1, h.2.symm⟩ : _ ∧ w = w')))
    by_cases hd : digOf y < 16
    · rw [hexI_lt hd] at HX
      have hn1 : (digs 16 (l.drop (a + 2)) 0).1 ≠ 0 := by
        rw [hdg, if_pos (by simp [fitsD]; omega)]
        simp
      have HN1 := Lib.hid hn1
      have hg2' : (strL l)[a + 2].toNat = y := hg2.trans hy
      obtain ⟨d0, hd0⟩ : ∃ d0, digOf y = d0 := ⟨_, rfl⟩
      rw [hd0] at HX hd
      have dd0 : decide (((d0 : Nat) : Int) < 0) = false := decide_eq_false (by omega)
      have hne2 : (((a : Nat) : Int) + 2 == ((l.length : Nat) : Int)) = false := by simp; omega
      clear hn1 hdg hg2 hy hd0
      go_enter Try.func31, Try.ntmps31
      go_wp2_with (go_at_call 52; refine ((HX _).out).mono ?_; rintro e w' ⟨rfl, rfl⟩)
      go_loopw [8, 9, 10] (fun x v' d' wr => ∃ k v : Nat, a + 2 + k ≤ l.length ∧ v ≤ 4611686018427387904 ∧ digs 16 (l.drop (a + 2)) 0 = (k + (digs 16 (l.drop (a + 2 + k)) v).1, (digs 16 (l.drop (a + 2 + k)) v).2) ∧ x = .int .i64 ((a + 2 + k : Nat) : Int) ∧ v' = .int .i64 ((v : Nat) : Int) ∧ wr = w) (fun x _ _ _ => l.length - (intOf x).toNat)
      case atStart => exact ⟨0, 0, by omega, by omega, by simp, by go_num, rfl, rfl⟩
      case round =>
        obtain ⟨k, v, hak, hv, hdk, rfl, rfl, rfl⟩ := hrel
        clear hg2' dd0 HX hd hs2 hlt2
        have HDK := Lib.hid hdk
        clear hdk
        have tail : ∀ (hn : digs 16 (l.drop (a + 2)) 0 = (k, v)) (e : Ending) (w' : World), w' = wr → e = (if isWrd (firstOf (l.drop (a + 2 + k))) then .returned (.tuple #[.int .i64 0, .int .i64 0, .int .i64 ((a + 2 + k : Nat) : Int)]) else .returned (.tuple #[.int .i64 ((v : Nat) : Int), .int .i64 ((a + 2 + k : Nat) : Int), .int .i64 (-1)])) → NumP l a wr e w' := by
          rintro hn e w' rfl rfl
          refine ⟨rfl, ?_⟩
          rw [HR.out, hn]
          have h0 : ¬ k = 0 := by have := HN1.out; rw [hn] at this; exact this
          simp only [h0, if_false, numTail, List.drop_drop]
          rw [show a + (2 + k) = a + 2 + k by omega]
          cases isWrd (firstOf (l.drop (a + 2 + k))) <;> simp <;> omega
        have TAIL := Lib.hid tail
        clear tail
        by_cases hlt : a + 2 + k < l.length
        · have hsk : a + 2 + k < (strL l).size := by rw [hs]; omega
          obtain ⟨z, hz⟩ : ∃ z, l[a + 2 + k].toNat = z := ⟨_, rfl⟩
          have hgk : (strL l)[a + 2 + k].toNat = z := (congrArg UInt8.toNat (strL_get l (a + 2 + k) hsk)).trans hz
          have hz5 : z ≤ 255 := by have := l[a + 2 + k].toNat_lt; omega
          have hdg := digs_at 16 l (a + 2 + k) v hlt z hz
          have hfz : firstOf (l.drop (a + 2 + k)) = z := (firstOf_at l (a + 2 + k) hlt).trans hz
          have HX := fun w => Lib.hid ((refHex_any z hz5 w).mono (fun e w' h => (⟨h.1, h.2.symm⟩ : _ ∧ w = w')))
          have HW := fun w => Lib.hid ((refWordly_any z w).mono (fun e w' h => (⟨h.1, h.2.symm⟩ : _ ∧ w = w')))
          rw [hfz] at TAIL
          by_cases hd : digOf z < 16
          · have hwz : isWrd z = true := wrd_of_hex z hd
            rw [hexI_lt hd] at HX
            obtain ⟨d, hdd⟩ : ∃ d, digOf z = d := ⟨_, rfl⟩
            rw [hdd] at HX hd hdg
            obtain ⟨qt, hqt⟩ : ∃ qt : Nat, (4611686018427387904 - d) / 16 = qt := ⟨_, rfl⟩
            obtain ⟨M, hM⟩ : ∃ M : Nat, 4611686018427387904 - d = M := ⟨_, rfl⟩
            have hwr2 : ((4611686018427387904 : Int) - (d : Nat)) = (M : Nat) := by omega
            have htd : Int.tdiv ((M : Nat) : Int) 16 = (qt : Nat) := by
              rw [show (16 : Int) = ((16 : Nat) : Int) by rfl, ← Int.ofNat_tdiv, ← hM, hqt]
            have hqM : qt ≤ 4611686018427387904 := by rw [← hqt]; exact Nat.le_trans (Nat.div_le_self _ _) (by omega)
            have hMM : M ≤ 4611686018427387904 := by omega
            have hf : fitsD 16 v d = decide (v ≤ qt) := by unfold fitsD; rw [hqt]; simp [hd]
            have dd0 : decide (((d : Nat) : Int) < 0) = false := decide_eq_false (by omega)
            have dd1 : decide (((d : Nat) : Int) < 16) = true := decide_eq_true (by omega)
            by_cases hvq : v ≤ qt
            · have b1 : decide (((qt : Nat) : Int) < ((v : Nat) : Int)) = false := decide_eq_false (by omega)
              have hfs := fits_sum (bv := 16) (v := v) (d := d) (by omega) (by rw [hf]; exact decide_eq_true hvq) (by omega)
              rw [hf, if_pos (decide_eq_true hvq)] at hdg
              have hnx : digs 16 (l.drop (a + 2)) 0 = (k + 1 + (digs 16 (l.drop (a + 2 + (k + 1))) (v * 16 + d)).1, (digs 16 (l.drop (a + 2 + (k + 1))) (v * 16 + d)).2) := by
                rw [HDK.out, hdg]
                show (_, _) = (_, _)
                rw [show a + 2 + k + 1 = a + 2 + (k + 1) by omega]
                simp; omega
              obtain ⟨P, hP⟩ : ∃ P, v * 16 = P := ⟨_, rfl⟩
              rw [hP] at hfs hnx
              have hmul : (16 : Int) * ((v : Nat) : Int) = ((P : Nat) : Int) := by rw [← hP]; push_cast; omega
              have HNX := Lib.hid hnx
              have HLT := Lib.hid hlt
              have HFS := Lib.hid hfs
              clear TAIL hdg hfz hz hf hwz hnx hP hqt hM hdd
              go_wp2_with (first | (go_at_call 52; refine ((HX _).out).mono ?_; rintro e w' ⟨rfl, rfl⟩) | (go_at_call 51; refine ((HW _).out).mono ?_; rintro e w' ⟨rfl, rfl⟩))
              go_roundw
              case rel => exact ⟨k + 1, P + d, HLT.out, HFS.out, HNX.out, by go_num, by go_num, trivial⟩
              case measure => simp [intOf]; omega
            · have b1 : decide (((qt : Nat) : Int) < ((v : Nat) : Int)) = true := decide_eq_true (by omega)
              have hn : digs 16 (l.drop (a + 2)) 0 = (k, v) := by rw [HDK.out, hdg, hf, if_neg (by simpa using hvq)]; simp
              rw [hwz] at TAIL
              have HT := Lib.hid (TAIL.out hn)
              clear TAIL hn hdg hfz hz hf hwz hqt hM hdd
              go_wp2_with (first | (go_at_call 52; refine ((HX _).out).mono ?_; rintro e w' ⟨rfl, rfl⟩) | (go_at_call 51; refine ((HW _).out).mono ?_; rintro e w' ⟨rfl, rfl⟩))
              refine bodyPost_ret (by simp [results, Try.results31, go_sem]; try rfl) rfl ?_
              exact HT.out _ _ rfl rfl
          · rw [hexI_no hd] at HX
            have hn : digs 16 (l.drop (a + 2)) 0 = (k, v) := by rw [HDK.out, hdg, if_neg (by simp [fitsD]; omega)]; simp
            have HT := Lib.hid (TAIL.out hn)
            clear TAIL hn hdg hfz hz hd
            cases hw : isWrd z <;> rw [hw] at HW HT <;> clear hw <;>
            · go_wp2_with (first | (go_at_call 52; refine ((HX _).out).mono ?_; rintro e w' ⟨rfl, rfl⟩) | (go_at_call 51; refine ((HW _).out).mono ?_; rintro e w' ⟨rfl, rfl⟩))
              refine bodyPost_ret (by simp [results, Try.results31, go_sem]; try rfl) rfl ?_
              exact HT.out _ _ rfl rfl
        · have he : a + 2 + k = l.length := by omega
          have hn : digs 16 (l.drop (a + 2)) 0 = (k, v) := by rw [HDK.out, he, List.drop_length]; rfl
          have HT := Lib.hid (TAIL.out hn)
          have HE := Lib.hid he
          clear TAIL hn he
          go_wp2_with fail
          refine bodyPost_ret (by simp [results, Try.results31, go_sem]; try rfl) rfl ?_
          refine HT.out _ _ rfl ?_
          rw [show firstOf (l.drop (a + 2 + k)) = 0 by rw [HE.out, firstOf_end]]
          rfl
    · have hz : digs 16 (l.drop (a + 2)) 0 = (0, 0) := hdg.trans (if_neg (by simp [fitsD]; omega))
      have HZ := Lib.hid hz
      rw [hexI_no hd] at HX
      have hg2' : (strL l)[a + 2].toNat = y := hg2.trans hy
      clear hdg hz hg2 hy hd
      go_enter Try.func31, Try.ntmps31
      go_wp2_with (go_at_call 52; refine ((HX _).out).mono ?_; rintro e w' ⟨rfl, rfl⟩)
      refine bodyPost_ret (by simp [results, Try.results31, go_sem]; try rfl) rfl ?_
      refine ⟨rfl, ?_⟩
      rw [HR.out, HZ.out]
      rfl
  · have he : a + 2 = l.length := by omega
    have hz : digs 16 (l.drop (a + 2)) 0 = (0, 0) := by rw [he, List.drop_length]; rfl
    have HZ := Lib.hid hz
    have HE := Lib.hid he
    have he2 : (a : Int) + 2 = (l.length : Int) := by omega
    clear hz he
    go_enter Try.func31, Try.ntmps31
    go_wp2_with fail
    refine bodyPost_ret (by simp [results, Try.results31, go_sem]; try rfl) rfl ?_
    refine ⟨rfl, ?_⟩
    rw [HR.out, HZ.out]
    show Ending.returned (.tuple #[.int .i64 0, .int .i64 0, .int .i64 (l.length : Int)]) = Ending.returned (.tuple #[.int .i64 0, .int .i64 0, .int .i64 ((a + 2 : Nat) : Int)])
    rw [HE.out]
end Go.Proofs.Ytgdjfifnnhfonaa
