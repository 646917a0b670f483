/- The document's answers: numbers that begin with a digit but 0. Conditions: an index lies in the text. -/
import Derived.Test.YtgdjfifnnhfonaaRd
namespace Go.Proofs.Ytgdjfifnnhfonaa
open Go.RowKit Go.Shelf

set_option maxRecDepth 100000 in
set_option maxHeartbeats 3200000 in
theorem refNumber_dec (l : List UInt8) (a : Nat) (w : World) (h1 : a < l.length) (y : Nat) (hx0 : l[a].toNat = y) (hy : isDig y = true) (hy48 : y ≠ 48) (hl : l.length ≤ 1099511627776) (hp : preB [48, 120] (l.drop a) = false) :
    Calls Try.prog 31 #[.string (strL l), .int .i64 a] w (NumP l a w) := by
  have hs : (strL l).size = l.length := strL_size l
  have hsa : a < (strL l).size := by rw [hs]; omega
  have hg0 : (strL l)[a].toNat = y := (congrArg UInt8.toNat (strL_get l a hsa)).trans hx0
  have hf0 : firstOf (l.drop a) = y := (firstOf_at l a h1).trans hx0
  have hR : numberR (l.drop a) = numTail (l.drop a) (digs 10 (l.drop a) 0).1 ((l.drop a).take (digs 10 (l.drop a) 0).1) (digs 10 (l.drop a) 0).2 := by
    unfold numberR
    rw [hf0, if_pos hy, hp, if_neg (by simp), if_neg hy48]
  have HR := Lib.hid hR
  have HL := Lib.hid hl
  have y48 : (((y : Nat) : Int) == 48) = false := by simp; omega
  clear hR hf0 hp hx0 hy
  go_enter Try.func31, Try.ntmps31
  go_wp2_with fail
  go_loopw [8, 9, 10] (fun x v' d' wr => ∃ k v : Nat, a + k ≤ l.length ∧ v ≤ 4611686018427387904 ∧ digs 10 (l.drop a) 0 = (k + (digs 10 (l.drop (a + k)) v).1, (digs 10 (l.drop (a + k)) v).2) ∧ x = .int .i64 ((a + k : Nat) : Int) ∧ v' = .int .i64 ((v : Nat) : Int) ∧ wr = w) (fun x _ _ _ => l.length - (intOf x).toNat)
  case atStart => exact ⟨0, 0, by omega, by omega, by simp, by go_num, rfl, rfl⟩
  case round =>
    obtain ⟨k, v, hak, hv, hdk, rfl, rfl, rfl⟩ := hrel
    have HDK := Lib.hid hdk
    clear hdk
    have tail : ∀ (hn : digs 10 (l.drop a) 0 = (k, v)) (e : Ending) (w' : World), w' = wr → e = (if isWrd (firstOf (l.drop (a + k))) then .returned (.tuple #[.int .i64 0, .int .i64 0, .int .i64 ((a + k : Nat) : Int)]) else .returned (.tuple #[.int .i64 ((v : Nat) : Int), .int .i64 ((a + k : Nat) : Int), .int .i64 (-1)])) → NumP l a wr e w' := by
      rintro hn e w' rfl rfl
      refine ⟨rfl, ?_⟩
      rw [HR.out, hn]
      simp only [numTail, List.drop_drop]
      cases isWrd (firstOf (l.drop (a + k))) <;> simp
    have TAIL := Lib.hid tail
    clear tail
    by_cases hlt : a + k < l.length
    · have hsk : a + k < (strL l).size := by rw [hs]; omega
      obtain ⟨z, hz⟩ : ∃ z, l[a + k].toNat = z := ⟨_, rfl⟩
      have hgk : (strL l)[a + k].toNat = z := (congrArg UInt8.toNat (strL_get l (a + k) hsk)).trans hz
      have hz5 : z ≤ 255 := by have := l[a + k].toNat_lt; omega
      have hdg := digs_at 10 l (a + k) v hlt z hz
      have hfz : firstOf (l.drop (a + k)) = z := (firstOf_at l (a + k) hlt).trans hz
      have HX := fun w => Lib.hid ((refHex_any z hz5 w).mono (fun e w' h => (⟨h.1, h.2.symm⟩ : _ ∧ w = w')))
      have HW := fun w => Lib.hid ((refWordly_any z w).mono (fun e w' h => (⟨h.1, h.2.symm⟩ : _ ∧ w = w')))
      rw [hfz] at TAIL
      by_cases hd : digOf z < 16
      · have hwz : isWrd z = true := wrd_of_hex z hd
        rw [hexI_lt hd] at HX
        obtain ⟨d, hdd⟩ : ∃ d, digOf z = d := ⟨_, rfl⟩
        rw [hdd] at HX hd hdg
        rw [hwz] at HW TAIL
        have dd0 : decide (((d : Nat) : Int) < 0) = false := decide_eq_false (by omega)
        by_cases h10 : d < 10
        · obtain ⟨qt, hqt⟩ : ∃ qt : Nat, (4611686018427387904 - d) / 10 = qt := ⟨_, rfl⟩
          obtain ⟨M, hM⟩ : ∃ M : Nat, 4611686018427387904 - d = M := ⟨_, rfl⟩
          have hwr2 : ((4611686018427387904 : Int) - (d : Nat)) = (M : Nat) := by omega
          have htd : Int.tdiv ((M : Nat) : Int) 10 = (qt : Nat) := by
            rw [show (10 : Int) = ((10 : Nat) : Int) by rfl, ← Int.ofNat_tdiv, ← hM, hqt]
          have hqM : qt ≤ 4611686018427387904 := by rw [← hqt]; exact Nat.le_trans (Nat.div_le_self _ _) (by omega)
          have hMM : M ≤ 4611686018427387904 := by omega
          have hf : fitsD 10 v d = decide (v ≤ qt) := by unfold fitsD; rw [hqt]; simp [h10]
          have dd1 : decide (((d : Nat) : Int) < 10) = true := decide_eq_true (by omega)
          by_cases hvq : v ≤ qt
          · have b1 : decide (((qt : Nat) : Int) < ((v : Nat) : Int)) = false := decide_eq_false (by omega)
            have hfs := fits_sum (bv := 10) (v := v) (d := d) (by omega) (by rw [hf]; exact decide_eq_true hvq) (by omega)
            rw [hf, if_pos (decide_eq_true hvq)] at hdg
            have hnx : digs 10 (l.drop a) 0 = (k + 1 + (digs 10 (l.drop (a + (k + 1))) (v * 10 + d)).1, (digs 10 (l.drop (a + (k + 1))) (v * 10 + d)).2) := by
              rw [HDK.out, hdg]
              show (_, _) = (_, _)
              rw [show a + k + 1 = a + (k + 1) by omega]
              simp; omega
            obtain ⟨P, hP⟩ : ∃ P, v * 10 = P := ⟨_, rfl⟩
            rw [hP] at hfs hnx
            have hmul : (10 : Int) * ((v : Nat) : Int) = ((P : Nat) : Int) := by rw [← hP]; push_cast; omega
            have HNX := Lib.hid hnx
            have HLT := Lib.hid hlt
            have HFS := Lib.hid hfs
            clear TAIL hdg hfz hz hf hwz hnx hP hqt hM hdd
            by_cases hk1 : k = 1
            · subst hk1
              go_wp2_with (first | (go_at_call 52; refine ((HX _).out).mono ?_; rintro e w' ⟨rfl, rfl⟩) | (go_at_call 51; refine ((HW _).out).mono ?_; rintro e w' ⟨rfl, rfl⟩))
              go_roundw
              case rel => exact ⟨1 + 1, P + d, HLT.out, HFS.out, HNX.out, by go_num, by go_num, trivial⟩
              case measure => simp [intOf]; omega
            · have hk2 : (((a : Nat) : Int) + ((k : Nat) : Int) == ((a : Nat) : Int) + 1) = false := by simp; omega
              go_wp2_with (first | (go_at_call 52; refine ((HX _).out).mono ?_; rintro e w' ⟨rfl, rfl⟩) | (go_at_call 51; refine ((HW _).out).mono ?_; rintro e w' ⟨rfl, rfl⟩))
              go_roundw
              case rel => exact ⟨k + 1, P + d, HLT.out, HFS.out, HNX.out, by go_num, by go_num, trivial⟩
              case measure => simp [intOf]; omega
          · have b1 : decide (((qt : Nat) : Int) < ((v : Nat) : Int)) = true := decide_eq_true (by omega)
            have hn : digs 10 (l.drop a) 0 = (k, v) := by rw [HDK.out, hdg, hf, if_neg (by simpa using hvq)]; simp
            have HT := Lib.hid (TAIL.out hn)
            clear TAIL hn hdg hfz hz hf hwz hqt hM hdd
            by_cases hk1 : k = 1
            · subst hk1
              go_wp2_with (first | (go_at_call 52; refine ((HX _).out).mono ?_; rintro e w' ⟨rfl, rfl⟩) | (go_at_call 51; refine ((HW _).out).mono ?_; rintro e w' ⟨rfl, rfl⟩))
              refine bodyPost_ret (by simp [results, Try.results31, go_sem]; try rfl) rfl ?_
              exact HT.out _ _ rfl rfl
            · have hk2 : (((a : Nat) : Int) + ((k : Nat) : Int) == ((a : Nat) : Int) + 1) = false := by simp; omega
              go_wp2_with (first | (go_at_call 52; refine ((HX _).out).mono ?_; rintro e w' ⟨rfl, rfl⟩) | (go_at_call 51; refine ((HW _).out).mono ?_; rintro e w' ⟨rfl, rfl⟩))
              refine bodyPost_ret (by simp [results, Try.results31, go_sem]; try rfl) rfl ?_
              exact HT.out _ _ rfl rfl
        · have dd1 : decide (((d : Nat) : Int) < 10) = false := decide_eq_false (by omega)
          have hn : digs 10 (l.drop a) 0 = (k, v) := by rw [HDK.out, hdg, if_neg (by simp [fitsD]; omega)]; simp
          have HT := Lib.hid (TAIL.out hn)
          clear TAIL hn hdg hfz hz hwz hdd
          go_wp2_with (first | (go_at_call 52; refine ((HX _).out).mono ?_; rintro e w' ⟨rfl, rfl⟩) | (go_at_call 51; refine ((HW _).out).mono ?_; rintro e w' ⟨rfl, rfl⟩))
          refine bodyPost_ret (by simp [results, Try.results31, go_sem]; try rfl) rfl ?_
          exact HT.out _ _ rfl rfl
      · rw [hexI_no hd] at HX
        have hn : digs 10 (l.drop a) 0 = (k, v) := by rw [HDK.out, hdg, if_neg (by simp [fitsD]; omega)]; simp
        have HT := Lib.hid (TAIL.out hn)
        clear TAIL hn hdg hfz hz hd
        cases hw : isWrd z <;> rw [hw] at HW HT <;> clear hw <;>
        · go_wp2_with (first | (go_at_call 52; refine ((HX _).out).mono ?_; rintro e w' ⟨rfl, rfl⟩) | (go_at_call 51; refine ((HW _).out).mono ?_; rintro e w' ⟨rfl, rfl⟩))
          refine bodyPost_ret (by simp [results, Try.results31, go_sem]; try rfl) rfl ?_
          exact HT.out _ _ rfl rfl
    · have he : a + k = l.length := by omega
      have hn : digs 10 (l.drop a) 0 = (k, v) := by rw [HDK.out, he, List.drop_length]; rfl
      have HT := Lib.hid (TAIL.out hn)
      have HE := Lib.hid he
      clear TAIL hn he
      go_wp2_with fail
      refine bodyPost_ret (by simp [results, Try.results31, go_sem]; try rfl) rfl ?_
      refine HT.out _ _ rfl ?_
      rw [show firstOf (l.drop (a + k)) = 0 by rw [HE.out, firstOf_end]]
      rfl
end Go.Proofs.Ytgdjfifnnhfonaa
