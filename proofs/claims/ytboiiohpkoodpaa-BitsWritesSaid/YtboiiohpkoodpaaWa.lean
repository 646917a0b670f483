/- write on a writer in memory: its code, and the bit string behind it. Conditions: the writer holds at most 8388608 bits, the call's kind is below 256, and it has at most 1099511627776 bytes. -/
import Derived.Test.YtboiiohpkoodpaaOp
namespace Go.Proofs.Ytboiiohpkoodpaa
open Go.RowKit Go.Shelf

/-- The code of a call. -/
def wCode (l : List Bool) (d : ActD) : Int :=
  if d.kd % 4 = 0 then putCode l.length d.V d.N else if d.kd % 4 = 1 then littleCode l.length d.V d.N else if d.kd % 4 = 2 then bytesCode l.length d.B.length else alignCode l.length d.N
/-- What a call adds. -/
def wBits (l : List Bool) (d : ActD) : List Bool :=
  if d.kd % 4 = 0 then digs d.V.toNat d.N.toNat else if d.kd % 4 = 1 then unpack (leBytes d.V.toNat d.N.toNat) else if d.kd % 4 = 2 then unpack d.B else List.replicate (bord l.length d.N.toNat - l.length) false
def wNext (l : List Bool) (d : ActD) : List Bool := if wCode l d = 0 then l ++ wBits l d else l

theorem put_zero_iff {k : Nat} {v n : Int} (h : putCode k v n = 0) : ∃ a m : Nat, v = a ∧ n = m ∧ 1 ≤ m ∧ m ≤ 32 ∧ a < 2 ^ m ∧ k + m ≤ 8388608 := by
  unfold putCode at h
  split at h
  · rename_i hc
    split at h
    · cases h
    · simp [withinB, fitsB] at hc
      obtain ⟨⟨h1, h2⟩, h3, h4⟩ := hc
      obtain ⟨m, rfl⟩ := Int.eq_ofNat_of_zero_le (show 0 ≤ n by omega)
      obtain ⟨a, rfl⟩ := Int.eq_ofNat_of_zero_le h3
      refine ⟨a, m, rfl, rfl, by omega, by omega, ?_, by omega⟩
      simp at h4
      have : ((a : Nat) : Int) < ((2 ^ m : Nat) : Int) := by simpa using h4
      omega
  · cases h

theorem little_zero_iff {k : Nat} {v n : Int} (h : littleCode k v n = 0) : ∃ a m : Nat, v = a ∧ n = m ∧ 1 ≤ m ∧ m ≤ 4 ∧ a < 2 ^ (8 * m) ∧ k % 8 = 0 ∧ k + 8 * m ≤ 8388608 := by
  unfold littleCode at h
  split at h
  · rename_i hc
    split at h
    · rename_i hk
      split at h
      · cases h
      · simp [withinB, fitsB] at hc hk
        obtain ⟨⟨h1, h2⟩, h3, h4⟩ := hc
        obtain ⟨m, rfl⟩ := Int.eq_ofNat_of_zero_le (show 0 ≤ n by omega)
        obtain ⟨a, rfl⟩ := Int.eq_ofNat_of_zero_le h3
        refine ⟨a, m, rfl, rfl, by omega, by omega, ?_, by omega, by omega⟩
        have e : ((8 : Int) * (m : Int)).toNat = 8 * m := by omega
        rw [e] at h4
        have : ((a : Nat) : Int) < ((2 ^ (8 * m) : Nat) : Int) := by simpa using h4
        omega
    · cases h
  · cases h

theorem bytes_zero_iff {k m : Nat} (h : bytesCode k m = 0) : k % 8 = 0 ∧ k + 8 * m ≤ 8388608 := by
  unfold bytesCode at h
  split at h
  · rename_i hk
    split at h
    · cases h
    · simp at hk
      omega
  · cases h

theorem align_zero_iff {k : Nat} {n : Int} (h : alignCode k n = 0) : ∃ m : Nat, n = m ∧ 1 ≤ m ∧ m ≤ 4096 ∧ bord k m ≤ 8388608 := by
  unfold alignCode at h
  split at h
  · rename_i hc
    split at h
    · cases h
    · rename_i hr
      simp [withinB] at hc
      obtain ⟨m, rfl⟩ := Int.eq_ofNat_of_zero_le (show 0 ≤ n by omega)
      refine ⟨m, rfl, by omega, by omega, ?_⟩
      have := bord_int k m (by omega)
      rw [this] at hr
      omega
  · cases h

theorem wNext_length (l : List Bool) (d : ActD) (hl : l.length ≤ 8388608) : (wNext l d).length ≤ 8388608 := by
  unfold wNext
  split
  · rename_i h
    unfold wCode at h
    unfold wBits
    split
    · rename_i hk
      rw [if_pos hk] at h
      obtain ⟨a, m, e1, e2, h1, h2, h3, h4⟩ := put_zero_iff h
      rw [e1, e2, List.length_append, digs_length]
      simpa using h4
    · rename_i hk
      rw [if_neg hk] at h
      split
      · rename_i hk1
        rw [if_pos hk1] at h
        obtain ⟨a, m, e1, e2, h1, h2, h3, h4, h5⟩ := little_zero_iff h
        rw [e1, e2, List.length_append, unpack_length, leBytes_length]
        simpa using h5
      · rename_i hk1
        rw [if_neg hk1] at h
        split
        · rename_i hk2
          rw [if_pos hk2] at h
          obtain ⟨h1, h2⟩ := bytes_zero_iff h
          rw [List.length_append, unpack_length]
          exact h2
        · rename_i hk2
          rw [if_neg hk2] at h
          obtain ⟨m, e, h1, h2, h3⟩ := align_zero_iff h
          rw [e, List.length_append, List.length_replicate]
          have := bord_ge l.length m h1
          simp
          omega
  · exact hl

/-- What write leaves. -/
def WroteA (b : Nat) (v : Value) (l : List Bool) (d : ActD) (w : World) (e : Ending) (w' : World) : Prop :=
  e = .returned (.int .i64 (wCode l d)) ∧ ∃ v', WAt w' b v' (wNext l d) ∧ WStep b v v' w w'

theorem write_any (b : Nat) (v : Value) (l : List Bool) (d : ActD) (w : World) (h : WAt w b v l) (hl : l.length ≤ 8388608) (hs : SrcE w (.slice d.A d.B.length d.c) d.B) (hB : ∀ x ∈ d.B, x < 256) (hk : d.kd ≤ 255) (hm : d.B.length ≤ 1099511627776) :
    Calls Try.prog 13 #[.pointer (some ⟨b, 0, none⟩), .agg #[.int .u8 d.kd, .int .i64 d.V, .int .i64 d.N, .slice d.A d.B.length d.c]] w (WroteA b v l d w) := by
  have hb := actBox_below w d.kd d.V d.N d.A d.B.length d.c
  obtain ⟨wa, hwa⟩ : ∃ wa, actBox w d.kd d.V d.N d.A d.B.length d.c = wa := ⟨_, rfl⟩
  rw [hwa] at hb
  have hW := h.below hb
  have hS := hs.later hb
  have step : ∀ {v' : Value} {l' : List Bool} {w' : World}, l' = wNext l d → WAt w' b v' l' → WStep b v v' wa w' → ∃ v', WAt w' b v' (wNext l d) ∧ WStep b v v' w w' := by
    intro v' l' w' e h1 h2
    subst e
    exact ⟨v', h1, (WStep.below hb).trans h2⟩
  refine (write_gen (.pointer (some ⟨b, 0, none⟩)) d.kd d.V d.N d.A d.B.length d.c w (by omega) (by omega) (fun c w' => c = wCode l d ∧ ∃ v', WAt w' b v' (wNext l d) ∧ WStep b v v' w w') ?_ ?_ ?_ ?_).mono ?_
  · intro hk0
    rw [hwa]
    have hk0' : d.kd % 4 = 0 := by omega
    have hcode : wCode l d = putCode l.length d.V d.N := by unfold wCode; rw [if_pos hk0']
    by_cases hc : putCode l.length d.V d.N = 0
    · obtain ⟨a, m, e1, e2, h1, h2, h3, h4⟩ := put_zero_iff hc
      have hn : wNext l d = l ++ digs a m := by unfold wNext; rw [hcode, if_pos hc]; unfold wBits; rw [if_pos hk0', e1, e2]; simp
      rw [e1, e2] at hc ⊢
      refine (put_ok b v l a m _ hW hl hc h2 h3 h4).mono ?_
      rintro e w' ⟨rfl, v', hw1, hw2⟩
      exact ⟨0, rfl, by rw [hcode, e1, e2, hc], step hn.symm hw1 hw2⟩
    · have hn : wNext l d = l := by unfold wNext; rw [hcode, if_neg hc]
      refine (put_err b v l d.V d.N _ hW hl hc).mono ?_
      rintro e w' ⟨rfl, v', hw1, hw2⟩
      exact ⟨_, rfl, hcode.symm, step hn.symm hw1 hw2⟩
  · intro hk0
    rw [hwa]
    have hk0' : d.kd % 4 = 1 := by omega
    have hk00 : ¬ d.kd % 4 = 0 := by omega
    have hcode : wCode l d = littleCode l.length d.V d.N := by unfold wCode; rw [if_neg hk00, if_pos hk0']
    by_cases hc : littleCode l.length d.V d.N = 0
    · obtain ⟨a, m, e1, e2, h1, h2, h3, h4, h5⟩ := little_zero_iff hc
      have hn : wNext l d = l ++ unpack (leBytes a m) := by unfold wNext; rw [hcode, if_pos hc]; unfold wBits; rw [if_neg hk00, if_pos hk0', e1, e2]; simp
      have ha32 : a < 4294967296 := Nat.lt_of_lt_of_le h3 (Nat.pow_le_pow_right (n := 2) (by omega) (show 8 * m ≤ 32 by omega))
      rw [e1, e2] at hc ⊢
      refine (little_ok b v l a m _ hW hl hc h1 h2 ha32 h4 h5).mono ?_
      rintro e w' ⟨rfl, v', hw1, hw2⟩
      exact ⟨0, rfl, by rw [hcode, e1, e2, hc], step hn.symm hw1 hw2⟩
    · have hn : wNext l d = l := by unfold wNext; rw [hcode, if_neg hc]
      refine (little_err b v l d.V d.N _ hW hl hc).mono ?_
      rintro e w' ⟨rfl, v', hw1, hw2⟩
      exact ⟨_, rfl, hcode.symm, step hn.symm hw1 hw2⟩
  · intro hk0
    rw [hwa]
    have hk0' : d.kd % 4 = 2 := by omega
    have hk00 : ¬ d.kd % 4 = 0 := by omega
    have hk01 : ¬ d.kd % 4 = 1 := by omega
    have hcode : wCode l d = bytesCode l.length d.B.length := by unfold wCode; rw [if_neg hk00, if_neg hk01, if_pos hk0']
    by_cases hc : bytesCode l.length d.B.length = 0
    · obtain ⟨h1, h2⟩ := bytes_zero_iff hc
      have hn : wNext l d = l ++ unpack d.B := by unfold wNext; rw [hcode, if_pos hc]; unfold wBits; rw [if_neg hk00, if_neg hk01, if_pos hk0']
      refine (bytes_okE b v l _ d.B _ hW hS hl hB h1 h2).mono ?_
      rintro e w' ⟨rfl, v', hw1, hw2⟩
      exact ⟨0, rfl, by rw [hcode, hc], step hn.symm hw1 hw2⟩
    · have hn : wNext l d = l := by unfold wNext; rw [hcode, if_neg hc]
      refine (bytes_err b v l d.A d.B.length d.c _ hW hl hm hc).mono ?_
      rintro e w' ⟨rfl, v', hw1, hw2⟩
      exact ⟨_, rfl, hcode.symm, step hn.symm hw1 hw2⟩
  · intro hk0
    rw [hwa]
    have hk00 : ¬ d.kd % 4 = 0 := by omega
    have hk01 : ¬ d.kd % 4 = 1 := by omega
    have hk02 : ¬ d.kd % 4 = 2 := by omega
    have hcode : wCode l d = alignCode l.length d.N := by unfold wCode; rw [if_neg hk00, if_neg hk01, if_neg hk02]
    by_cases hc : alignCode l.length d.N = 0
    · obtain ⟨m, e1, h1, h2, h3⟩ := align_zero_iff hc
      have hn : wNext l d = l ++ List.replicate (bord l.length m - l.length) false := by unfold wNext; rw [hcode, if_pos hc]; unfold wBits; rw [if_neg hk00, if_neg hk01, if_neg hk02, e1]; simp
      rw [e1] at hc ⊢
      refine (align_ok b v l m _ hW hl hc h1 h2 h3).mono ?_
      rintro e w' ⟨rfl, v', hw1, hw2⟩
      exact ⟨0, rfl, by rw [hcode, e1, hc], step hn.symm hw1 hw2⟩
    · have hn : wNext l d = l := by unfold wNext; rw [hcode, if_neg hc]
      refine (align_err b v l d.N _ hW hl hc).mono ?_
      rintro e w' ⟨rfl, v', hw1, hw2⟩
      exact ⟨_, rfl, hcode.symm, step hn.symm hw1 hw2⟩
  · rintro e w' ⟨c, rfl, rfl, v', h1, h2⟩
    exact ⟨rfl, v', h1, h2⟩
end Go.Proofs.Ytboiiohpkoodpaa
