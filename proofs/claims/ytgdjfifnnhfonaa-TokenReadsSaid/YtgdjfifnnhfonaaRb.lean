/- The document's answers: quoted texts, a byte among others. Conditions: an index lies in the text. -/
import Derived.Test.YtgdjfifnnhfonaaRa
namespace Go.Proofs.Ytgdjfifnnhfonaa
open Go.RowKit Go.Shelf

/-- What the document's quoted answers at an index: the index behind the text, or that of a wrong byte. -/
def QuotP (l : List UInt8) (a : Nat) (w : World) (e : Ending) (w' : World) : Prop := ∃ n, n = spanP isQ (l.drop (a + 1)) ∧ w' = w ∧
  e = .returned (if firstOf (l.drop (a + 1 + n)) = 34 then .tuple #[.int .i64 ((a + 1 + n + 1 : Nat) : Int), .int .i64 (-1)] else .tuple #[.int .i64 0, .int .i64 ((a + 1 + n : Nat) : Int)])

set_option maxRecDepth 100000 in
set_option maxHeartbeats 1600000 in
theorem refQuoted_any (l : List UInt8) (a : Nat) (w : World) (ha : a < l.length) (hl : l.length ≤ 1099511627776) :
    Calls Try.prog 32 #[.string (strL l), .int .i64 a] w (QuotP l a w) := by
  have hs : (strL l).size = l.length := strL_size l
  go_enter Try.func32, Try.ntmps32
  go_wp2_with fail
  go_loopw [6] (fun x wr => ∃ k : Nat, a + 1 + k ≤ l.length ∧ (∀ j (h : j < (l.drop (a + 1)).length), j < k → isQ ((l.drop (a + 1))[j].toNat) = true) ∧ x = .int .i64 ((a + 1 + k : Nat) : Int) ∧ wr = w) (fun x _ => l.length - (intOf x).toNat)
  case atStart => exact ⟨0, ha, fun j h hj => by omega, rfl, rfl⟩
  case round =>
    obtain ⟨k, hak, hall, rfl, rfl⟩ := hrel
    by_cases hlt : a + 1 + k < l.length
    · have hsk : a + 1 + k < (strL l).size := by rw [strL_size]; exact hlt
      have hg : (strL l)[a + 1 + k].toNat = l[a + 1 + k].toNat := congrArg UInt8.toNat (strL_get l (a + 1 + k) hsk)
      obtain ⟨y, hy⟩ : ∃ y, l[a + 1 + k].toNat = y := ⟨_, rfl⟩
      rw [hy] at hg
      have hyk : (l.drop (a + 1))[k]'(by rw [List.length_drop]; omega) = l[a + 1 + k]'hlt := get_drop l (a + 1) k hlt
      have hf : firstOf (l.drop (a + 1 + k)) = y := (firstOf_at l (a + 1 + k) hlt).trans hy
      have hq : ∀ b, isQ y = b → isQ ((l.drop (a + 1))[k]'(by rw [List.length_drop]; omega)).toNat = b := fun b hb => (congrArg (fun b => isQ (UInt8.toNat b)) hyk).trans ((congrArg isQ hy).trans hb)
      have HALL := Lib.hid hall
      have HF := Lib.hid hf
      have HQ := Lib.hid hq
      have HLT := Lib.hid hlt
      clear hall hf hyk hy hq
      have hend : ∀ (hc : isQ y = false), k = spanP isQ (l.drop (a + 1)) := fun hc => (spanP_eq isQ (l.drop (a + 1)) k HALL.out (by rw [List.length_drop]; omega) (fun _ => HQ.out _ hc)).symm
      have HEND := Lib.hid hend
      clear hend
      by_cases h34 : y = 34
      · subst h34
        go_wp2_with fail
        go_ret2
        refine ⟨k, HEND.out rfl, rfl, ?_⟩
        rw [if_pos HF.out]; rfl
      · by_cases h1 : y < 32
        · go_wp2_with fail
          go_ret2
          refine ⟨k, HEND.out (by simp [isQ]; omega), rfl, ?_⟩
          rw [if_neg (by rw [HF.out]; exact h34)]; rfl
        · by_cases h2 : 126 < y
          · go_wp2_with fail
            go_ret2
            refine ⟨k, HEND.out (by simp [isQ]; omega), rfl, ?_⟩
            rw [if_neg (by rw [HF.out]; exact h34)]; rfl
          · have hq : isQ y = true := by simp [isQ]; omega
            have HQ1 := Lib.hid (HQ.out _ hq)
            clear hq
            go_wp2_with fail
            go_roundw
            case rel =>
              refine ⟨k + 1, HLT.out, fun j h hj => ?_, by go_num, trivial⟩
              by_cases hjk : j < k
              · exact HALL.out j h hjk
              · obtain rfl : j = k := by omega
                exact HQ1.out
            case measure => simp [intOf]; omega
    · have hak' : a + 1 + k = l.length := by omega
      have HALL := Lib.hid hall
      have HAK := Lib.hid hak'
      clear hall hak'
      go_wp2_with fail
      go_ret2
      refine ⟨k, (spanP_eq isQ (l.drop (a + 1)) k HALL.out (by rw [List.length_drop]; have := HAK.out; omega) (fun h => by rw [List.length_drop] at h; have := HAK.out; omega)).symm, rfl, ?_⟩
      rw [show firstOf (l.drop (a + 1 + k)) = 0 by rw [HAK.out, firstOf_end]]
      rw [HAK.out]; rfl

/-- A byte among others. -/
def amongB (n : Nat) (l : List UInt8) : Bool := l.any fun b => b.toNat == n

theorem among_no (n : Nat) (l : List UInt8) (h : ∀ j (hj : j < l.length), l[j].toNat ≠ n) : amongB n l = false := by
  unfold amongB
  rw [List.any_eq_false]
  intro x hx
  obtain ⟨j, hj, rfl⟩ := List.getElem_of_mem hx
  simpa using h j hj
theorem among_yes (n : Nat) (l : List UInt8) (j : Nat) (hj : j < l.length) (h : l[j].toNat = n) : amongB n l = true := by
  unfold amongB
  rw [List.any_eq_true]
  exact ⟨l[j], List.getElem_mem hj, by simpa using h⟩

set_option maxRecDepth 100000 in
set_option maxHeartbeats 1600000 in
theorem refAmong_any (n : Nat) (l : List UInt8) (w : World) (hl : l.length ≤ 1099511627776) :
    Calls Try.prog 33 #[.int .u8 ((n : Nat) : Int), .string (strL l)] w fun e w' => e = .returned (.bool (amongB n l)) ∧ w' = w := by
  have hs : (strL l).size = l.length := strL_size l
  obtain ⟨B, hB⟩ : ∃ B, amongB n l = B := ⟨_, rfl⟩
  rw [hB]
  have HB := Lib.hid hB
  clear hB
  go_enter Try.func33, Try.ntmps33
  go_wp2_with fail
  go_loopw [5] (fun x wr => ∃ k : Nat, k ≤ l.length ∧ (∀ j (h : j < l.length), j < k → l[j].toNat ≠ n) ∧ x = .int .i64 ((k : Nat) : Int) ∧ wr = w) (fun x _ => l.length - (intOf x).toNat)
  case atStart => exact ⟨0, Nat.zero_le _, fun j h hj => by omega, rfl, rfl⟩
  case round =>
    obtain ⟨k, hk, hall, rfl, rfl⟩ := hrel
    by_cases hlt : k < l.length
    · have hsk : k < (strL l).size := by rw [strL_size]; exact hlt
      have hg : (strL l)[k].toNat = l[k].toNat := congrArg UInt8.toNat (strL_get l k hsk)
      obtain ⟨y, hy⟩ : ∃ y, l[k].toNat = y := ⟨_, rfl⟩
      rw [hy] at hg
      have HALL := Lib.hid hall
      have HY := Lib.hid hy
      have HLT := Lib.hid hlt
      clear hall hy
      by_cases hyn : y = n
      · subst hyn
        go_wp2_with fail
        go_ret
        exact ⟨ret_bool (by rw [← HB.out, among_yes _ l k HLT.out HY.out]), rfl⟩
      · have HYN := Lib.hid hyn
        go_wp2_with fail
        go_roundw
        case rel =>
          refine ⟨k + 1, HLT.out, fun j h hj => ?_, by go_num, trivial⟩
          by_cases hjk : j < k
          · exact HALL.out j h hjk
          · obtain rfl : j = k := by omega
            exact fun e => HYN.out (HY.out.symm.trans e)
        case measure => simp [intOf]; omega
    · obtain rfl : k = l.length := by omega
      have HALL := Lib.hid hall
      clear hall
      go_wp2_with fail
      go_ret
      exact ⟨ret_bool (by rw [← HB.out, among_no n l (fun j hj => HALL.out j hj hj)]), rfl⟩
end Go.Proofs.Ytgdjfifnnhfonaa
