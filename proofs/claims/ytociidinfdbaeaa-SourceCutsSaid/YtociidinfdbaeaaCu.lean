/- SourceCuts: what Take and Until of two sources with the same buffer give. No conditions: plain facts. -/
import Derived.Test.YtociidinfdbaeaaTw
import Derived.Deep.CutRange
namespace Go.Proofs.Ytociidinfdbaeaa
open Go.RowKit Go.Shelf

/-- A step of a source that holds what follows place T of all bytes. -/
structure Gives (A : List Nat) (T : Nat) (c : Int) (N : List Nat) (k : Nat) : Prop where
  fit : T + k ≤ A.length
  drop : (A.drop T).drop k = A.drop (T + k)
  bytes : ∀ y ∈ N, y ∈ A
  len : N.length ≤ 1000000

theorem gives_none {A : List Nat} {T : Nat} {c : Int} (hT : T ≤ A.length) : Gives A T c [] 0 := ⟨by omega, by simp, by simp, by simp⟩
theorem mem_drop_take {A : List Nat} {T k y : Nat} (h : y ∈ (A.drop T).take k) : y ∈ A := List.mem_of_mem_drop (List.mem_of_mem_take h)

theorem take_gives {A : List Nat} {T : Nat} (hT : T ≤ A.length) (hA : A.length ≤ 1000000) (n : Int) {c : Int} (hc : peekCode 1000 (A.drop T).length false n = c) :
    Gives A T c (takeB c n (A.drop T)) (takeN c n) ∧ (c = 0 → (takeB c n (A.drop T)) = (A.drop T).take (takeB c n (A.drop T)).length ∧ T + (takeB c n (A.drop T)).length ≤ A.length) := by
  by_cases h0 : c = 0
  · subst h0
    obtain ⟨h1, h2⟩ := peekCode_zero hc
    rw [List.length_drop] at h2
    have hl : ((A.drop T).take n.toNat).length = n.toNat := by rw [List.length_take, List.length_drop]; omega
    simp only [takeB, takeN, if_true]
    refine ⟨⟨by omega, by rw [List.drop_drop], fun y hy => mem_drop_take hy, by rw [hl]; omega⟩, fun _ => ⟨by rw [hl], by rw [hl]; omega⟩⟩
  · simp only [takeB, takeN, if_neg h0]
    exact ⟨gives_none hT, fun e => absurd e h0⟩

theorem idxRes_at {x : Nat} {B : List Nat} {i : Nat} (h : idxRes x B = i) : ∃ h : i < B.length, B[i] = x := by
  unfold idxRes at h
  split at h
  · rename_i hl
    have hi : idx x B = i := by omega
    have hl' : i < B.length := by omega
    refine ⟨hl', ?_⟩
    have := List.findIdx_getElem (p := fun c => c == x) (xs := B) (w := hl)
    simp only [beq_iff_eq] at this
    unfold idx at hi
    simp only [hi] at this
    exact this
  · omega

theorem until_gives {A : List Nat} {T : Nat} (hT : T ≤ A.length) (hA : A.length ≤ 1000000) (x : Nat) (n : Int) {c : Int} (hc : untilCode 1000 (A.drop T) false x n = c) :
    Gives A T c (untilB 1000 (A.drop T) false x n) (untilK 1000 (A.drop T) false x n) ∧ (c = 0 → (untilB 1000 (A.drop T) false x n) ++ [x] = (A.drop T).take ((untilB 1000 (A.drop T) false x n).length + 1) ∧ T + (untilB 1000 (A.drop T) false x n).length < A.length) := by
  by_cases h0 : c = 0
  · subst h0
    have hi : ∃ i : Nat, untilI x (A.drop T) n = i ∧ ∃ h : i < ((A.drop T).take (n.toNat + 1)).length, ((A.drop T).take (n.toNat + 1))[i] = x := by
      unfold untilCode at hc
      unfold untilI
      by_cases hneg : idxRes x ((A.drop T).take (n.toNat + 1)) < 0
      · exfalso
        revert hc
        simp only [untilI]
        simp only [hneg, if_true]
        have := few_ne false
        repeat' split
        all_goals simp_all
      · obtain ⟨i, h1, h2⟩ := idxRes_lt hneg
        exact ⟨i, h1, idxRes_at h1⟩
    obtain ⟨i, hi, hl, hx⟩ := hi
    have hl2 : i < (A.drop T).length := by rw [List.length_take] at hl; omega
    have hl3 : T + i < A.length := by rw [List.length_drop] at hl2; omega
    have hlen : ((A.drop T).take i).length = i := by rw [List.length_take]; omega
    simp only [untilB, untilK, hc, if_true, hi, Int.toNat_natCast]
    refine ⟨⟨by omega, by rw [List.drop_drop], fun y hy => mem_drop_take hy, by rw [hlen]; omega⟩, fun _ => ⟨?_, by rw [hlen]; omega⟩⟩
    rw [hlen, List.take_add_one, List.getElem?_eq_getElem hl2]
    rw [List.getElem_take] at hx
    simp [hx]
  · simp only [untilB, untilK, hc, if_neg h0]
    exact ⟨gives_none hT, fun e => absurd e h0⟩

/-- The memory of SourceCuts between two rounds: both sources hold what follows place T. -/
structure Both (w wr : World) (p p2 : Nat) (A : List Nat) (T : Nat) : Prop where
  ex : ∃ v v2, Two w wr p v (A.drop T) 1000 T false p2 v2 (A.drop T) 1000 T false
  lt : T ≤ A.length

theorem Both.later {w w1 w2 : World} {p p2 : Nat} {A : List Nat} {T : Nat} (h : Both w w1 p p2 A T) (hb : Below w1.heap.size w1 w2) : Both w w2 p p2 A T :=
  ⟨by obtain ⟨v, v2, h'⟩ := h.ex; exact ⟨v, v2, h'.later hb⟩, h.lt⟩
theorem Both.below {w w1 : World} {p p2 : Nat} {A : List Nat} {T : Nat} (h : Both w w1 p p2 A T) : Below w.heap.size w w1 := by
  obtain ⟨v, v2, h'⟩ := h.ex
  exact h'.one.below
theorem Both.drewN {w w1 : World} {p p2 : Nat} {A : List Nat} {T : Nat} (h : Both w w1 p p2 A T) (n : Nat) : Both w (w1.drewN n) p p2 A T := h.later (below_drewN _ _)
theorem Both.drew {w w1 : World} {p p2 : Nat} {A : List Nat} {T : Nat} (h : Both w w1 p p2 A T) : Both w w1.drew p p2 A T := h.later (Below.refl _ _).drew

/-- What Take gives at both, one after the other. -/
theorem both_take (w : World) (p p2 : Nat) (A : List Nat) (T : Nat) (hT : T ≤ A.length) (hA : A.length ≤ 1000000) (n : Int) :
    ∃ c N k, Gives A T c N k ∧ (c = 0 → N = (A.drop T).take N.length ∧ T + N.length ≤ A.length)
      ∧ (∀ w1 v v2, Two w w1 p v (A.drop T) 1000 T false p2 v2 (A.drop T) 1000 T false → Calls Try.prog 19 #[.pointer (some ⟨p, 0, none⟩), .int .i64 n] w1 (TookT w p v (A.drop (T + k)) 1000 (T + k) false p2 v2 (A.drop T) 1000 T false c N w1))
      ∧ (∀ w1 v v2, Two w w1 p v (A.drop (T + k)) 1000 (T + k) false p2 v2 (A.drop T) 1000 T false → Calls Try.prog 19 #[.pointer (some ⟨p2, 0, none⟩), .int .i64 n] w1 (TookT w p2 v2 (A.drop (T + k)) 1000 (T + k) false p v (A.drop (T + k)) 1000 (T + k) false c N w1)) := by
  obtain ⟨hg, h0⟩ := take_gives hT hA n rfl
  refine ⟨_, _, _, hg, h0, fun w1 v v2 h => ?_, fun w1 v v2 h => ?_⟩
  · rw [← hg.drop]
    exact take_two h (by omega) n
  · have := take_two h.swap (by omega) n
    rw [hg.drop] at this
    exact this

theorem both_until (w : World) (p p2 : Nat) (A : List Nat) (T : Nat) (hT : T ≤ A.length) (hA : A.length ≤ 1000000) (x : Nat) (n : Int) :
    ∃ c N k, Gives A T c N k ∧ (c = 0 → N ++ [x] = (A.drop T).take (N.length + 1) ∧ T + N.length < A.length)
      ∧ (∀ w1 v v2, Two w w1 p v (A.drop T) 1000 T false p2 v2 (A.drop T) 1000 T false → Calls Try.prog 20 #[.pointer (some ⟨p, 0, none⟩), .int .u8 x, .int .i64 n] w1 (TookT w p v (A.drop (T + k)) 1000 (T + k) false p2 v2 (A.drop T) 1000 T false c N w1))
      ∧ (∀ w1 v v2, Two w w1 p v (A.drop (T + k)) 1000 (T + k) false p2 v2 (A.drop T) 1000 T false → Calls Try.prog 20 #[.pointer (some ⟨p2, 0, none⟩), .int .u8 x, .int .i64 n] w1 (TookT w p2 v2 (A.drop (T + k)) 1000 (T + k) false p v (A.drop (T + k)) 1000 (T + k) false c N w1)) := by
  obtain ⟨hg, h0⟩ := until_gives hT hA x n rfl
  refine ⟨_, _, _, hg, h0, fun w1 v v2 h => ?_, fun w1 v v2 h => ?_⟩
  · rw [← hg.drop]
    exact until_two h (by omega) x n
  · have := until_two h.swap (by omega) x n
    rw [hg.drop] at this
    exact this

theorem left_both {w w1 : World} {p p2 : Nat} {A : List Nat} {T : Nat} (h : Both w w1 p p2 A T) :
    Calls Try.prog 22 #[.pointer (some ⟨p, 0, none⟩)] w1 (fun e w' => e = .returned (.int .i64 ((A.length : Int) - T)) ∧ w1 = w') ∧
    Calls Try.prog 22 #[.pointer (some ⟨p2, 0, none⟩)] w1 (fun e w' => e = .returned (.int .i64 ((A.length : Int) - T)) ∧ w1 = w') := by
  obtain ⟨v, v2, h'⟩ := h.ex
  have hl := h.lt
  have e : (((A.drop T).length : Nat) : Int) = (A.length : Int) - T := by rw [List.length_drop]; omega
  have h1 := left_any p _ _ _ _ _ _ h'.one.at_
  have h2 := left_any p2 _ _ _ _ _ _ h'.two.at_
  rw [e] at h1 h2
  exact ⟨h1, h2⟩

theorem offset_both {w w1 : World} {p p2 : Nat} {A : List Nat} {T : Nat} (h : Both w w1 p p2 A T) :
    Calls Try.prog 21 #[.pointer (some ⟨p, 0, none⟩)] w1 (fun e w' => e = .returned (.int .i64 T) ∧ w1 = w') ∧
    Calls Try.prog 21 #[.pointer (some ⟨p2, 0, none⟩)] w1 (fun e w' => e = .returned (.int .i64 T) ∧ w1 = w') := by
  obtain ⟨v, v2, h'⟩ := h.ex
  exact ⟨offset_any p _ _ _ _ _ _ h'.one.at_, offset_any p2 _ _ _ _ _ _ h'.two.at_⟩

/-- The last Take: all that is left. -/
theorem take_rest {w w1 : World} {p p2 : Nat} {A : List Nat} {T : Nat} (h : Both w w1 p p2 A T) (hA : A.length ≤ 1000) :
    Calls Try.prog 19 #[.pointer (some ⟨p, 0, none⟩), .int .i64 ((A.length : Int) - T)] w1 fun e w' => ∃ a d n, e = .returned (.tuple #[.slice a n d, .int .i64 0]) ∧ SrcAt w' (.slice a n d) (A.drop T) ∧ Below w.heap.size w w' := by
  obtain ⟨v, v2, h'⟩ := h.ex
  have hl := h.lt
  have hlen : (A.drop T).length = A.length - T := List.length_drop
  have hc : peekCode 1000 (A.drop T).length false ((A.length : Int) - T) = 0 := by
    unfold peekCode
    rw [if_neg (by omega), if_neg (by omega), if_neg (by omega)]
  refine (take_two h' (by omega) ((A.length : Int) - T)).mono ?_
  rintro e w' ⟨a, d, v', rfl, hs, _, h2, _⟩
  rw [hc] at hs h2 ⊢
  refine ⟨a, d, _, rfl, ?_, h2.one.below⟩
  have e : takeB 0 ((A.length : Int) - T) (A.drop T) = A.drop T := by
    unfold takeB
    rw [if_pos rfl, List.take_of_length_le (by omega)]
  rw [e] at hs
  rw [e]
  exact hs
end Go.Proofs.Ytociidinfdbaeaa
