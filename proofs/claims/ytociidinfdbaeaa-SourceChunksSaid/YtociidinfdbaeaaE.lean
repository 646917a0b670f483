/- Peek, Take, Skip and Close of a source. Conditions: the source lies in memory. -/
import Derived.Test.YtociidinfdbaeaaD
namespace Go.Proofs.Ytociidinfdbaeaa
open Go.RowKit Go.Shelf

/-- The error of Peek, Take and Skip. -/
def peekCode (L m : Nat) (C : Bool) (n : Int) : Int := if n < 0 then 2 else if n > L then 3 else if (m : Int) < n then fewCode C else 0
theorem refCode_zero {L n : Int} (h : refCode L n 0 = 0) : 0 ≤ n ∧ n ≤ L := by
  unfold refCode at h
  split at h
  · cases h
  · split at h
    · cases h
    · omega
theorem few_ne (C : Bool) : fewCode C ≠ 0 := by cases C <;> decide
theorem peekCode_zero {L m : Nat} {C : Bool} {n : Int} (h : peekCode L m C n = 0) : 0 ≤ n ∧ n ≤ m := by
  unfold peekCode at h
  split at h
  · cases h
  · split at h
    · cases h
    · split at h
      · exact absurd h (few_ne C)
      · omega

theorem Try.ent45 : ∀ args w, (callFunc 45 args).run Try.prog w = .ok (.enter 45 args) w := enters_of Try.func45 (by kernel_rfl) rfl
theorem Try.ent39 : ∀ args w, (callFunc 39 args).run Try.prog w = .ok (.enter 39 args) w := enters_of Try.func39 (by kernel_rfl) rfl
theorem Try.ent43 : ∀ args w, (callFunc 43 args).run Try.prog w = .ok (.enter 43 args) w := enters_of Try.func43 (by kernel_rfl) rfl

/-- What Peek$1 leaves: its variable holds a clone. -/
def Held (w : World) (q : Nat) (B : List Nat) (w' : World) : Prop := ∃ v w2, Fresh w w2 v B ∧ w' = w2.setCell ⟨q, 0, none⟩ v

set_option maxRecDepth 100000 in
set_option maxHeartbeats 800000 in
theorem peek1_any (q : Nat) (s : Value) (B : List Nat) (w : World) (hs : SrcAt w s B) (hq : w.heap[q]? = some (.cells #[.slice none 0 0] 29 (0, 0))) (hl : B.length ≤ 140737488351232) :
    Calls Try.prog 45 #[s, .pointer (some ⟨q, 0, none⟩)] w fun e w' => ∃ c, e = .returned (.int .i64 c) ∧ (c = 0 ∧ Held w q B w') := by
  have HC := Lib.hid (clone_any s B w hs hl)
  have hqlt := (Array.getElem?_eq_some_iff.1 hq).1
  have HQ := Lib.hid hq
  clear hs hq
  go_enter Try.func45, Try.ntmps45
  go_wp2_with fail
  refine HC.out.mono ?_
  rintro e w1 ⟨v, rfl, hf⟩
  have hq1 := (hf.2.1.block q hqlt).trans HQ.out
  have c0 : w1.cell? ⟨q, 0, none⟩ = some (.slice none 0 0) := by simp [World.cell?, hq1]
  have f0 : w1.frozen? ⟨q, 0, none⟩ = false := by simp [World.frozen?, hq1]
  have HF := Lib.hid hf
  rcases hf.2.2 with rfl | ⟨g, c, rfl⟩
  all_goals
    clear hf hq1
    go_wp2
    go_ret
    exact ⟨0, rfl, rfl, _, w1, HF.out, rfl⟩

/-- What Peek answers. -/
def Peeked (L : Nat) (B : List Nat) (C : Bool) (n : Int) (w : World) (e : Ending) (w' : World) : Prop :=
  ∃ s, e = .returned (.tuple #[s, .int .i64 (peekCode L B.length C n)]) ∧ Fresh w w' s (if peekCode L B.length C n = 0 then B.take n.toNat else [])

theorem fresh_nil (w : World) : Fresh w w (.slice none 0 0) [] := ⟨World.ownsRow_nil _ _ _ _, Below.refl _ _, .inl rfl⟩
theorem Fresh.later {w w1 w2 : World} {v : Value} {B : List Nat} (hb : Below w.heap.size w w1) (h : Fresh w1 w2 v B) : Fresh w w2 v B :=
  ⟨Joins.ownsRow_le h.1 hb.size, hb.trans (h.2.1.mono hb.size), h.2.2⟩
theorem Fresh.src {w w' : World} {v : Value} {B : List Nat} (h : Fresh w w' v B) : SrcAt w' v B := .of_row h.1

theorem held_fresh {w w' : World} {B : List Nat} (h : Held (w.alloc (.cells #[.slice none 0 0] 29)) w.heap.size B w') : ∃ v, w'.cell? ⟨w.heap.size, 0, none⟩ = some v ∧ Fresh w w' v B := by
  obtain ⟨v, w2, hf, rfl⟩ := h
  have hq : w2.heap[w.heap.size]? = some (.cells #[.slice none 0 0] 29 (0, 0)) := (hf.2.1.block w.heap.size (by simp)).trans (heap_alloc_new w _)
  have h1 := Fresh.later ((Below.refl _ w).alloc (Nat.le_refl _) (.cells #[.slice none 0 0] 29)) hf
  refine ⟨v, ?_, ⟨ownsRow_setCell_other h1.1 ?_ _, h1.2.1.trans ⟨rfl, rfl, rfl, by simp [World.setCell], fun k hk => Below.heap_setCell _ _ _ _ (by show k ≠ w.heap.size; omega)⟩, h1.2.2⟩⟩
  · have := heap_setCell_same w2 w.heap.size 0 _ 29 v hq
    simp [World.cell?, this]
  · intro e
    have := (hf.1.lt _ e).1
    rw [World.size_alloc] at this
    exact absurd this (by show ¬ (w.heap.size + 1 ≤ w.heap.size); omega)

set_option maxRecDepth 100000 in
set_option maxHeartbeats 800000 in
theorem peek_any (p : Nat) (v : Value) (B : List Nat) (L T : Nat) (n : Int) (C : Bool) (w : World) (h : SAt w p v B L T C) :
    Calls Try.prog 27 #[.pointer (some ⟨p, 0, none⟩), .int .i64 n] w (Peeked L B C n w) := by
  have hfit := h.fit
  have hmax := h.max
  have HR := Lib.hid (refused_any p L n 0 w h.pos (by omega) (by omega) h.max h.c1)
  have H := Lib.hid h
  clear h
  by_cases h1 : refCode L n 0 = 0
  · have hn0 : 0 ≤ n ∧ n ≤ L := refCode_zero h1
    rw [h1] at HR
    have hA := H.out.below ((Below.refl _ w).alloc (Nat.le_refl _) (.cells #[.slice none 0 0] 29))
    by_cases h2 : (B.length : Int) < n
    · have HT := fun f => Lib.hid (there_no p v f B L T n C _ hA h2)
      have hc : peekCode L B.length C n = fewCode C := by unfold peekCode; rw [if_neg (by omega), if_neg (by omega), if_pos h2]
      have HCD := Lib.hid hc
      clear hA h1 hc
      go_enter Try.func27, Try.ntmps27
      go_wp2_with (first | (go_at_call 37; go_must (refine HR.out.mono ?_); rintro e w1 ⟨rfl, rfl⟩) | (go_at_call 38; go_must (refine (HT _).out.mono ?_); rintro e w1 ⟨rfl, rfl⟩))
      go_ret2
      refine ⟨.slice none 0 0, by rw [HCD.out]; rfl, ?_⟩
      rw [HCD.out, if_neg (few_ne C)]
      exact Fresh.later ((Below.refl _ w).alloc (Nat.le_refl _) _) (fresh_nil _)
    · obtain ⟨m, rfl⟩ : ∃ m : Nat, n = m := ⟨n.toNat, by omega⟩
      have hm : m ≤ B.length := by omega
      have hl : (B.take m).length ≤ 140737488351232 := by rw [List.length_take]; omega
      have HT := Lib.hid (there_yes p v B L T m C _ hA hm 45 #[.pointer (some ⟨w.heap.size, 0, none⟩)] Try.ent45 (fun c w' => c = 0 ∧ Held (w.alloc (.cells #[.slice none 0 0] 29)) w.heap.size (B.take m) w') (fun A hb _ => peek1_any w.heap.size _ _ _ hb.src (heap_alloc_new w _) hl))
      have hc : peekCode L B.length C m = 0 := by unfold peekCode; rw [if_neg (by omega), if_neg (by omega), if_neg h2]
      have HCD := Lib.hid hc
      clear hA h1 hc
      go_enter Try.func27, Try.ntmps27
      go_wp2_with (first | (go_at_call 37; go_must (refine HR.out.mono ?_); rintro e w1 ⟨rfl, rfl⟩) | (go_at_call 38; go_must (refine HT.out.mono ?_); rintro e w1 ⟨c, rfl, rfl, hh⟩; obtain ⟨x, hx, hf⟩ := held_fresh hh; have HF := Lib.hid hf; clear hh hf))
      go_ret2
      refine ⟨x, by rw [HCD.out]; rfl, ?_⟩
      rw [HCD.out, if_pos rfl]
      exact HF.out
  · have hc : peekCode L B.length C n = refCode L n 0 := by
      unfold refCode at h1 ⊢
      unfold peekCode
      split
      · rfl
      · rw [if_neg (by assumption)] at h1
        rw [Int.sub_zero] at h1 ⊢
        split
        · rfl
        · rw [if_neg (by assumption)] at h1
          exact absurd rfl h1
    have HCD := Lib.hid hc
    clear hc
    go_enter Try.func27, Try.ntmps27
    go_wp2_with (go_at_call 37; go_must (refine HR.out.mono ?_); rintro e w1 ⟨rfl, rfl⟩)
    go_ret2
    refine ⟨.slice none 0 0, by rw [HCD.out]; rfl, ?_⟩
    rw [HCD.out, if_neg h1]
    exact fresh_nil _
end Go.Proofs.Ytociidinfdbaeaa
