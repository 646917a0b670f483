/- Bytes behind bytes of the call's own, whatever the source; behind an empty slice. No conditions beyond the slices' reach. -/
import Derived.Test.YtfkaghfbngicmaaQm
namespace Go.Proofs.Ytfkaghfbngicmaa
open Go.RowKit Go.Shelf

theorem own_form {w : World} {base : Nat} {e : TypeId} {v : Value} {n : Nat} {xs : List Value} (h : w.ownsRow base e 1 v n xs) : ∃ A c, v = .slice A n c ∧ n ≤ c ∧ c ≤ 9223372036854775807 := by
  rcases h.2 with ⟨rfl, rfl⟩ | ⟨g, cap, cur, rfl, _, _, h1, h2, _⟩
  · exact ⟨none, 0, rfl, Nat.le_refl _, by omega⟩
  · exact ⟨_, cap, rfl, h1, h2⟩

/-- Bytes behind bytes of the call's own. -/
theorem run_append_ownS (ty : TypeId) {w : World} {base : Nat} {v : Value} {n : Nat} {xs : List Nat} (h : w.ownsRow base 5 1 v n (u8s xs)) (hb : base ≤ w.heap.size) {x : Value} {F : List Nat} (hs : SrcAt w x F) (hl : n + F.length ≤ 140737488355328) :
    ∃ v' w', (Builtin.append_ #[22, 22] ty #[v, x]).run Try.prog w = .ok v' w' ∧ w'.ownsRow base 5 1 v' (n + F.length) (u8s (xs ++ F)) ∧ w.grownBy w' v.ownBlock := by
  obtain ⟨i, hi, hz, hsz, hby⟩ := info_parts Try.infB
  rcases hs with ⟨rfl, rfl⟩ | ⟨a, c, rfl, _, hc⟩
  · have hsrc : Src Try.prog 1 22 (.slice none 0 0) 0 (u8s []) w := SrcAt.src (.inl ⟨rfl, rfl⟩)
    rw [← hsz] at hsrc
    refine ⟨v, w, ?_, by simpa using h, ⟨rfl, rfl, rfl, Nat.le_refl _, fun _ _ _ => rfl⟩⟩
    obtain ⟨A, c, rfl, h1, _⟩ := own_form h
    exact run_append_nothing w 22 22 ty 5 i Try.undL hi A n c (by simpa using h1) _ hsrc
  · obtain ⟨v', w', hrun, r1, r2, _⟩ := run_append_own (P := Try.prog) w base 22 ty 5 i (.int .u8 0) 1 1 Try.undL hi hz hsz hby rfl (by decide) v n (u8s xs) h a F.length c (u8s F) (by rw [u8s_length]; omega) hc (one_u8s F) (Nat.le_trans hl (by decide)) (by omega) hb
    exact ⟨v', w', hrun, by rw [u8s_append]; exact r1, r2⟩

/-- Bytes behind an empty slice of the call's own. -/
theorem run_append_zero (ty : TypeId) {w : World} {base g : Nat} (hg : w.heap[g]? = some (.cells #[] 5 (0, 0))) (hbg : base ≤ g) (hb : base ≤ w.heap.size) {x : Value} {F : List Nat} (hs : SrcAt w x F) (hl : F.length ≤ 140737488355328) :
    ∃ v' w', (Builtin.append_ #[22, 22] ty #[.slice (some ⟨g, 0, none⟩) 0 0, x]).run Try.prog w = .ok v' w' ∧ w'.ownsRow base 5 1 v' F.length (u8s F) ∧ Below w.heap.size w w' := by
  obtain ⟨i, hi, hz, hsz, hby⟩ := info_parts Try.infB
  have h0 : w.ownsRow base 5 1 (.slice (some ⟨g, 0, none⟩) 0 0) 0 (u8s []) := ⟨by simp [u8s], .inr ⟨g, 0, #[], rfl, hbg, hg, Nat.le_refl _, by decide, by simp, by simp [u8s]⟩⟩
  by_cases hF : F = []
  · subst hF
    have hsrc : Src Try.prog 1 22 x 0 (u8s []) w := hs.src
    rw [← hsz] at hsrc
    exact ⟨_, w, run_append_nothing w 22 22 ty 5 i Try.undL hi _ 0 0 (by simp) x hsrc, h0, Below.refl _ _⟩
  · have h1 : 1 ≤ F.length := List.length_pos_iff.2 hF
    rcases hs with ⟨_, e⟩ | ⟨a, c, rfl, _, hc⟩
    · exact absurd e hF
    · obtain ⟨v', w', hrun, r1, r2⟩ := run_append_arg_grows (P := Try.prog) w 22 ty 5 i (.int .u8 0) 1 1 Try.undL hi hz hsz hby rfl (by decide) ⟨g, 0, none⟩ 0 0 [] rfl (fun j u hu => by simp at hu) a F.length c (u8s F) (by rw [u8s_length]; omega) hc (by omega) (Nat.le_trans (by omega) (show 140737488355328 ≤ maxLen by decide)) (by omega)
      rw [Nat.zero_add, List.nil_append] at r1
      exact ⟨v', w', hrun, own_mono r1 hb, ⟨r2.os, r2.tape, r2.output, r2.size, fun k hk => r2.block k hk (by simp)⟩⟩

theorem conv_u8 (x : Nat) (hx : x < 256) (w : World) : (convert 3 5 (.int .i64 ((x : Nat) : Int))).run Try.prog w = .ok (.int .u8 ((x : Nat) : Int)) w := by
  have h0 : (0 : Int) ≤ ((x : Nat) : Int) := by omega
  have h1 : ((x : Nat) : Int) < 256 := by omega
  go_simp
  exact Int.emod_eq_of_lt h0 h1
end Go.Proofs.Ytfkaghfbngicmaa
