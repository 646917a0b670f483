/- read on a reader in memory: the number, the bytes and the code, and the place behind it. Conditions: the reader has at most 1048576 bytes, its place lies in them, and the call's kind is below 256. -/
import Derived.Test.YtboiiohpkoodpaaBp
namespace Go.Proofs.Ytboiiohpkoodpaa
open Go.RowKit Go.Shelf

/-- What read leaves. -/
def ReadA (b : Nat) (v : Value) (B : List Nat) (p : Nat) (d : ActD) (w : World) (e : Ending) (w' : World) : Prop :=
  ∃ s, e = .returned (.tuple #[.int .i64 (rVal B p d : Nat), s, .int .i64 (rCode B p d)]) ∧ w'.ownsRow w.heap.size 5 1 s (rBytes B p d).length (u8s (rBytes B p d)) ∧ RLeft b v B (rNext B p d) w w'

theorem read_any (b : Nat) (v : Value) (B : List Nat) (p : Nat) (d : ActD) (w : World) (h : RAt w b v B p) (hB : ∀ c ∈ B, c < 256) (hBl : B.length ≤ 1048576) (hp : p ≤ 8 * B.length) (hk : d.kd ≤ 255) :
    Calls Try.prog 22 #[.pointer (some ⟨b, 0, none⟩), .agg #[.int .u8 d.kd, .int .i64 d.V, .int .i64 d.N, .slice d.A d.B.length d.c]] w (ReadA b v B p d w) := by
  have hb := actBox_below w d.kd d.V d.N d.A d.B.length d.c
  obtain ⟨wa, hwa⟩ : ∃ wa, actBox w d.kd d.V d.N d.A d.B.length d.c = wa := ⟨_, rfl⟩
  rw [hwa] at hb
  have hR := h.below hb
  have step : ∀ {q : Nat} {w' : World}, q = rNext B p d → RLeft b v B q wa w' → RLeft b v B (rNext B p d) w w' := by
    intro q w' e h1
    subst e
    exact ⟨h1.1, (Rest.below hb).trans h1.2 (fun i _ e => e)⟩
  have nil : rBytes B p d = [] → ∀ w' : World, w'.ownsRow w.heap.size 5 1 (.slice none 0 0) (rBytes B p d).length (u8s (rBytes B p d)) := fun e w' => by
    rw [e]; exact ⟨by simp [u8s], .inl ⟨rfl, rfl⟩⟩
  refine (read_gen (.pointer (some ⟨b, 0, none⟩)) d.kd d.V d.N d.A d.B.length d.c w (by omega) (by omega) (fun x s c w' => x = (rVal B p d : Nat) ∧ c = rCode B p d ∧ w'.ownsRow w.heap.size 5 1 s (rBytes B p d).length (u8s (rBytes B p d)) ∧ RLeft b v B (rNext B p d) w w') ?_ ?_ ?_ ?_ ?_).mono ?_
  · intro hk0
    rw [hwa]
    have k0 : d.kd % 5 = 0 := by omega
    have hcode : rCode B p d = getCode B.length p d.N := by unfold rCode; rw [if_pos k0]
    have hby : rBytes B p d = [] := by unfold rBytes; rw [if_neg (show ¬ d.kd % 5 = 2 by omega)]; split <;> rfl
    by_cases hc : getCode B.length p d.N = 0
    · obtain ⟨m, e, h1, h2, h3⟩ := get_zero_iff hc
      have hn : rNext B p d = p + m := by unfold rNext rTo; rw [hcode, if_pos hc, if_pos k0, e]; simp
      have hv : rVal B p d = val (((unpack B).drop p).take m) := by unfold rVal; rw [hcode, if_pos hc, if_pos k0, e]; simp
      rw [e] at hc ⊢
      refine (get_ok b v B p m _ hR hB hBl h1 h2 h3).mono ?_
      rintro e' w' ⟨rfl, hl⟩
      exact ⟨_, 0, rfl, by rw [hv], by rw [hcode, e, hc], nil hby w', step hn.symm hl⟩
    · have hn : rNext B p d = p := by unfold rNext; rw [hcode, if_neg hc]
      have hv : rVal B p d = 0 := by unfold rVal; rw [hcode, if_neg hc]
      refine (get_err b v B p d.N _ hR hBl hp hc).mono ?_
      rintro e' w' ⟨rfl, hl⟩
      exact ⟨0, _, rfl, by rw [hv]; rfl, hcode.symm, nil hby w', step hn.symm hl⟩
  · intro hk0
    rw [hwa]
    have k0 : d.kd % 5 = 1 := by omega
    have n0 : ¬ d.kd % 5 = 0 := by omega
    have hcode : rCode B p d = rlittleCode B.length p d.N := by unfold rCode; rw [if_neg n0, if_pos k0]
    have hby : rBytes B p d = [] := by unfold rBytes; rw [if_neg (show ¬ d.kd % 5 = 2 by omega)]; split <;> rfl
    by_cases hc : rlittleCode B.length p d.N = 0
    · obtain ⟨m, e, h1, h2, h3, h4⟩ := rlittle_zero_iff hc
      have hn : rNext B p d = p + 8 * m := by unfold rNext rTo; rw [hcode, if_pos hc, if_neg n0, if_pos k0, e]; simp
      have hv : rVal B p d = leVal ((B.drop (p / 8)).take m) := by unfold rVal; rw [hcode, if_pos hc, if_neg n0, if_pos k0, e]; simp
      rw [e] at hc ⊢
      refine (rlittle_ok b v B p m _ hR hB hBl h1 h2 h3 h4).mono ?_
      rintro e' w' ⟨rfl, hl⟩
      exact ⟨_, 0, rfl, by rw [hv], by rw [hcode, e, hc], nil hby w', step hn.symm hl⟩
    · have hn : rNext B p d = p := by unfold rNext; rw [hcode, if_neg hc]
      have hv : rVal B p d = 0 := by unfold rVal; rw [hcode, if_neg hc]
      refine (rlittle_err b v B p d.N _ hR hBl hp hc).mono ?_
      rintro e' w' ⟨rfl, hl⟩
      exact ⟨0, _, rfl, by rw [hv]; rfl, hcode.symm, nil hby w', step hn.symm hl⟩
  · intro hk0
    rw [hwa]
    have k0 : d.kd % 5 = 2 := by omega
    have n0 : ¬ d.kd % 5 = 0 := by omega
    have n1 : ¬ d.kd % 5 = 1 := by omega
    have hcode : rCode B p d = takeCode B.length p d.N := by unfold rCode; rw [if_neg n0, if_neg n1, if_pos k0]
    have hv : rVal B p d = 0 := by unfold rVal; rw [if_neg n0, if_neg n1]; split <;> rfl
    by_cases hc : takeCode B.length p d.N = 0
    · obtain ⟨m, e, h3, h4⟩ := take_zero_iff' hp hc
      have hn : rNext B p d = p + 8 * m := by unfold rNext rTo; rw [hcode, if_pos hc, if_neg n0, if_neg n1, if_pos k0, e]; simp
      have hby : rBytes B p d = (B.drop (p / 8)).take m := by unfold rBytes; rw [hcode, if_pos hc, if_pos k0, e]; simp
      have hlen : ((B.drop (p / 8)).take m).length = m := by rw [List.length_take, List.length_drop]; omega
      rw [e] at hc ⊢
      refine (take_ok b v B p m _ hR hBl h3 h4).mono ?_
      rintro e' w' ⟨s, rfl, hrow, hl⟩
      obtain ⟨A, c, rfl⟩ : ∃ A c, s = .slice A m c := by
        rcases Joins.ownsRow_forms hrow with ⟨rfl, h0⟩ | ⟨g, cap, rfl⟩
        · exact ⟨none, 0, by rw [h0]⟩
        · exact ⟨_, _, rfl⟩
      refine ⟨A, m, c, 0, rfl, by rw [hv]; rfl, by rw [hcode, e, hc], ?_, step hn.symm hl⟩
      rw [hby, hlen]
      exact Joins.ownsRow_le hrow hb.size
    · have hn : rNext B p d = p := by unfold rNext; rw [hcode, if_neg hc]
      have hby : rBytes B p d = [] := by unfold rBytes; rw [hcode, if_neg hc]
      refine (take_err b v B p d.N _ hR hBl hp hc).mono ?_
      rintro e' w' ⟨rfl, hl⟩
      exact ⟨none, 0, 0, _, rfl, by rw [hv]; rfl, hcode.symm, nil hby w', step hn.symm hl⟩
  · intro hk0
    rw [hwa]
    have k0 : d.kd % 5 = 3 := by omega
    have n0 : ¬ d.kd % 5 = 0 := by omega
    have n1 : ¬ d.kd % 5 = 1 := by omega
    have n2 : ¬ d.kd % 5 = 2 := by omega
    have hcode : rCode B p d = skipCode B.length p d.N := by unfold rCode; rw [if_neg n0, if_neg n1, if_neg n2, if_pos k0]
    have hv : rVal B p d = 0 := by unfold rVal; rw [if_neg n0, if_neg n1]; split <;> rfl
    have hby : rBytes B p d = [] := by unfold rBytes; rw [if_neg n2]; split <;> rfl
    by_cases hc : skipCode B.length p d.N = 0
    · obtain ⟨m, e, h3⟩ := skip_zero_iff hc
      have hn : rNext B p d = p + m := by unfold rNext rTo; rw [hcode, if_pos hc, if_neg n0, if_neg n1, if_neg n2, if_pos k0, e]; simp
      rw [e] at hc ⊢
      refine (skip_ok b v B p m _ hR hBl h3).mono ?_
      rintro e' w' ⟨rfl, hl⟩
      exact ⟨0, rfl, by rw [hv]; rfl, by rw [hcode, e, hc], nil hby w', step hn.symm hl⟩
    · have hn : rNext B p d = p := by unfold rNext; rw [hcode, if_neg hc]
      refine (skip_err b v B p d.N _ hR hBl hp hc).mono ?_
      rintro e' w' ⟨rfl, hl⟩
      exact ⟨_, rfl, by rw [hv]; rfl, hcode.symm, nil hby w', step hn.symm hl⟩
  · intro hk0
    rw [hwa]
    have n0 : ¬ d.kd % 5 = 0 := by omega
    have n1 : ¬ d.kd % 5 = 1 := by omega
    have n2 : ¬ d.kd % 5 = 2 := by omega
    have n3 : ¬ d.kd % 5 = 3 := by omega
    have hcode : rCode B p d = padCode B p d.N := by unfold rCode; rw [if_neg n0, if_neg n1, if_neg n2, if_neg n3]
    have hv : rVal B p d = 0 := by unfold rVal; rw [if_neg n0, if_neg n1]; split <;> rfl
    have hby : rBytes B p d = [] := by unfold rBytes; rw [if_neg n2]; split <;> rfl
    by_cases hc : padCode B p d.N = 0
    · obtain ⟨m, e, h1, h2, h3⟩ := pad_zero_iff hc
      have hn : rNext B p d = bord p m := by unfold rNext rTo; rw [hcode, if_pos hc, if_neg n0, if_neg n1, if_neg n2, if_neg n3, e]; simp
      rw [e] at hc ⊢
      refine (pad_ok b v B p m _ hR hB hBl hp h1 h2 hc).mono ?_
      rintro e' w' ⟨rfl, hl⟩
      exact ⟨0, rfl, by rw [hv]; rfl, by rw [hcode, e, hc], nil hby w', step hn.symm hl⟩
    · have hn : rNext B p d = p := by unfold rNext; rw [hcode, if_neg hc]
      refine (pad_err b v B p d.N _ hR hB hBl hp hc).mono ?_
      rintro e' w' ⟨rfl, hl⟩
      exact ⟨_, rfl, by rw [hv]; rfl, hcode.symm, nil hby w', step hn.symm hl⟩
  · rintro e w' ⟨x, s, c, rfl, rfl, rfl, h1, h2⟩
    exact ⟨s, rfl, h1, h2⟩
end Go.Proofs.Ytboiiohpkoodpaa
