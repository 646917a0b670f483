/- cut passes bytes and returns them; Take and Little of a reader. Conditions: the reader lies in memory, at a border, has at most 1048576 bytes, and so many are left. -/
import Derived.Test.YtboiiohpkoodpaaZ
namespace Go.Proofs.Ytboiiohpkoodpaa
open Go.RowKit Go.Shelf

/-- What cut leaves: a part of the reader's bytes. -/
def CutLeft (b : Nat) (v : Value) (B : List Nat) (p n : Nat) (w : World) (e : Ending) (w' : World) : Prop :=
  ∃ A c, e = .returned (.slice A n c) ∧ SrcAt w' (.slice A n c) ((B.drop (p / 8)).take n) ∧ (∀ k, (Value.slice A n c).ownBlock = some k → v.ownBlock = some k) ∧ RLeft b v B (p + 8 * n) w w' ∧
    (0 < n → ∃ g, A = some ⟨g, p / 8, none⟩ ∧ ∀ j, j < n → w'.cell? ⟨g, p / 8 + j, none⟩ = some (.int .u8 (B.getD (p / 8 + j) 0 : Nat)))

theorem cut_src {w : World} {g cap q n : Nat} {B : List Nat} (h : w.ownsRow 0 5 1 (.slice (some ⟨g, 0, none⟩) B.length cap) B.length (u8s B)) (hn : q + n ≤ B.length) (h0 : 0 < n) :
    SrcAt w (.slice (some ⟨g, q, none⟩) n n) ((B.drop q).take n) := by
  have hl : ((B.drop q).take n).length = n := by rw [List.length_take, List.length_drop]; omega
  refine .inr ⟨⟨g, q, none⟩, n, by rw [hl], (h.lt g rfl).2, fun j u hu => ?_⟩
  have hj : j < n := by
    have := (List.getElem?_eq_some_iff.1 hu).1
    rw [u8s_length, hl] at this; exact this
  have hadd : (⟨g, q, none⟩ : Addr).add j = ⟨g, q + j, none⟩ := by
    unfold Addr.add
    split
    · rename_i e; subst e; rfl
    · rfl
  rw [hadd, h.cellAt _ (by omega), ← hu]
  simp only [u8s, List.getElem?_map, List.getElem?_take, hj, if_true, List.getElem?_drop]

set_option maxRecDepth 100000 in
set_option maxHeartbeats 800000 in
theorem cut_some (b g cap : Nat) (B : List Nat) (p q n : Nat) (w : World) (h : RAt w b (.slice (some ⟨g, 0, none⟩) B.length cap) B p) (hBl : B.length ≤ 1048576) (hq : p = 8 * q) (hn : q + n ≤ B.length) (hcap : B.length ≤ cap) :
    Calls Try.prog 70 #[.pointer (some ⟨b, 0, none⟩), .int .i64 n] w (CutLeft b (.slice (some ⟨g, 0, none⟩) B.length cap) B p n w) := by
  have c1 := h.obj.c1
  have c2 := h.obj.c2
  have cf2 := h.obj.fr 2
  have H := Lib.hid h
  clear h
  subst hq
  have q1 : ((8 * q : Nat) : Int) / 8 = q := by omega
  have hm := RLeft.moved H.out (Below.refl _ _) (8 * q + 8 * n)
  have HM := Lib.hid hm
  clear hm
  by_cases h0 : n = 0
  · subst h0
    go_enter Try.func70, Try.ntmps70
    go_wp2
    go_ret
    exact ⟨_, _, rfl, .inr ⟨⟨g, 0, none⟩, 0, by simp, by have := HM.out.1.row.lt g rfl; exact this.2, by simp [u8s]⟩, fun k hk => hk, HM.out, fun h => absurd h (Nat.lt_irrefl _)⟩
  · have h1 : 0 < n := by omega
    clear h0
    go_enter Try.func70, Try.ntmps70
    go_wp2
    go_ret
    refine ⟨some ⟨g, q, none⟩, n, by show Ending.returned (.slice (some ⟨g, q, none⟩) (q + n - q) (q + n - q)) = _; rw [Nat.add_sub_cancel_left], ?_, fun k hk => hk, HM.out, fun _ => ⟨g, by rw [show 8 * q / 8 = q by omega], fun j hj => ?_⟩⟩
    · rw [show 8 * q / 8 = q by omega]
      exact cut_src HM.out.1.row hn h1
    · rw [show 8 * q / 8 = q by omega]
      have hlt : q + j < B.length := by omega
      exact (HM.out.1.row.cellAt (q + j) (by omega)).trans (by simp [u8s, hlt])

set_option maxRecDepth 100000 in
set_option maxHeartbeats 800000 in
theorem cut_nil (b : Nat) (w : World) (h : RAt w b (.slice none 0 0) [] 0) :
    Calls Try.prog 70 #[.pointer (some ⟨b, 0, none⟩), .int .i64 0] w (CutLeft b (.slice none 0 0) [] 0 0 w) := by
  have c1 := h.obj.c1
  have c2 := h.obj.c2
  have cf2 := h.obj.fr 2
  have HM := Lib.hid (RLeft.moved h (Below.refl _ _) 0)
  clear h
  go_enter Try.func70, Try.ntmps70
  go_wp2
  go_ret
  exact ⟨_, _, rfl, .inl ⟨rfl, by simp⟩, fun k hk => hk, HM.out, fun h => absurd h (Nat.lt_irrefl _)⟩

theorem cut_any (b : Nat) (v : Value) (B : List Nat) (p q n : Nat) (w : World) (h : RAt w b v B p) (hBl : B.length ≤ 1048576) (hq : p = 8 * q) (hn : q + n ≤ B.length) :
    Calls Try.prog 70 #[.pointer (some ⟨b, 0, none⟩), .int .i64 n] w (CutLeft b v B p n w) := by
  rcases h.row.2 with ⟨rfl, h0⟩ | ⟨g, cap, cur, rfl, _, _, hnc, _⟩
  · have hB0 : B = [] := List.eq_nil_of_length_eq_zero h0
    subst hB0
    obtain rfl : q = 0 := by simp at hn; omega
    obtain rfl : n = 0 := by simpa using hn
    subst hq
    exact cut_nil b w h
  · exact cut_some b g cap B p q n w h hBl hq hn hnc

set_option maxRecDepth 100000 in
set_option maxHeartbeats 800000 in
theorem take_ok (b : Nat) (v : Value) (B : List Nat) (p n : Nat) (w : World) (h : RAt w b v B p) (hBl : B.length ≤ 1048576) (hp8 : p % 8 = 0) (hp : p + 8 * n ≤ 8 * B.length) :
    Calls Try.prog 30 #[.pointer (some ⟨b, 0, none⟩), .int .i64 n] w fun e w' => ∃ s, e = .returned (.tuple #[s, .int .i64 0]) ∧ w'.ownsRow w.heap.size 5 1 s n (u8s ((B.drop (p / 8)).take n)) ∧ RLeft b v B (p + 8 * n) w w' := by
  have hc : takeCode B.length p n = 0 := by
    unfold takeCode
    rw [if_neg (by omega), if_pos (by simp; omega), if_neg (by omega)]
  have hf := take_first b v B p n w h hBl (by omega)
  rw [hc] at hf
  have HF := Lib.hid hf
  have H := Lib.hid h
  have hbx := box2_below w (.pointer (some ⟨b, 0, none⟩)) (.int .i64 n) 40 3
  have HB1 := Lib.hid (box2_1 w (.pointer (some ⟨b, 0, none⟩)) (.int .i64 n) 40 3)
  have HB2 := Lib.hid (box2_2 w (.pointer (some ⟨b, 0, none⟩)) (.int .i64 n) 40 3)
  have HBX := Lib.hid hbx
  have H8 := Lib.hid hp8
  clear h hc hf hbx hp8
  go_enter Try.func30, Try.ntmps30
  go_wp2_with fail
  refine HF.out.mono ?_
  rintro e w1 ⟨rfl, hb⟩
  have c1 := (boxed_below HB1.out hb (by omega)).cell
  have c2 := (boxed_below HB2.out hb (by omega)).cell
  have hbw : Below w.heap.size w w1 := HBX.out.trans (hb.mono (by omega))
  have HC := Lib.hid (cut_any b v B p (p / 8) n w1 (H.out.below hbw) hBl (by have := H8.out; omega) (by have := H8.out; omega))
  have HBW := Lib.hid hbw
  clear hb hbw
  go_wp2_with fail
  refine HC.out.mono ?_
  rintro e w2 ⟨A, c, rfl, hs, hk, hr2, _⟩
  have hrl : RLeft b v B (p + 8 * n) w w2 := ⟨hr2.1, (Rest.below HBW.out).trans hr2.2 (fun i _ e => e)⟩
  have hlen : ((B.drop (p / 8)).take n).length = n := by
    have := H8.out
    rw [List.length_take, List.length_drop]; omega
  have HCL := Lib.hid (clone_any _ _ w2 hs (by rw [hlen]; omega))
  have HRL := Lib.hid hrl
  have HL := Lib.hid hlen
  clear hs hk hr2 hrl hlen
  go_wp2_with fail
  refine HCL.out.mono ?_
  rintro e w3 ⟨s, rfl, h1, h2, h3⟩
  have H1 := Lib.hid h1
  have H2 := Lib.hid h2
  clear h1 h2
  have hfin : w3.ownsRow w.heap.size 5 1 s n (u8s ((B.drop (p / 8)).take n)) ∧ RLeft b v B (p + 8 * n) w w3 := by
    refine ⟨?_, ⟨HRL.out.1.below H2.out, HRL.out.2.trans (Rest.below (S := fun k => k = b) H2.out) (fun i _ e => e)⟩⟩
    have := Joins.ownsRow_le H1.out HRL.out.2.size
    rwa [HL.out] at this
  have HFIN := Lib.hid hfin
  clear hfin
  rw [HL.out] at h3
  rcases h3 with rfl | ⟨g, cc, rfl⟩
  all_goals
    go_wp2
    go_ret2
    exact ⟨_, rfl, HFIN.out⟩
end Go.Proofs.Ytboiiohpkoodpaa
