/- Read of package varint. Conditions: the bytes lie in memory. -/
import Derived.Test.YtfkaghfbngicmaaQe
namespace Go.Proofs.Ytfkaghfbngicmaa
open Go.RowKit Go.Shelf

theorem begW_pos {B : List Nat} (h : begW B = true) : 1 ≤ (begL B).length := by
  unfold begW at h
  have h' := of_decide_eq_true h
  unfold begL
  rw [if_pos h']
  simp only [List.length_take] at h' ⊢
  omega
theorem begL_mem {B : List Nat} (h : ∀ x ∈ B, x < 256) : ∀ x ∈ begL B, x < 256 := by
  rw [begL_take]
  exact fun x hx => h x (List.mem_of_mem_take hx)
theorem ret_iii {a b c a' b' c' : Int} (h : a = a') (k : b = b') (l : c = c') : Ending.returned (.tuple #[.int .i64 a, .int .i64 b, .int .i64 c]) = .returned (.tuple #[.int .i64 a', .int .i64 b', .int .i64 c']) := by rw [h, k, l]

/-- A start in memory. -/
structure StAt (w : World) (b : Nat) (A : Option Addr) (L : Nat) (W : Bool) (D : List Nat) : Prop where
  c0 : w.cell? ⟨b, 0, none⟩ = some (.slice A L L)
  c1 : w.cell? ⟨b, 1, none⟩ = some (.bool W)
  src : SrcAt w (.slice A L L) D
  len : L = D.length
theorem StAt.new {w : World} {A : Option Addr} {L : Nat} {W : Bool} {D : List Nat} {T : Nat} (hs : SrcAt w (.slice A L L) D) (hl : L = D.length) : StAt (w.alloc (.cells #[.slice A L L, .bool W] T)) w.heap.size A L W D :=
  ⟨by rw [World.cell?_alloc_new]; rfl, by rw [World.cell?_alloc_new]; rfl, hs.below ((Below.refl _ _).alloc (Nat.le_refl _) _) hs.lt, hl⟩
theorem StAt.later {w w' : World} {b : Nat} {A : Option Addr} {L : Nat} {W : Bool} {D : List Nat} (h : StAt w b A L W D) (hb : Below w.heap.size w w') : StAt w' b A L W D :=
  ⟨(hb.cell (p := ⟨b, 0, none⟩) (block_lt_of_cell h.c0)).trans h.c0, (hb.cell (p := ⟨b, 1, none⟩) (block_lt_of_cell h.c1)).trans h.c1, h.src.below hb h.src.lt, h.len⟩

/-- What Read hands back. -/
def ReadOf (r : Nat × Nat × Nat) (w : World) (e : Ending) (w' : World) : Prop :=
  e = .returned (.tuple #[.int .i64 (r.1 : Nat), .int .i64 (r.2.1 : Nat), .int .i64 (r.2.2 : Nat)]) ∧ Below w.heap.size w w'

set_option maxRecDepth 100000 in
set_option maxHeartbeats 3200000 in
theorem read_any (A : Option Addr) (N C : Nat) (loose : Bool) (B : List Nat) (w : World) (hs : SrcAt w (.slice A N C) B) (hN : N = B.length) (hC : N ≤ C) (hC2 : C ≤ 9223372036854775807) (h256 : ∀ x ∈ B, x < 256) :
    Calls Try.prog 14 #[.slice A N C, .bool loose] w (ReadOf (readC B loose) w) := by
  have HB := Lib.hid (begin_any A N C B w hs hN hC hC2)
  have hl5 := (begL_len B).1
  have hm := begL_mem h256
  have hp := @begW_pos B
  have hr : readC B loose = if begW B = false ∧ (begL B).length < 5 then (0, 0, 4) else if begW B = false ∨ allowB loose (begL B) = false then (0, 0, 6) else (sumV (begL B), (begL B).length, 0) := rfl
  obtain ⟨R, hR⟩ : ∃ R, readC B loose = R := ⟨_, rfl⟩
  rw [hR] at hr ⊢
  unfold BegOf at HB
  obtain ⟨D, hD⟩ : ∃ D, begL B = D := ⟨_, rfl⟩
  obtain ⟨W, hW⟩ : ∃ W, begW B = W := ⟨_, rfl⟩
  rw [hD, hW] at HB hr
  rw [hD] at hl5 hm hp
  rw [hW] at hp
  obtain ⟨L, hL⟩ : ∃ L, D.length = L := ⟨_, rfl⟩
  rw [hL] at HB hl5 hr hp
  have HM := Lib.hid hm
  have HL := Lib.hid hL.symm
  clear hD hW hR hs hN h256 hm hL
  cases W with
  | false =>
    by_cases h5 : L < 5
    · rw [if_pos ⟨rfl, h5⟩] at hr
      subst hr
      clear hp
      go_enter Try.func14, Try.ntmps14
      go_wp2_with fail
      refine HB.out.mono ?_
      rintro e w1 ⟨A', rfl, hs1, _, hb1⟩
      have HB1 := Lib.hid hb1
      clear hb1 hs1
      go_wp2
      go_ret3
      exact ⟨rfl, HB1.out.trans (((Below.refl _ _).alloc (Nat.le_refl _) _).mono HB1.out.size)⟩
    · obtain rfl : L = 5 := by omega
      rw [if_neg (by omega), if_pos (.inl rfl)] at hr
      subst hr
      clear hp
      go_enter Try.func14, Try.ntmps14
      go_wp2_with fail
      refine HB.out.mono ?_
      rintro e w1 ⟨A', rfl, hs1, _, hb1⟩
      have HB1 := Lib.hid hb1
      clear hb1 hs1
      go_wp2
      go_ret3
      exact ⟨rfl, HB1.out.trans (((Below.refl _ _).alloc (Nat.le_refl _) _).mono HB1.out.size)⟩
  | true =>
    have h1 := hp rfl
    clear hp
    have HAL := fun A' c b (w1 : World) hs => Lib.hid (allow_any A' L c b loose D w1 hs HL.out h1 hl5 HM.out)
    have HSU := fun A' c b (w1 : World) hs => Lib.hid (sum_any A' L c b D w1 hs HL.out hl5 HM.out)
    cases ha : allowB loose D with
    | false =>
      rw [if_neg (by simp), if_pos (.inr ha)] at hr
      rw [ha] at HAL
      subst hr
      clear ha
      go_enter Try.func14, Try.ntmps14
      go_wp2_with fail
      refine HB.out.mono ?_
      rintro e w1 ⟨A', rfl, hs1, _, hb1⟩
      have HB1 := Lib.hid (hb1.trans (((Below.refl _ _).alloc (Nat.le_refl _) (.cells #[.slice A' L L, .bool true] 57)).mono hb1.size))
      have HS1 := Lib.hid (StAt.new (W := true) (T := 57) hs1 HL.out)
      clear hb1 hs1
      go_wp2_with fail
      refine (HAL _ _ _ _ HS1.out.src).out.mono ?_
      rintro e w2 ⟨rfl, hb2⟩
      have HB2 := Lib.hid hb2
      clear hb2
      go_wp2
      go_ret3
      exact ⟨rfl, HB1.out.trans (HB2.out.mono HB1.out.size)⟩
    | true =>
      rw [if_neg (by simp), if_neg (by simp [ha])] at hr
      rw [ha] at HAL
      subst hr
      obtain ⟨S, hS⟩ : ∃ S, sumV D = S := ⟨_, rfl⟩
      rw [hS] at HSU ⊢
      clear ha hS
      go_enter Try.func14, Try.ntmps14
      go_wp2_with fail
      refine HB.out.mono ?_
      rintro e w1 ⟨A', rfl, hs1, _, hb1⟩
      have HB1 := Lib.hid (hb1.trans (((Below.refl _ _).alloc (Nat.le_refl _) (.cells #[.slice A' L L, .bool true] 57)).mono hb1.size))
      have HS1 := Lib.hid (StAt.new (W := true) (T := 57) hs1 HL.out)
      clear hb1 hs1
      go_wp2_with fail
      refine (HAL _ _ _ _ HS1.out.src).out.mono ?_
      rintro e w2 ⟨rfl, hb2⟩
      have HB2 := Lib.hid hb2
      have hs2 := HS1.out.later hb2
      have HS2 := Lib.hid hs2
      have c0 := hs2.c0
      have c1 := hs2.c1
      have k0 := fun d os => cell_regrown hs2.c0 d os
      have k1 := fun d os => cell_regrown hs2.c1 d os
      clear hb2 hs2
      go_wp2_with fail
      refine wp_region_quiet_below (by kernel_rfl) (by kernel_rfl) ?_
      clear c0 c1
      repeat (go_big_quiet_step ((first | (go_at_call 30; exact Calls.regrown_of (HSU _ _ _ _ (HS2.out.later (below_regrown _ _ _)).src).out))))
      refine wpQuiet_nil ?_
      rintro _ ⟨p, rfl⟩
      have hb5 := below_regrown w2 p.d p.os
      obtain ⟨w5, hw5⟩ : ∃ w5, Go.Sort.grow (redrawn w2 p.d) p.os = w5 := ⟨_, rfl⟩
      rw [hw5] at hb5 ⊢
      have HB5 := Lib.hid hb5
      clear hb5 hw5 k0 k1
      go_wp2
      go_ret3
      exact ⟨rfl, HB1.out.trans ((HB2.out.trans (HB5.out.mono HB2.out.size)).mono HB1.out.size)⟩
end Go.Proofs.Ytfkaghfbngicmaa
