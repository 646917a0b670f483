/- The document's Until. Conditions: the bytes that were fed lie in memory. -/
import Derived.Test.YtociidinfdbaeaaRb
namespace Go.Proofs.Ytociidinfdbaeaa
open Go.RowKit Go.Shelf

theorem idxRes_no {x : Nat} {B : List Nat} (h : ∀ j (hj : j < B.length), B[j] ≠ x) : idxRes x B = -1 := idx_none h

theorem until_few {L : Nat} {B : List Nat} {C : Bool} {x m : Nat} (hm : (m : Int) < L) (hk : B.length ≤ m) (h : ∀ j (hj : j < B.length), B[j] ≠ x) : untilCode L B C x m = fewCode C := by
  have e : untilI x B m = -1 := by
    unfold untilI
    rw [Int.toNat_natCast, List.take_of_length_le (by omega)]
    exact idx_none h
  unfold untilCode
  rw [if_neg (by omega), if_neg (by omega), e, if_pos (by decide), if_pos (by omega)]

theorem until_long {L : Nat} {B : List Nat} {C : Bool} {x m : Nat} (hm : (m : Int) < L) (hk : m + 1 ≤ B.length) (h : ∀ j (hj : j < B.length), j < m + 1 → B[j] ≠ x) : untilCode L B C x m = 5 := by
  have e : untilI x B m = -1 := by
    unfold untilI
    rw [Int.toNat_natCast]
    refine idx_none fun j hj => ?_
    rw [List.length_take] at hj
    rw [List.getElem_take]
    exact h j (by omega) (by omega)
  unfold untilCode
  rw [if_neg (by omega), if_neg (by omega), e, if_pos (by decide), if_neg (by omega)]

theorem until_found {L : Nat} {B : List Nat} {C : Bool} {x m k : Nat} (hm : (m : Int) < L) (hk : k ≤ m) (hkB : k < B.length) (hx : B[k] = x) (h : ∀ j (hj : j < B.length), j < k → B[j] ≠ x) :
    untilCode L B C x m = 0 ∧ untilB L B C x m = B.take k ∧ untilK L B C x m = k + 1 := by
  have e : untilI x B m = k := by
    unfold untilI
    rw [Int.toNat_natCast]
    have hl : k < (B.take (m + 1)).length := by rw [List.length_take]; omega
    refine idx_found (k := k) hl (by rw [List.getElem_take]; exact hx) fun j hj hjk => ?_
    rw [List.getElem_take]
    exact h j (by rw [List.length_take] at hj; omega) hjk
  have c : untilCode L B C x m = 0 := by
    unfold untilCode
    rw [if_neg (by omega), if_neg (by omega), e, if_neg (by omega)]
  exact ⟨c, by unfold untilB; rw [if_pos c, e, Int.toNat_natCast], by unfold untilK; rw [if_pos c, e, Int.toNat_natCast]⟩

theorem until_none {L : Nat} {B : List Nat} {C : Bool} {x : Nat} {n : Int} (h : untilCode L B C x n ≠ 0) : untilB L B C x n = [] ∧ untilK L B C x n = 0 := ⟨if_neg h, if_neg h⟩

set_option maxRecDepth 100000 in
set_option maxHeartbeats 3200000 in
theorem refUntil_any (L c T x : Nat) (n : Int) (A : Option Addr) (F : List Nat) (C : Bool) (w : World) (hF : SrcAt w (.slice A F.length c) F) (hc : F.length ≤ c) (hT : T ≤ F.length) (hFl : F.length ≤ 1000000) (hL : L ≤ 1048576) :
    Calls Try.prog 49 #[refV L A F.length c T C, .int .u8 x, .int .i64 n] w (RefTook w L A F.length c (T + untilK L (F.drop T) C x n) C (untilCode L (F.drop T) C x n) (untilB L (F.drop T) C x n)) := by
  have HF := Lib.hid hF
  by_cases h1 : n < 0
  · have e : untilCode L (F.drop T) C x n = 2 := by unfold untilCode; rw [if_pos h1]
    obtain ⟨e1, e2⟩ := until_none (L := L) (B := F.drop T) (C := C) (x := x) (n := n) (by rw [e]; decide)
    rw [e, e1, e2]
    clear hF hc hT e e1 e2
    go_enter Try.func49, Try.ntmps49
    go_wp2
    (try simp only [Exit.inBlock, Exit.then]); refine bodyPost_ret (by simp [results, Try.results49, go_sem]; try rfl) rfl ?_
    exact ⟨none, 0, rfl, part_nil _ _ _ _, ((Below.refl _ _).alloc (Nat.le_refl _) _).alloc (by simp) _⟩
  · by_cases h2 : (L : Int) ≤ n
    · have e : untilCode L (F.drop T) C x n = 3 := by unfold untilCode; rw [if_neg h1, if_pos (by omega)]
      obtain ⟨e1, e2⟩ := until_none (L := L) (B := F.drop T) (C := C) (x := x) (n := n) (by rw [e]; decide)
      rw [e, e1, e2]
      clear hF hc hT e e1 e2
      go_enter Try.func49, Try.ntmps49
      go_wp2
      (try simp only [Exit.inBlock, Exit.then]); refine bodyPost_ret (by simp [results, Try.results49, go_sem]; try rfl) rfl ?_
      exact ⟨none, 0, rfl, part_nil _ _ _ _, ((Below.refl _ _).alloc (Nat.le_refl _) _).alloc (by simp) _⟩
    · obtain ⟨m, rfl⟩ := Int.eq_ofNat_of_zero_le (Int.not_lt.1 h1)
      have HL := fun wx (hx : Below w.heap.size w wx) => Lib.hid (refLeft_any L c T A F C wx (hF.below hx hF.lt) hc hT)
      have hBl : (F.drop T).length ≤ 1000000 := by rw [List.length_drop]; omega
      have hTB : T + (F.drop T).length = F.length := by rw [List.length_drop]; omega
      obtain ⟨code, hcd⟩ : ∃ code, untilCode L (F.drop T) C x m = code := ⟨_, rfl⟩
      obtain ⟨N, hNN⟩ : ∃ N, untilB L (F.drop T) C x m = N := ⟨_, rfl⟩
      obtain ⟨K, hKK⟩ : ∃ K, untilK L (F.drop T) C x m = K := ⟨_, rfl⟩
      rw [hcd, hNN, hKK]
      obtain ⟨B, hB⟩ : ∃ B, F.drop T = B := ⟨_, rfl⟩
      simp only [hB] at HL hBl hTB hcd hNN hKK
      have HCD := Lib.hid hcd
      have HNN := Lib.hid hNN
      have HKK := Lib.hid hKK
      clear hF hc hT hB hcd hNN hKK h1
      go_enter Try.func49, Try.ntmps49
      go_wp2_with fail
      refine ((HL _ (((Below.refl _ _).alloc (Nat.le_refl _) _).alloc (by simp) _)).out).mono ?_
      rintro e w1 ⟨a, d, rfl, hp, hd, hb⟩
      have hb1 : Below w.heap.size w w1 := (((Below.refl _ _).alloc (Nat.le_refl _) _).alloc (by simp) _).trans (hb.mono (by simp; omega))
      have hq1 := ((qbox_new w (.int .i64 L) (.slice A F.length c) (.int .i64 T) (.bool C)).alloc _).below hb (by simp; omega)
      have hq2 := (qbox_next w (.cells #[.int .i64 L, .slice A F.length c, .int .i64 T, .bool C] 31) (.int .i64 0) (.slice none 0 0) (.int .i64 0) (.bool false)).below hb (by simp)
      obtain ⟨q1, e1⟩ : ∃ q1, w.heap.size = q1 := ⟨_, rfl⟩
      obtain ⟨q2, e2⟩ : ∃ q2, q1 + 1 = q2 := ⟨_, rfl⟩
      have hne : q1 ≠ q2 := by omega
      have hne' : q2 ≠ q1 := by omega
      rw [e1, e2] at hq2
      rw [e1] at hq1 ⊢
      rw [e2]
      have E1 := Lib.hid e1
      have E2 := Lib.hid e2
      have HQ1 := Lib.hid hq1
      have HQ2 := Lib.hid hq2
      have HP := Lib.hid hp
      have HB1 := Lib.hid hb1
      clear hp hd hb hb1 hq1 hq2 e1 e2 HL
      go_wp2_with fail
      go_loopw [10] (fun i wr => ∃ k : Nat, i = .int .i64 k ∧ k ≤ m + 1 ∧ k ≤ B.length ∧ (∀ j (hj : j < B.length), j < k → B[j] ≠ x) ∧ wr = w1) (fun i _ => m + 1 - (intOf i).toNat)
      case atStart => exact ⟨0, rfl, Nat.zero_le _, Nat.zero_le _, fun j _ h => by omega, rfl⟩
      case round =>
        obtain ⟨k, rfl, hk1, hk2, hno, rfl⟩ := hrel
        have HNO := Lib.hid hno
        clear hno
        by_cases hkm : k ≤ m
        · by_cases hkB : k = B.length
          · subst hkB
            have hcode : code = fewCode C := by rw [← HCD.out]; exact until_few (by omega) hkm (fun j hj => HNO.out j hj hj)
            obtain ⟨e1, e2⟩ := until_none (L := L) (B := B) (C := C) (x := x) (n := m) (by rw [HCD.out, hcode]; exact few_ne C)
            have hN0 : N = [] := by rw [← HNN.out]; exact e1
            have hK0 : K = 0 := by rw [← HKK.out]; exact e2
            subst hcode hN0 hK0
            clear e1 e2
            have HSS : ∀ wy, Below wr.heap.size wr wy → wy.cell? ⟨q1, 0, none⟩ = some (.int .i64 L) ∧ wy.cell? ⟨q1, 1, none⟩ = some (.slice A F.length c) ∧ wy.cell? ⟨q1, 2, none⟩ = some (.int .i64 T) ∧ wy.cell? ⟨q1, 3, none⟩ = some (.bool C) := fun wy hy => by
              have h := HQ1.out.below hy HQ1.out.lt
              exact ⟨h.c0, h.c1, h.c2, h.c3⟩
            have HSS := Lib.hid HSS
            go_wp2_with fail
            go_region_held (fun w' => w'.cell? ⟨q1, 0, none⟩ = some (.int .i64 L) ∧ w'.cell? ⟨q1, 1, none⟩ = some (.slice A F.length c) ∧ w'.cell? ⟨q1, 2, none⟩ = some (.int .i64 T) ∧ w'.cell? ⟨q1, 3, none⟩ = some (.bool C)) (first | exact HSS.out _ (Below.refl _ _).drew | exact HSS.out _ HBC.out | (obtain ⟨y0, y1, y2, y3⟩ := HSS.out _ HBC.out; simp [*, World.cell?_setCell_far])) (first | (go_at_call 51; refine (refFew_any L F.length c T A C _).mono ?_; rintro e w3 ⟨rfl, hb⟩; have HBC := Lib.hid ((Below.refl _ _).drew.trans hb); have hq2 := HQ2.out.below HBC.out HQ2.out.lt; have l0 := hq2.c0; have l1 := hq2.c1; have l2 := hq2.c2; have l3 := hq2.c3; have g0 := hq2.fr 0; have g1 := hq2.fr 1; have g2 := hq2.fr 2; have g3 := hq2.fr 3; clear hb hq2))
            go_wp2
            (try simp only [Exit.inBlock, Exit.then]); refine bodyPost_ret (by simp [results, Try.results49, go_sem, *]; try rfl) rfl ?_
            have hb : Below w.heap.size w3 ((((w3.setCell ⟨q2, 0, none⟩ (.int .i64 L)).setCell ⟨q2, 1, none⟩ (.slice A F.length c)).setCell ⟨q2, 2, none⟩ (.int .i64 (T : Int))).setCell ⟨q2, 3, none⟩ (.bool C)) :=
              (((((Below.refl _ _).setCell (by have := E1.out; have := E2.out; show w.heap.size ≤ q2; omega) _).setCell (by have := E1.out; have := E2.out; show w.heap.size ≤ q2; omega) _).setCell (by have := E1.out; have := E2.out; show w.heap.size ≤ q2; omega) _).setCell (by have := E1.out; have := E2.out; show w.heap.size ≤ q2; omega) _)
            exact ⟨none, 0, rfl, part_nil _ _ _ _, (HB1.out.trans (HBC.out.mono HB1.out.size)).trans hb⟩
          · have hkB2 : k < B.length := by omega
            obtain ⟨a2, rfl, hcell⟩ := src_byte HP.out.1 k hkB2
            have hq1 := HQ1.out
            have hq2 := HQ2.out
            have k0 := hq1.c0
            have k1 := hq1.c1
            have k2 := hq1.c2
            have k3 := hq1.c3
            have f2 := hq1.fr 2
            have l0 := hq2.c0
            have l1 := hq2.c1
            have l2 := hq2.c2
            have l3 := hq2.c3
            have g0 := hq2.fr 0
            have g1 := hq2.fr 1
            have g2 := hq2.fr 2
            have g3 := hq2.fr 3
            clear hq1 hq2
            by_cases hx : B[k] = x
            · obtain ⟨ec, eN, eK⟩ := until_found (L := L) (C := C) (by omega) hkm hkB2 hx HNO.out
              have hcode : code = 0 := by rw [← HCD.out]; exact ec
              have hN0 : N = B.take k := by rw [← HNN.out]; exact eN
              have hK0 : K = k + 1 := by rw [← HKK.out]; exact eK
              subst hcode hN0 hK0
              rw [hx] at hcell
              have hkd : k ≤ d := by have := HP.out.2.1; omega
              have hk0 : (0 : Int) ≤ (k : Int) := by omega
              have hkd2 : (k : Int) ≤ (d : Int) := by omega
              obtain ⟨hlt, hpt⟩ := part_take HP.out (m := k) (by omega)
              have HPT := Lib.hid hpt
              have HLT := Lib.hid hlt
              have y0 : (wr.setCell ⟨q1, 2, none⟩ (.int .i64 ((T : Int) + k + 1))).cell? ⟨q1, 0, none⟩ = some (.int .i64 L) := (World.cell?_setCell_other wr _ _ _ (by intro e; simp at e)).trans k0
              have y1 : (wr.setCell ⟨q1, 2, none⟩ (.int .i64 ((T : Int) + k + 1))).cell? ⟨q1, 1, none⟩ = some (.slice A F.length c) := (World.cell?_setCell_other wr _ _ _ (by intro e; simp at e)).trans k1
              have y2 : (wr.setCell ⟨q1, 2, none⟩ (.int .i64 ((T : Int) + k + 1))).cell? ⟨q1, 2, none⟩ = some (.int .i64 ((T : Int) + k + 1)) := World.cell?_setCell_same wr _ _ k2
              have y3 : (wr.setCell ⟨q1, 2, none⟩ (.int .i64 ((T : Int) + k + 1))).cell? ⟨q1, 3, none⟩ = some (.bool C) := (World.cell?_setCell_other wr _ _ _ (by intro e; simp at e)).trans k3
              clear ec eN eK hlt hpt hx
              go_wp2_with fail
              go_region_held (fun w' => w'.cell? ⟨q1, 0, none⟩ = some (.int .i64 L) ∧ w'.cell? ⟨q1, 1, none⟩ = some (.slice A F.length c) ∧ w'.cell? ⟨q1, 2, none⟩ = some (.int .i64 ((T : Int) + k + 1)) ∧ w'.cell? ⟨q1, 3, none⟩ = some (.bool C)) (first | (simp [*, World.cell?_setCell_far]; done)) (fail)
              go_wp2
              (try simp only [Exit.inBlock, Exit.then]); refine bodyPost_ret (by simp [results, Try.results49, go_sem, *]; try rfl) rfl ?_
              have hb : Below w.heap.size wr (((((wr.setCell ⟨q1, 2, none⟩ (.int .i64 ((T : Int) + k + 1))).setCell ⟨q2, 0, none⟩ (.int .i64 L)).setCell ⟨q2, 1, none⟩ (.slice A F.length c)).setCell ⟨q2, 2, none⟩ (.int .i64 ((T : Int) + k + 1))).setCell ⟨q2, 3, none⟩ (.bool C)).drew :=
                ((((((Below.refl _ _).setCell (by have := E1.out; show w.heap.size ≤ q1; omega) _).setCell (by have := E1.out; have := E2.out; show w.heap.size ≤ q2; omega) _).setCell (by have := E1.out; have := E2.out; show w.heap.size ≤ q2; omega) _).setCell (by have := E1.out; have := E2.out; show w.heap.size ≤ q2; omega) _).setCell (by have := E1.out; have := E2.out; show w.heap.size ≤ q2; omega) _).drew
              refine ⟨some a2, d, ?_, HPT.out.stay hb HF.out.lt, HB1.out.trans hb⟩
              rw [HLT.out]
              have : ((T + (k + 1) : Nat) : Int) = (T : Int) + k + 1 := by omega
              simp only [refV, this]
            · have hne2 : ¬ (((B[k] : Nat) : Int) = (x : Int)) := by omega
              go_wp2
              go_roundw
              case rel =>
                refine ⟨k + 1, by go_num, by omega, by omega, fun j hj hjk => ?_, trivial⟩
                rcases Nat.lt_succ_iff_lt_or_eq.1 hjk with h | h
                · exact HNO.out j hj h
                · subst h; exact hx
              case measure => simp [intOf]; omega
        · obtain rfl : k = m + 1 := by omega
          have hcode : code = 5 := by rw [← HCD.out]; exact until_long (by omega) hk2 HNO.out
          obtain ⟨e1, e2⟩ := until_none (L := L) (B := B) (C := C) (x := x) (n := m) (by rw [HCD.out, hcode]; decide)
          have hN0 : N = [] := by rw [← HNN.out]; exact e1
          have hK0 : K = 0 := by rw [← HKK.out]; exact e2
          subst hcode hN0 hK0
          clear e1 e2
          have hq1 := HQ1.out
          have hq2 := HQ2.out
          have k0 := hq1.c0
          have k1 := hq1.c1
          have k2 := hq1.c2
          have k3 := hq1.c3
          have f2 := hq1.fr 2
          have l0 := hq2.c0
          have l1 := hq2.c1
          have l2 := hq2.c2
          have l3 := hq2.c3
          have g0 := hq2.fr 0
          have g1 := hq2.fr 1
          have g2 := hq2.fr 2
          have g3 := hq2.fr 3
          clear hq1 hq2
          go_wp2
          (try simp only [Exit.inBlock, Exit.then]); refine bodyPost_ret (by simp [results, Try.results49, go_sem, *]; try rfl) rfl ?_
          have hb : Below w.heap.size wr ((((wr.setCell ⟨q2, 0, none⟩ (.int .i64 L)).setCell ⟨q2, 1, none⟩ (.slice A F.length c)).setCell ⟨q2, 2, none⟩ (.int .i64 (T : Int))).setCell ⟨q2, 3, none⟩ (.bool C)) :=
            (((((Below.refl _ _).setCell (by have := E1.out; have := E2.out; show w.heap.size ≤ q2; omega) _).setCell (by have := E1.out; have := E2.out; show w.heap.size ≤ q2; omega) _).setCell (by have := E1.out; have := E2.out; show w.heap.size ≤ q2; omega) _).setCell (by have := E1.out; have := E2.out; show w.heap.size ≤ q2; omega) _)
          exact ⟨none, 0, rfl, part_nil _ _ _ _, HB1.out.trans hb⟩
end Go.Proofs.Ytociidinfdbaeaa
