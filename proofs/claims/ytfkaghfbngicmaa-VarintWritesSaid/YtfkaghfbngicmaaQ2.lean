/- The walk of VarintWrites. Conditions: the bytes lie in memory. -/
import Derived.Test.YtfkaghfbngicmaaQ1
namespace Go.Proofs.Ytfkaghfbngicmaa
open Go.RowKit Go.Shelf

/-- What lies behind the bytes. -/
def Sevens (D : List Nat) (N k : Nat) : Prop := D.length = 40 ∧ ∀ j (h : j < D.length), N ≤ j → j < k → D[j] = 7
theorem Sevens.set {D : List Nat} {N k : Nat} (h : Sevens D N k) (hk : k < 40) : Sevens (D.set k 7) N (k + 1) := by
  obtain ⟨h1, h2⟩ := h
  refine ⟨by rw [List.length_set]; exact h1, fun j hj hN hk1 => ?_⟩
  rw [List.length_set] at hj
  by_cases e : k = j
  · subst e; simp
  · rw [List.getElem_set, if_neg e]
    exact h2 j hj hN (by omega)
theorem take_set_ge {D : List Nat} {N k : Nat} (h : N ≤ k) (y : Nat) : (D.set k y).take N = D.take N := by
  rw [List.take_set_of_le h]

theorem writes_long (A : Option Addr) (N C : Nat) (v : Int) (w : World) (hl : 20 < N) :
    Calls Try.prog 3 #[.slice A N C, .int .i64 v] w fun e w' => e = .returned (.bool true) ∧ Below w.heap.size w w' := by
  have KN := fun w => Lib.hid (known9_any w)
  go_enter Try.func3, Try.ntmps3
  go_wp2_with fail
  refine (KN _).out.mono ?_
  rintro e w' ⟨rfl, hb⟩
  go_wp2
  go_ret
  exact ⟨rfl, hb⟩

set_option maxRecDepth 100000 in
set_option maxHeartbeats 12800000 in
theorem writes_ok (A : Option Addr) (N C : Nat) (B : List Nat) (v : Nat) (hv : v < 34359738368) (w : World) (hs : SrcAt w (.slice A N C) B) (hN : N = B.length) (hl : N ≤ 20) (h256 : ∀ x ∈ B, x < 256) :
    Calls Try.prog 3 #[.slice A N C, .int .i64 v] w fun e w' => e = .returned (.bool true) ∧ Below w.heap.size w w' := by
  have KN := fun w => Lib.hid (known9_any w)
  have hmk : ∀ w, (Instr.makeSlice 22 (.int .i64 0) (.int .i64 40)).run Try.prog w = .ok (.slice (some ⟨w.heap.size, 0, none⟩) 0 40) (w.alloc (.cells (Array.replicate 40 (.int .u8 0)) 5)) := fun _ => by kernel_rfl
  have hr0 := room_new w
  have hb0 := below_new w (.cells (Array.replicate 40 (.int .u8 0)) 5)
  have hs0 := hs.below hb0 hs.lt
  obtain ⟨w0, hw0⟩ : ∃ w0, w.alloc (.cells (Array.replicate 40 (.int .u8 0)) 5) = w0 := ⟨_, rfl⟩
  obtain ⟨g, eg⟩ : ∃ g, w.heap.size = g := ⟨_, rfl⟩
  rw [hw0] at hr0 hb0 hs0
  rw [eg] at hr0 hb0
  obtain ⟨w1, D1, hrun, hr1, hD1, ht1, hre1⟩ := run_append_into 22 hr0 hs0 (by rw [List.length_replicate]; omega)
  rw [List.length_replicate] at hrun hD1
  rw [← hN] at hrun ht1
  have hsl := hs.lt
  rw [eg] at hsl
  have hb1 : Below g w w1 := hb0.trans (hre1.toBelow g (by rw [← eg]; exact hb0.size) (fun i hi e => by omega))
  have hv7 : Sevens D1 N N := ⟨hD1, fun j hj h1 h2 => by omega⟩
  have HW0 := Lib.hid hw0
  have EG := Lib.hid eg
  have HRUN := Lib.hid hrun
  have HR1 := Lib.hid hr1
  have HB1 := Lib.hid hb1
  have H7 := Lib.hid hv7
  have HT1 := Lib.hid ht1
  have HS := Lib.hid hs
  have HSL := Lib.hid hsl
  have HN := Lib.hid hN
  have H256 := Lib.hid h256
  have HV := Lib.hid hv
  clear hr0 hb0 hs0 hw0 eg hrun hr1 hD1 ht1 hre1 hsl hb1 hv7 hs hN h256 hv
  go_enter Try.func3, Try.ntmps3
  go_wp2_with (at_builtin; rw [HW0.out, EG.out]; refine wpList_append_eq rfl _ _ 22 rfl rfl rfl HRUN.out ?_)
  clear hmk
  go_loopw [7] (fun x7 wr => ∃ k D, N ≤ k ∧ k ≤ 40 ∧ x7 = .int .i64 ((k : Nat) : Int) ∧ Room wr g D ∧ Sevens D N k ∧ D.take N = B ∧ Below g w wr) (fun x7 _ => 40 - (intOf x7).toNat)
  case atStart => exact ⟨N, D1, Nat.le_refl _, by omega, rfl, HR1.out, H7.out, HT1.out, HB1.out⟩
  case round =>
    obtain ⟨k, D, hk, hk40, rfl, hroom, h7, ht, hbel⟩ := hrel
    have HRO := Lib.hid hroom
    have H7k := Lib.hid h7
    have HTK := Lib.hid ht
    have HBE := Lib.hid hbel
    clear hroom h7 ht hbel
    by_cases hlt : k < 40
    · have hkD : k < D.length := by rw [H7k.out.1]; exact hlt
      have hc := HRO.out.cell k hkD
      have hf := HRO.out.free k hkD
      have hset := HRO.out.set k hkD 7
      have HSET := Lib.hid hset
      clear hset
      have hki : ((k : Nat) : Int) < 40 := by omega
      go_wp2
      go_roundw
      case rel => exact ⟨k + 1, _, by omega, by omega, by go_num, HSET.out, H7k.out.set hlt, by rw [take_set_ge hk]; exact HTK.out, HBE.out.setCell (p := ⟨g, k, none⟩) (Nat.le_refl _) _⟩
      case measure => simp [intOf]; omega
    · obtain rfl : k = 40 := by omega
      obtain ⟨wa, hwa⟩ : ∃ wa : World, wa = wr := ⟨_, rfl⟩
      rw [← hwa] at HRO HBE ⊢
      clear hwa
      -- the calls
      have hsr : SrcAt wa (.slice (some ⟨g, 0, none⟩) N 40) B := by
        have := HRO.out.src N 40 (by rw [H7k.out.1]; omega)
        rwa [HTK.out] at this
      have HSR := Lib.hid hsr
      have HAP := Lib.hid (append_ok (some ⟨g, 0, none⟩) N 40 B v HV.out wa hsr HN.out (by omega) (by omega) (by omega))
      have HLE := fun w => Lib.hid (len_ok v HV.out w)
      have HWR := fun w => Lib.hid (rwrite_ok v HV.out w)
      have h1 := len1_le v
      have hFl : (formV v (len1 v)).length = len1 v := formV_len _ _
      have hF256 := formV_lt v (len1 v)
      obtain ⟨q, hq⟩ : ∃ q, len1 v = q := ⟨_, rfl⟩
      rw [hq] at HAP HWR h1 hFl hF256
      simp only [hq] at HLE
      obtain ⟨F, hF⟩ : ∃ F, formV v q = F := ⟨_, rfl⟩
      rw [hF] at HAP HWR hFl hF256
      have HFL := Lib.hid hFl
      have HF256 := Lib.hid hF256
      clear hsr hq hF hFl hF256
      go_wp2_with fail
      refine HAP.out.mono ?_
      rintro e w2 ⟨gc, cc, rfl, _, _, hrow2, hb2⟩
      have HC2 := Lib.hid (SrcAt.of_row hrow2)
      have HRO2 := Lib.hid (HRO.out.below hb2)
      have HBE2 := Lib.hid (HBE.out.trans (hb2.mono (by rw [← EG.out]; exact HBE.out.size)))
      have HSR2 := Lib.hid (HSR.out.below hb2 HSR.out.lt)
      clear hrow2 hb2 HRO HBE HSR
      go_wp2_with fail
      refine (HLE _).out.mono ?_
      rintro e w3 ⟨rfl, hb3⟩
      have HC3 := Lib.hid (HC2.out.below hb3 HC2.out.lt)
      have HRO3 := Lib.hid (HRO2.out.below hb3)
      have HBE3 := Lib.hid (HBE2.out.trans (hb3.mono (by rw [← EG.out]; exact HBE2.out.size)))
      have HSR3 := Lib.hid (HSR2.out.below hb3 HSR2.out.lt)
      clear hb3 HRO2 HBE2 HSR2 HC2
      go_wp2_with fail
      refine (HWR _).out.mono ?_
      rintro e w4 ⟨gw, cw, rfl, hrow4, _, _, hb4⟩
      have HBE4 := Lib.hid (HBE3.out.trans (hb4.mono (by rw [← EG.out]; exact HBE3.out.size)))
      have HRO4 := Lib.hid (HRO3.out.below hb4)
      have hB256 : ∀ x ∈ B ++ F, x < 256 := fun x hx => by
        rcases List.mem_append.1 hx with h | h
        · exact H256.out x h
        · exact HF256.out x h
      have q1 := conv_src (HC3.out.below hb4 HC3.out.lt) hB256
      have q2 := conv_src (SrcAt.of_row hrow4) HF256.out
      have q3 := conv_src (HS.out.below (HBE4.out) HSL.out) H256.out
      have q4 := conv_src (HSR3.out.below hb4 HSR3.out.lt) H256.out
      have happ := strOf_append B F
      have hz1 : (9223372036854775807 < (strOf B).size + (strOf F).size) = False := eq_false (by
        have e1 : (strOf B).size = N := by rw [HN.out]; simp [strOf, ByteArray.size]
        have e2 : (strOf F).size = q := by rw [← HFL.out]; simp [strOf, ByteArray.size]
        omega)
      have e1 : (strOf (B ++ F)).size = N + q := by
        have h1 := HN.out
        have h2 := HFL.out
        simp [strOf, ByteArray.size]
        omega
      obtain ⟨SB, hSB⟩ : ∃ S, strOf B = S := ⟨_, rfl⟩
      obtain ⟨SF, hSF⟩ : ∃ S, strOf F = S := ⟨_, rfl⟩
      obtain ⟨SC, hSC⟩ : ∃ S, strOf (B ++ F) = S := ⟨_, rfl⟩
      rw [hSC] at q1 happ
      rw [hSF] at q2 happ hz1
      rw [hSB] at q3 q4 happ hz1
      clear hrow4 hb4 hSB hSF hSC HC3 HRO3 HBE3 HSR3 hB256 e1
      go_wp2_with fail
      clear q1 q2 q3 q4 happ hz1
      go_loop [14] (fun x14 => ∃ k : Nat, N ≤ k ∧ k ≤ 40 ∧ x14 = .int .i64 ((k : Nat) : Int)) (fun x14 => 40 - (intOf x14).toNat)
      case atStart => exact ⟨N, Nat.le_refl _, by omega, rfl⟩
      case round =>
        obtain ⟨k, hk, hk40, rfl⟩ := hrel
        by_cases hlt : k < 40
        · have hkD : k < D.length := by rw [H7k.out.1]; exact hlt
          have hc := HRO4.out.cell k hkD
          rw [H7k.out.2 k hkD hk (by omega)] at hc
          have hki : ((k : Nat) : Int) < 40 := by omega
          go_wp2
          go_round
          case rel => exact ⟨k + 1, by omega, by omega, by go_num⟩
          case measure => simp [intOf]; omega
        · obtain rfl : k = 40 := by omega
          go_wp2_with fail
          refine (KN _).out.mono ?_
          rintro e w5 ⟨rfl, hb5⟩
          go_wp2
          go_ret
          exact ⟨rfl, by rw [EG.out]; exact HBE4.out.trans (hb5.mono (by rw [← EG.out]; exact HBE4.out.size))⟩
set_option maxRecDepth 100000 in
set_option maxHeartbeats 12800000 in
theorem writes_bad (A : Option Addr) (N C : Nat) (B : List Nat) (v : Int) (hv : okV v = false) (w : World) (hs : SrcAt w (.slice A N C) B) (hN : N = B.length) (hl : N ≤ 20) (h256 : ∀ x ∈ B, x < 256) :
    Calls Try.prog 3 #[.slice A N C, .int .i64 v] w fun e w' => e = .returned (.bool true) ∧ Below w.heap.size w w' := by
  have KN := fun w => Lib.hid (known9_any w)
  have hmk : ∀ w, (Instr.makeSlice 22 (.int .i64 0) (.int .i64 40)).run Try.prog w = .ok (.slice (some ⟨w.heap.size, 0, none⟩) 0 40) (w.alloc (.cells (Array.replicate 40 (.int .u8 0)) 5)) := fun _ => by kernel_rfl
  have hr0 := room_new w
  have hb0 := below_new w (.cells (Array.replicate 40 (.int .u8 0)) 5)
  have hs0 := hs.below hb0 hs.lt
  obtain ⟨w0, hw0⟩ : ∃ w0, w.alloc (.cells (Array.replicate 40 (.int .u8 0)) 5) = w0 := ⟨_, rfl⟩
  obtain ⟨g, eg⟩ : ∃ g, w.heap.size = g := ⟨_, rfl⟩
  rw [hw0] at hr0 hb0 hs0
  rw [eg] at hr0 hb0
  obtain ⟨w1, D1, hrun, hr1, hD1, ht1, hre1⟩ := run_append_into 22 hr0 hs0 (by rw [List.length_replicate]; omega)
  rw [List.length_replicate] at hrun hD1
  rw [← hN] at hrun ht1
  have hsl := hs.lt
  rw [eg] at hsl
  have hb1 : Below g w w1 := hb0.trans (hre1.toBelow g (by rw [← eg]; exact hb0.size) (fun i hi e => by omega))
  have hv7 : Sevens D1 N N := ⟨hD1, fun j hj h1 h2 => by omega⟩
  have HW0 := Lib.hid hw0
  have EG := Lib.hid eg
  have HRUN := Lib.hid hrun
  have HR1 := Lib.hid hr1
  have HB1 := Lib.hid hb1
  have H7 := Lib.hid hv7
  have HT1 := Lib.hid ht1
  have HS := Lib.hid hs
  have HSL := Lib.hid hsl
  have HN := Lib.hid hN
  have H256 := Lib.hid h256
  have HV := Lib.hid hv
  clear hr0 hb0 hs0 hw0 eg hrun hr1 hD1 ht1 hre1 hsl hb1 hv7 hs hN h256 hv
  go_enter Try.func3, Try.ntmps3
  go_wp2_with (at_builtin; rw [HW0.out, EG.out]; refine wpList_append_eq rfl _ _ 22 rfl rfl rfl HRUN.out ?_)
  clear hmk
  go_loopw [7] (fun x7 wr => ∃ k D, N ≤ k ∧ k ≤ 40 ∧ x7 = .int .i64 ((k : Nat) : Int) ∧ Room wr g D ∧ Sevens D N k ∧ D.take N = B ∧ Below g w wr) (fun x7 _ => 40 - (intOf x7).toNat)
  case atStart => exact ⟨N, D1, Nat.le_refl _, by omega, rfl, HR1.out, H7.out, HT1.out, HB1.out⟩
  case round =>
    obtain ⟨k, D, hk, hk40, rfl, hroom, h7, ht, hbel⟩ := hrel
    have HRO := Lib.hid hroom
    have H7k := Lib.hid h7
    have HTK := Lib.hid ht
    have HBE := Lib.hid hbel
    clear hroom h7 ht hbel
    by_cases hlt : k < 40
    · have hkD : k < D.length := by rw [H7k.out.1]; exact hlt
      have hc := HRO.out.cell k hkD
      have hf := HRO.out.free k hkD
      have hset := HRO.out.set k hkD 7
      have HSET := Lib.hid hset
      clear hset
      have hki : ((k : Nat) : Int) < 40 := by omega
      go_wp2
      go_roundw
      case rel => exact ⟨k + 1, _, by omega, by omega, by go_num, HSET.out, H7k.out.set hlt, by rw [take_set_ge hk]; exact HTK.out, HBE.out.setCell (p := ⟨g, k, none⟩) (Nat.le_refl _) _⟩
      case measure => simp [intOf]; omega
    · obtain rfl : k = 40 := by omega
      obtain ⟨wa, hwa⟩ : ∃ wa : World, wa = wr := ⟨_, rfl⟩
      rw [← hwa] at HRO HBE ⊢
      clear hwa
      -- the calls
      have hsr : SrcAt wa (.slice (some ⟨g, 0, none⟩) N 40) B := by
        have := HRO.out.src N 40 (by rw [H7k.out.1]; omega)
        rwa [HTK.out] at this
      have HSR := Lib.hid hsr
      have HAP := fun w => Lib.hid (append_bad (some ⟨g, 0, none⟩) N 40 v HV.out w)
      have HLE := fun w => Lib.hid (len_bad v HV.out w)
      have HWR := fun w => Lib.hid (rwrite_bad v HV.out w)
      clear hsr
      go_wp2_with fail
      refine (HAP _).out.mono ?_
      rintro e w2 ⟨rfl, hb2⟩
      have HRO2 := Lib.hid (HRO.out.below hb2)
      have HBE2 := Lib.hid (HBE.out.trans (hb2.mono (by rw [← EG.out]; exact HBE.out.size)))
      have HSR2 := Lib.hid (HSR.out.below hb2 HSR.out.lt)
      clear hb2 HRO HBE HSR
      go_wp2_with fail
      refine (HLE _).out.mono ?_
      rintro e w3 ⟨rfl, hb3⟩
      have HRO4 := Lib.hid (HRO2.out.below hb3)
      have HBE4 := Lib.hid (HBE2.out.trans (hb3.mono (by rw [← EG.out]; exact HBE2.out.size)))
      have HSR3 := Lib.hid (HSR2.out.below hb3 HSR2.out.lt)
      clear hb3 HRO2 HBE2 HSR2
      go_wp2_with fail
      refine (HWR _).out.mono ?_
      rintro e w' ⟨rfl, rfl⟩
      have q3 := conv_src (HS.out.below (HBE4.out) HSL.out) H256.out
      have q4 := conv_src HSR3.out H256.out
      obtain ⟨SB, hSB⟩ : ∃ S, strOf B = S := ⟨_, rfl⟩
      rw [hSB] at q3 q4
      clear hSB HSR3
      go_wp2_with fail
      clear q3 q4
      go_loop [14] (fun x14 => ∃ k : Nat, N ≤ k ∧ k ≤ 40 ∧ x14 = .int .i64 ((k : Nat) : Int)) (fun x14 => 40 - (intOf x14).toNat)
      case atStart => exact ⟨N, Nat.le_refl _, by omega, rfl⟩
      case round =>
        obtain ⟨k, hk, hk40, rfl⟩ := hrel
        by_cases hlt : k < 40
        · have hkD : k < D.length := by rw [H7k.out.1]; exact hlt
          have hc := HRO4.out.cell k hkD
          rw [H7k.out.2 k hkD hk (by omega)] at hc
          have hki : ((k : Nat) : Int) < 40 := by omega
          go_wp2
          go_round
          case rel => exact ⟨k + 1, by omega, by omega, by go_num⟩
          case measure => simp [intOf]; omega
        · obtain rfl : k = 40 := by omega
          go_wp2_with fail
          refine (KN _).out.mono ?_
          rintro e w5 ⟨rfl, hb5⟩
          go_wp2
          go_ret
          exact ⟨rfl, by rw [EG.out]; exact HBE4.out.trans (hb5.mono (by rw [← EG.out]; exact HBE4.out.size))⟩

theorem writesLaw_walk (A : Option Addr) (N C : Nat) (B : List Nat) (v : Int) (w : World) (hs : SrcAt w (.slice A N C) B) (hN : N = B.length) (h256 : ∀ x ∈ B, x < 256) :
    Calls Try.prog 3 #[.slice A N C, .int .i64 v] w fun e w' => e = .returned (.bool true) ∧ Below w.heap.size w w' := by
  by_cases hl : 20 < N
  · exact writes_long A N C v w hl
  · cases h : okV v with
    | false => exact writes_bad A N C B v h w hs hN (by omega) h256
    | true =>
      have h1 := (okV_iff v).1 h
      have := writes_ok A N C B v.toNat (by omega) w hs hN (by omega) h256
      rw [Int.toNat_of_nonneg h1.1] at this
      exact this
end Go.Proofs.Ytfkaghfbngicmaa
