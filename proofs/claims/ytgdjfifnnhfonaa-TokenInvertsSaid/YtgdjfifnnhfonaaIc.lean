/- The walk of TokenInverts where the text has no tokens: it returns true and changes nothing that was there. Conditions: the text has at most 500 bytes, and a wrong byte. -/
import Derived.Test.YtgdjfifnnhfonaaIb
import Derived.Deep.CutRange
namespace Go.Proofs.Ytgdjfifnnhfonaa
open Go.RowKit Go.Shelf

set_option maxRecDepth 100000 in
set_option maxHeartbeats 8000000 in
theorem inverts_bad (l : List UInt8) (v : Value) (w : World) (hl : l.length ≤ 500) (q : Nat × Nat) (c : Nat) (hR : scanS l = .bad q c) :
    Calls Try.prog 6 #[.string (strL l), v] w fun e w' => e = .returned (.bool true) ∧ Below w.heap.size w w' := by
  have hs : (strL l).size = l.length := strL_size l
  have HSC := Lib.hid (Scan_any l w (by omega))
  obtain ⟨m, hcut⟩ := cut_of l.length l (1, 1) q c (Nat.le_refl _) hR
  have hml := hcut.le
  have HSP := fun wx => Lib.hid (Scan_any (l.take m) wx (by rw [List.length_take]; omega))
  rw [hR] at HSC
  have hc46 : (m = l.length ∧ c = 4) ∨ (m < l.length ∧ c = 6) := by
    rw [hcut.code]
    by_cases he : m = l.length
    · exact .inl ⟨he, by rw [he, List.drop_length]; rfl⟩
    · exact .inr ⟨by omega, codeOf_cons (by rw [List.length_drop]; omega)⟩
  obtain ⟨A, hA⟩ : ∃ A : Nat → Nat × Nat, ∀ k, adv (l.take k) (1, 1) = A k := ⟨_, fun _ => rfl⟩
  have hA0 : A 0 = (1, 1) := by rw [← hA]; rfl
  have hAm : q = A m := by rw [← hA]; exact hcut.at'
  have hAb : ∀ k, (A k).1 ≤ 1 + l.length ∧ (A k).2 ≤ 2 + l.length := fun k => by
    have := adv_bound (l.take k) (1, 1)
    rw [hA, List.length_take] at this
    simp at this
    omega
  have hAs : ∀ k (h : k < l.length), A (k + 1) = if l[k] = 10 then ((A k).1 + 1, 1) else ((A k).1, (A k).2 + 1) := fun k h => by rw [← hA, ← hA]; exact adv_snoc l k h _
  have hAn : ∀ k, k < m → A k ≠ A m := fun k hk => by rw [← hA, ← hA]; exact adv_ne l k m hk hml _
  have hah : (∃ ts q2, scanS (l.take m) = .ok ts q2) ∨ scanS (l.take m) = .bad q 4 := hcut.ahead
  subst hAm
  have HA0 := Lib.hid hA0
  have HAB := Lib.hid hAb
  have HAS := Lib.hid hAs
  have HAN := Lib.hid hAn
  have HAH := Lib.hid hah
  have HC46 := Lib.hid hc46
  have HL := Lib.hid hl
  have HML := Lib.hid hml
  clear hR hcut hA hA0 hAb hAs hAn hah hc46
  have hcn : ((c : Nat) : Int) = 4 ∨ ((c : Nat) : Int) = 6 := by rcases HC46.out with h | h <;> simp [h.2]
  have hq : (((c : Nat) : Int) != 0) = true := by simp; omega
  clear hcn hl hml
  have hl : l.length ≤ 500 := HL.out
  go_enter Try.func6, Try.ntmps6
  go_wp2_with fail
  refine HSC.out.mono ?_
  rintro e w2 ⟨hb2, rfl⟩
  have hal := (Below.refl w2.heap.size w2).alloc (Nat.le_refl _) (.cells #[.int .i64 (A m).1, .int .i64 (A m).2] 25)
  have hbx : (w2.alloc (.cells #[.int .i64 (A m).1, .int .i64 (A m).2] 25)).heap[w2.heap.size]? = some (.cells #[.int .i64 (A m).1, .int .i64 (A m).2] 25 (0, 0)) := heap_alloc_new w2 _
  obtain ⟨pb, epb⟩ : ∃ pb, w2.heap.size = pb := ⟨_, rfl⟩
  obtain ⟨w3, hw3⟩ : ∃ w3, w2.alloc (.cells #[.int .i64 (A m).1, .int .i64 (A m).2] 25) = w3 := ⟨_, rfl⟩
  rw [hw3] at hal hbx
  rw [epb] at hbx
  have B3 := Lib.hid (hb2.trans (hal.mono hb2.size))
  have BX := Lib.hid hbx
  have W3 := Lib.hid hw3
  have EPB := Lib.hid epb
  clear hal hbx hw3 epb hb2 HSC
  go_wp2_with fail
  rw [W3.out, EPB.out]
  have p0 : w3.cell? ⟨pb, 0, none⟩ = some (.int .i64 (A m).1) := by simp [World.cell?, BX.out]
  have p1 : w3.cell? ⟨pb, 1, none⟩ = some (.int .i64 (A m).2) := by simp [World.cell?, BX.out]
  go_loopw [8, 9, 10] (fun x y z wr => ∃ k : Nat, k ≤ m ∧ x = .int .i64 ((k : Nat) : Int) ∧ y = .int .i64 ((A k).1 : Nat) ∧ z = .int .i64 ((A k).2 : Nat) ∧ wr = w3) (fun x _ _ _ => m - (intOf x).toNat)
  case atStart => exact ⟨0, Nat.zero_le _, rfl, by rw [HA0.out]; rfl, by rw [HA0.out]; rfl, rfl⟩
  case round =>
    obtain ⟨k, hk, rfl, rfl, rfl, rfl⟩ := hrel
    have hb := HAB.out k
    have hbm := HAB.out m
    have hml := HML.out
    by_cases hlt : k < m
    · have hkl : k < l.length := by omega
      have hsk : k < (strL l).size := by rw [strL_size]; exact hkl
      have hg : (strL l)[k].toNat = l[k].toNat := congrArg UInt8.toNat (strL_get l k hsk)
      have hs' := HAS.out k hkl
      have hne := HAN.out k hlt
      obtain ⟨y, hy⟩ : ∃ y, l[k].toNat = y := ⟨_, rfl⟩
      have hy10 : l[k] = 10 ↔ y = 10 := by rw [← hy]; exact ⟨fun e => by rw [e]; rfl, fun e => UInt8.toNat_inj.1 e⟩
      rw [hy] at hg
      obtain ⟨a, ha⟩ : ∃ a, (A k).1 = a := ⟨_, rfl⟩
      obtain ⟨b, hb'⟩ : ∃ b, (A k).2 = b := ⟨_, rfl⟩
      obtain ⟨am, ham⟩ : ∃ a, (A m).1 = a := ⟨_, rfl⟩
      obtain ⟨bm, hbm'⟩ : ∃ b, (A m).2 = b := ⟨_, rfl⟩
      have hne2 : a ≠ am ∨ b ≠ bm := by
        rcases Nat.decEq a am with h | h
        · exact .inl h
        · refine .inr fun h2 => hne ?_
          exact Prod.ext (ha.trans (h.trans ham.symm)) (hb'.trans (h2.trans hbm'.symm))
      rw [ha, hb'] at hb ⊢
      rw [ham, hbm'] at hbm
      rw [ham] at p0
      rw [hbm'] at p1
      have E1 := Lib.hid ha
      have E2 := Lib.hid hb'
      have NE := Lib.hid hne2
      have Y10 := Lib.hid hy10
      have HS := Lib.hid hs'
      have hk5 : k ≤ 500 := by omega
      clear hs' hy hy10 ha hb' ham hbm' hne hne2
      have fin : ∀ x2 y2 : Nat, A (k + 1) = (x2, y2) → ∃ k' : Nat, k' ≤ m ∧ Value.int .i64 (((k + 1 : Nat)) : Int) = .int .i64 ((k' : Nat) : Int) ∧ Value.int .i64 ((x2 : Nat) : Int) = .int .i64 ((A k').1 : Nat) ∧ Value.int .i64 ((y2 : Nat) : Int) = .int .i64 ((A k').2 : Nat) ∧ wr = wr := fun x2 y2 h => ⟨k + 1, hlt, rfl, by rw [h], by rw [h], rfl⟩
      have FIN := Lib.hid fin
      clear fin
      by_cases h10 : y = 10
      · have hst := (HS.out).trans (if_pos (Y10.out.2 h10))
        rw [E1.out] at hst
        have HST := Lib.hid hst
        have b10 : (((y : Nat) : Int) == 10) = true := by simp; omega
        clear hst h10
        by_cases h1 : a = am
        · have e1 : (((a : Nat) : Int) != ((am : Nat) : Int)) = false := by simp; omega
          have e2 : (((b : Nat) : Int) != ((bm : Nat) : Int)) = true := by have := NE.out; simp; omega
          clear h1
          go_wp2_with fail
          go_roundw
          case rel => exact ⟨k + 1, hlt, by go_num, by rw [HST.out]; go_num, by rw [HST.out]; rfl, trivial⟩
          case measure => simp [intOf]; omega
        · have e1 : (((a : Nat) : Int) != ((am : Nat) : Int)) = true := by simp; omega
          clear h1
          go_wp2_with fail
          go_roundw
          case rel => exact ⟨k + 1, hlt, by go_num, by rw [HST.out]; go_num, by rw [HST.out]; rfl, trivial⟩
          case measure => simp [intOf]; omega
      · have hst := (HS.out).trans (if_neg (fun e => h10 (Y10.out.1 e)))
        rw [E1.out, E2.out] at hst
        have HST := Lib.hid hst
        have b10 : (((y : Nat) : Int) == 10) = false := by simp; omega
        clear hst h10
        by_cases h1 : a = am
        · have e1 : (((a : Nat) : Int) != ((am : Nat) : Int)) = false := by simp; omega
          have e2 : (((b : Nat) : Int) != ((bm : Nat) : Int)) = true := by have := NE.out; simp; omega
          clear h1
          go_wp2_with fail
          go_roundw
          case rel => exact ⟨k + 1, hlt, by go_num, by rw [HST.out], by rw [HST.out]; go_num, trivial⟩
          case measure => simp [intOf]; omega
        · have e1 : (((a : Nat) : Int) != ((am : Nat) : Int)) = true := by simp; omega
          clear h1
          go_wp2_with fail
          go_roundw
          case rel => exact ⟨k + 1, hlt, by go_num, by rw [HST.out], by rw [HST.out]; go_num, trivial⟩
          case measure => simp [intOf]; omega
    · obtain rfl : k = m := by omega
      have hx : (strL l).extract 0 k = strL (l.take k) := by rw [strL_extract, List.drop_zero]
      clear hlt
      have step : ∀ (wz : World), True := fun _ => trivial
      obtain ⟨am, ham⟩ : ∃ a, (A k).1 = a := ⟨_, rfl⟩
      obtain ⟨bm, hbm'⟩ : ∃ b, (A k).2 = b := ⟨_, rfl⟩
      have hAk : A k = (am, bm) := Prod.ext ham hbm'
      rw [ham, hbm'] at hb ⊢
      clear hbm
      rw [ham] at p0
      rw [hbm'] at p1
      have HAK := Lib.hid hAk
      have BX3 : Hid (wr.heap[pb]? = some (.cells #[.int .i64 am, .int .i64 bm] 25 (0, 0))) := Lib.hid (by have := BX.out; rw [ham, hbm'] at this; exact this)
      have HAH2 := Lib.hid (show (∃ ts q2, scanS (l.take k) = .ok ts q2) ∨ scanS (l.take k) = .bad (am, bm) 4 by have := HAH.out; rw [hAk] at this; exact this)
      clear ham hbm' hAk HAH step
      have key : (k = l.length ∧ c = 4) ∨ (k < l.length ∧ c = 6) := HC46.out
      rcases key with ⟨hk1, hc1⟩ | ⟨hk1, hc1⟩
      · have f1 : (((k : Nat) : Int) == ((l.length : Nat) : Int)) = true := by simp; omega
        have f2 : (((c : Nat) : Int) == 4) = true := by simp; omega
        clear hc1
        have hkd : ¬ k < l.length := by omega
        have HK1 := Lib.hid hk1
        clear hk1
        rcases HAH2.out with ⟨ts, q2, hR2⟩ | hR2
        · rw [hR2] at HSP
          clear hR2
          go_wp2_with fail
          refine ((HSP _).out).mono ?_
          rintro e w4 ⟨hb4, v4, rfl, hrow4⟩
          have hal := (Below.refl w4.heap.size w4).alloc (Nat.le_refl _) (.cells #[.int .i64 0, .int .i64 0] 25)
          have hbx : (w4.alloc (.cells #[.int .i64 0, .int .i64 0] 25)).heap[w4.heap.size]? = some (.cells #[.int .i64 0, .int .i64 0] 25 (0, 0)) := heap_alloc_new w4 _
          have hbp := (hal.block pb (Nat.lt_of_lt_of_le (Array.getElem?_eq_some_iff.1 BX3.out).1 hb4.size)).trans ((hb4.block pb (Array.getElem?_eq_some_iff.1 BX3.out).1).trans BX3.out)
          obtain ⟨pc, epc⟩ : ∃ pc, w4.heap.size = pc := ⟨_, rfl⟩
          obtain ⟨w5, hw5⟩ : ∃ w5, w4.alloc (.cells #[.int .i64 0, .int .i64 0] 25) = w5 := ⟨_, rfl⟩
          rw [hw5] at hal hbx hbp
          rw [epc] at hbx
          have B5 := Lib.hid (B3.out.trans ((hb4.trans (hal.mono hb4.size)).mono B3.out.size))
          have W5 := Lib.hid hw5
          have EPC := Lib.hid epc
          have c0 : w5.cell? ⟨pc, 0, none⟩ = some (.int .i64 0) := by simp [World.cell?, hbx]
          have c1 : w5.cell? ⟨pc, 1, none⟩ = some (.int .i64 0) := by simp [World.cell?, hbx]
          have d0 : w5.cell? ⟨pb, 0, none⟩ = some (.int .i64 am) := by simp [World.cell?, hbp]
          have d1 : w5.cell? ⟨pb, 1, none⟩ = some (.int .i64 bm) := by simp [World.cell?, hbp]
          clear hal hbx hbp hw5 epc hb4 p0 p1
          go_upto_region 14 with fail
          rw [W5.out, EPC.out]
          go_wp2_with fail
          refine (known_any _).mono ?_
          rintro e w6 ⟨rfl, hb6⟩
          have HB6 := Lib.hid (B5.out.trans (hb6.mono B5.out.size))
          clear hb6
          go_wp2_with fail
          go_ret
          exact ⟨rfl, HB6.out⟩
        · rw [hR2] at HSP
          clear hR2
          go_wp2_with fail
          refine ((HSP _).out).mono ?_
          rintro e w4 ⟨hb4, rfl⟩
          have hal := (Below.refl w4.heap.size w4).alloc (Nat.le_refl _) (.cells #[.int .i64 am, .int .i64 bm] 25)
          have hbx : (w4.alloc (.cells #[.int .i64 am, .int .i64 bm] 25)).heap[w4.heap.size]? = some (.cells #[.int .i64 am, .int .i64 bm] 25 (0, 0)) := heap_alloc_new w4 _
          have hbp := (hal.block pb (Nat.lt_of_lt_of_le (Array.getElem?_eq_some_iff.1 BX3.out).1 hb4.size)).trans ((hb4.block pb (Array.getElem?_eq_some_iff.1 BX3.out).1).trans BX3.out)
          obtain ⟨pc, epc⟩ : ∃ pc, w4.heap.size = pc := ⟨_, rfl⟩
          obtain ⟨w5, hw5⟩ : ∃ w5, w4.alloc (.cells #[.int .i64 am, .int .i64 bm] 25) = w5 := ⟨_, rfl⟩
          rw [hw5] at hal hbx hbp
          rw [epc] at hbx
          have B5 := Lib.hid (B3.out.trans ((hb4.trans (hal.mono hb4.size)).mono B3.out.size))
          have W5 := Lib.hid hw5
          have EPC := Lib.hid epc
          have c0 : w5.cell? ⟨pc, 0, none⟩ = some (.int .i64 am) := by simp [World.cell?, hbx]
          have c1 : w5.cell? ⟨pc, 1, none⟩ = some (.int .i64 bm) := by simp [World.cell?, hbx]
          have d0 : w5.cell? ⟨pb, 0, none⟩ = some (.int .i64 am) := by simp [World.cell?, hbp]
          have d1 : w5.cell? ⟨pb, 1, none⟩ = some (.int .i64 bm) := by simp [World.cell?, hbp]
          clear hal hbx hbp hw5 epc hb4 p0 p1
          go_upto_region 14 with fail
          rw [W5.out, EPC.out]
          go_wp2_with fail
          refine (known_any _).mono ?_
          rintro e w6 ⟨rfl, hb6⟩
          have HB6 := Lib.hid (B5.out.trans (hb6.mono B5.out.size))
          clear hb6
          go_wp2_with fail
          go_ret
          exact ⟨rfl, HB6.out⟩
      · have f1 : (((k : Nat) : Int) == ((l.length : Nat) : Int)) = false := by simp; omega
        have f2 : (((c : Nat) : Int) == 4) = false := by simp; omega
        clear hc1
        rcases HAH2.out with ⟨ts, q2, hR2⟩ | hR2
        · rw [hR2] at HSP
          clear hR2
          go_wp2_with fail
          refine ((HSP _).out).mono ?_
          rintro e w4 ⟨hb4, v4, rfl, hrow4⟩
          have hal := (Below.refl w4.heap.size w4).alloc (Nat.le_refl _) (.cells #[.int .i64 0, .int .i64 0] 25)
          have hbx : (w4.alloc (.cells #[.int .i64 0, .int .i64 0] 25)).heap[w4.heap.size]? = some (.cells #[.int .i64 0, .int .i64 0] 25 (0, 0)) := heap_alloc_new w4 _
          have hbp := (hal.block pb (Nat.lt_of_lt_of_le (Array.getElem?_eq_some_iff.1 BX3.out).1 hb4.size)).trans ((hb4.block pb (Array.getElem?_eq_some_iff.1 BX3.out).1).trans BX3.out)
          obtain ⟨pc, epc⟩ : ∃ pc, w4.heap.size = pc := ⟨_, rfl⟩
          obtain ⟨w5, hw5⟩ : ∃ w5, w4.alloc (.cells #[.int .i64 0, .int .i64 0] 25) = w5 := ⟨_, rfl⟩
          rw [hw5] at hal hbx hbp
          rw [epc] at hbx
          have B5 := Lib.hid (B3.out.trans ((hb4.trans (hal.mono hb4.size)).mono B3.out.size))
          have W5 := Lib.hid hw5
          have EPC := Lib.hid epc
          have c0 : w5.cell? ⟨pc, 0, none⟩ = some (.int .i64 0) := by simp [World.cell?, hbx]
          have c1 : w5.cell? ⟨pc, 1, none⟩ = some (.int .i64 0) := by simp [World.cell?, hbx]
          have d0 : w5.cell? ⟨pb, 0, none⟩ = some (.int .i64 am) := by simp [World.cell?, hbp]
          have d1 : w5.cell? ⟨pb, 1, none⟩ = some (.int .i64 bm) := by simp [World.cell?, hbp]
          clear hal hbx hbp hw5 epc hb4 p0 p1
          go_upto_region 14 with fail
          rw [W5.out, EPC.out]
          go_wp2_with fail
          refine (known_any _).mono ?_
          rintro e w6 ⟨rfl, hb6⟩
          have HB6 := Lib.hid (B5.out.trans (hb6.mono B5.out.size))
          clear hb6
          go_wp2_with fail
          go_ret
          exact ⟨rfl, HB6.out⟩
        · rw [hR2] at HSP
          clear hR2
          go_wp2_with fail
          refine ((HSP _).out).mono ?_
          rintro e w4 ⟨hb4, rfl⟩
          have hal := (Below.refl w4.heap.size w4).alloc (Nat.le_refl _) (.cells #[.int .i64 am, .int .i64 bm] 25)
          have hbx : (w4.alloc (.cells #[.int .i64 am, .int .i64 bm] 25)).heap[w4.heap.size]? = some (.cells #[.int .i64 am, .int .i64 bm] 25 (0, 0)) := heap_alloc_new w4 _
          have hbp := (hal.block pb (Nat.lt_of_lt_of_le (Array.getElem?_eq_some_iff.1 BX3.out).1 hb4.size)).trans ((hb4.block pb (Array.getElem?_eq_some_iff.1 BX3.out).1).trans BX3.out)
          obtain ⟨pc, epc⟩ : ∃ pc, w4.heap.size = pc := ⟨_, rfl⟩
          obtain ⟨w5, hw5⟩ : ∃ w5, w4.alloc (.cells #[.int .i64 am, .int .i64 bm] 25) = w5 := ⟨_, rfl⟩
          rw [hw5] at hal hbx hbp
          rw [epc] at hbx
          have B5 := Lib.hid (B3.out.trans ((hb4.trans (hal.mono hb4.size)).mono B3.out.size))
          have W5 := Lib.hid hw5
          have EPC := Lib.hid epc
          have c0 : w5.cell? ⟨pc, 0, none⟩ = some (.int .i64 am) := by simp [World.cell?, hbx]
          have c1 : w5.cell? ⟨pc, 1, none⟩ = some (.int .i64 bm) := by simp [World.cell?, hbx]
          have d0 : w5.cell? ⟨pb, 0, none⟩ = some (.int .i64 am) := by simp [World.cell?, hbp]
          have d1 : w5.cell? ⟨pb, 1, none⟩ = some (.int .i64 bm) := by simp [World.cell?, hbp]
          clear hal hbx hbp hw5 epc hb4 p0 p1
          go_upto_region 14 with fail
          rw [W5.out, EPC.out]
          go_wp2_with fail
          refine (known_any _).mono ?_
          rintro e w6 ⟨rfl, hb6⟩
          have HB6 := Lib.hid (B5.out.trans (hb6.mono B5.out.size))
          clear hb6
          go_wp2_with fail
          go_ret
          exact ⟨rfl, HB6.out⟩
end Go.Proofs.Ytgdjfifnnhfonaa
