/- The document's One: which tokens are valid. Conditions: its text has at most 1000000 bytes. -/
import Derived.Test.YtgdjfifnnhfonaaTs
namespace Go.Proofs.Ytgdjfifnnhfonaa
open Go.RowKit Go.Shelf

set_option maxRecDepth 100000 in
set_option maxHeartbeats 6400000 in
theorem refOne_any (k v a : Int) (t : List UInt8) (w : World) (ht : t.length ≤ 1000000) :
    Calls Try.prog 40 #[.agg #[.int .i64 k, .string (strL t), .int .i64 v, .int .i64 a]] w fun e w' => e = .returned (.bool (validB k t v)) ∧ Below w.heap.size w w' := by
  have hal := (Below.refl w.heap.size w).alloc (Nat.le_refl _) (.cells #[.int .i64 k, .string (strL t), .int .i64 v, .int .i64 a] 38)
  have htb := qbox_new w (.int .i64 k) (.string (strL t)) (.int .i64 v) (.int .i64 a)
  obtain ⟨tb, etb⟩ : ∃ tb, w.heap.size = tb := ⟨_, rfl⟩
  obtain ⟨w1, hw1⟩ : ∃ w1, w.alloc (.cells #[.int .i64 k, .string (strL t), .int .i64 v, .int .i64 a] 38) = w1 := ⟨_, rfl⟩
  rw [hw1] at hal htb
  rw [etb] at htb
  have HWR := Lib.hid (refWhole_any k v a t w1 ht)
  have HSC := fun wx => Lib.hid (refScan_any (wholeOf k t) wx (by have := wholeOf_length k t; omega))
  have hV : validB k t v = (match scanS (wholeOf k t) with
    | .ok [d] _ => decide ((d.k : Int) = k) && decide (d.t = t) && decide ((d.v : Int) = v)
    | _ => false) := rfl
  generalize validB k t v = V at hV ⊢
  obtain ⟨R, hR⟩ : ∃ R, scanS (wholeOf k t) = R := ⟨_, rfl⟩
  have hbad : ∀ q c, R = .bad q c → c = 4 ∨ c = 6 := fun q c e => scanG_bad _ _ _ q c (hR.trans e)
  rw [hR] at HSC hV
  have t0 := htb.c0
  have t1 := htb.c1
  have t2 := htb.c2
  have t3 := htb.c3
  have TB := Lib.hid htb
  have HAL := Lib.hid hal
  have W1 := Lib.hid hw1
  have ETB := Lib.hid etb
  have HV := Lib.hid hV
  have HBD := Lib.hid hbad
  clear hal htb etb hw1 hV hR hbad
  generalize hL : wholeOf k t = L at HWR HSC
  clear hL
  go_enter Try.func40, Try.ntmps40
  go_upto_region 1 with fail
  rw [W1.out, ETB.out]
  go_wp2_with fail
  refine HWR.out.mono ?_
  rintro e w2 ⟨rfl, hb2⟩
  have TB2 := Lib.hid (QBox.mk ((hb2.block tb TB.out.lt).trans TB.out.blk))
  have B2 := Lib.hid (HAL.out.trans (hb2.mono HAL.out.size))
  clear hb2 t0 t1 t2 t3 HWR
  go_wp2_with fail
  refine (HSC _).out.mono ?_
  rintro e w3 ⟨hb3, hm⟩
  have TB3 := Lib.hid (QBox.mk ((hb3.block tb TB2.out.lt).trans TB2.out.blk))
  have B3 := Lib.hid (B2.out.trans (hb3.mono B2.out.size))
  clear hb3 HSC
  cases R with
  | bad q c =>
    obtain ⟨a', _, _, rfl⟩ := hm
    have hc : ((c : Nat) : Int) = 4 ∨ ((c : Nat) : Int) = 6 := by rcases HBD.out q c rfl with h | h <;> simp [h]
    have hq : (((c : Nat) : Int) == 0) = false := by simp; omega
    clear hc
    go_wp2_with fail
    go_quiet (fail)
    go_wp2_with fail
    go_ret
    exact ⟨by rw [HV.out]; rfl, B3.out.trans ((below_drewN w3 _).mono B3.out.size)⟩
  | ok ts q =>
    obtain ⟨ws, v1, rfl, _, rfl, hrow⟩ := hm
    obtain ⟨A, cp, rfl⟩ := row_shape hrow
    match ws with
    | [] =>
      clear hrow
      go_wp2_with fail
      go_quiet (fail)
      go_wp2_with fail
      go_ret
      exact ⟨by rw [HV.out]; rfl, B3.out.trans ((below_drewN w3 _).mono B3.out.size)⟩
    | d1 :: d2 :: ws =>
      clear hrow
      have hlen : (d1 :: d2 :: ws).length = ws.length + 2 := rfl
      have hq : ((((ws.length : Nat) : Int) + 2 == 1)) = false := by simp; omega
      go_wp2_with fail
      go_quiet (fail)
      go_wp2_with fail
      go_ret
      exact ⟨by rw [HV.out]; rfl, B3.out.trans ((below_drewN w3 _).mono B3.out.size)⟩
    | [d] =>
      have hrow1 : w3.ownsRow w2.heap.size 38 4 (.slice A 1 cp) 1 (rCells [d]) := hrow
      obtain ⟨g, cp', e, hg, hglt, hcp1, hcp2, hcell⟩ := row_cells hrow1 (by omega)
      simp only [Value.slice.injEq, true_and] at e
      obtain ⟨rfl, rfl⟩ := e
      have k0 := hcell 0 _ rfl
      have k1 := hcell 1 _ rfl
      have k2 := hcell 2 _ rfl
      have s0 := TB3.out.c0
      have s1 := TB3.out.c1
      have s2 := TB3.out.c2
      have hmx : cp ≤ 9223372036854775807 := hcp2
      have hV2 : V = (decide ((d.k : Int) = k) && decide (d.t = t) && decide ((d.v : Int) = v)) := by rw [HV.out]; rfl
      have HV2 := Lib.hid hV2
      clear hrow hrow1 hcell hg hglt hcp2 hV2 HV
      by_cases h1 : (d.k : Int) = k
      · subst h1
        by_cases h2 : d.t = t
        · subst h2
          by_cases h3 : (d.v : Int) = v
          · subst h3
            go_wp2_with fail
            go_quiet (fail)
            go_wp2_with fail
            go_ret
            exact ⟨ret_bool (by rw [HV2.out]; simp), B3.out.trans ((below_drewN w3 _).mono B3.out.size)⟩
          · have H := Lib.hid h3
            have hq3 : (((d.v : Nat) : Int) == v) = false := by simpa using h3
            go_wp2_with fail
            go_quiet (fail)
            go_wp2_with fail
            go_ret
            exact ⟨ret_bool (by rw [HV2.out]; simp [H.out]), B3.out.trans ((below_drewN w3 _).mono B3.out.size)⟩
        · have h2' : ¬ (strL d.t).toList = (strL t).toList := by rw [strL_toList, strL_toList]; exact h2
          have H := Lib.hid h2
          clear h2
          go_wp2_with fail
          go_quiet (fail)
          go_wp2_with fail
          go_ret
          exact ⟨ret_bool (by rw [HV2.out]; simp [H.out]), B3.out.trans ((below_drewN w3 _).mono B3.out.size)⟩
      · have H := Lib.hid h1
        have hq1 : (((d.k : Nat) : Int) == k) = false := by simpa using h1
        go_wp2_with fail
        go_quiet (fail)
        go_wp2_with fail
        go_ret
        exact ⟨ret_bool (by rw [HV2.out]; simp [H.out]), B3.out.trans ((below_drewN w3 _).mono B3.out.size)⟩
end Go.Proofs.Ytgdjfifnnhfonaa
