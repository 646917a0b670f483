/- valid: a token that could have come from a text. Conditions: its text has at most 1000000 bytes. -/
import Derived.Test.YtgdjfifnnhfonaaS
import Derived.Laws.StructEq
namespace Go.Proofs.Ytgdjfifnnhfonaa
open Go.RowKit Go.Shelf

/-- The cells of a row of tokens. -/
theorem tok_row {w : World} {base n : Nat} {v : Value} {xs : List Value} (h : w.ownsRow base 36 5 v n xs) (hn : 0 < n) :
    ∃ g c, v = .slice (some ⟨g, 0, none⟩) n c ∧ base ≤ g ∧ g < w.heap.size ∧ n ≤ c ∧ c ≤ maxLen ∧ ∀ j u, xs[j]? = some u → w.cell? ⟨g, j, none⟩ = some u := by
  rcases h.2 with ⟨rfl, h0⟩ | ⟨g, cap, cur, rfl, hb, hg, h1, h2, h3, h4⟩
  · omega
  · refine ⟨g, cap, rfl, hb, (Array.getElem?_eq_some_iff.1 hg).1, h1, h2, fun j u hu => ?_⟩
    rw [← h4, List.getElem?_take] at hu
    split at hu
    · simp only [World.cell?, hg]
      simpa using hu
    · cases hu

set_option maxRecDepth 100000 in
theorem eq_tok (k v a b k2 v2 a2 b2 : Int) (t t2 : List UInt8) (w : World) : (binOp .eql 36 (.agg #[.int .i64 k, .string (strL t), .int .i64 v, .int .i64 a, .int .i64 b]) (.agg #[.int .i64 k2, .string (strL t2), .int .i64 v2, .int .i64 a2, .int .i64 b2])).run Try.prog w
    = .ok (.bool (k == k2 && t == t2 && v == v2 && (a == a2 && b == b2))) w := by
  simp [go_sem]
  rw [strL_toList, strL_toList]
  by_cases h1 : k = k2 <;> by_cases h2 : t = t2 <;> by_cases h3 : v = v2 <;> by_cases h4 : a = a2 <;> by_cases h5 : b = b2 <;> simp [h1, h2, h3, h4, h5]

set_option maxRecDepth 100000 in
theorem ne_tok (k v a b k2 v2 a2 b2 : Int) (t t2 : List UInt8) (w : World) : (binOp .neq 36 (.agg #[.int .i64 k, .string (strL t), .int .i64 v, .int .i64 a, .int .i64 b]) (.agg #[.int .i64 k2, .string (strL t2), .int .i64 v2, .int .i64 a2, .int .i64 b2])).run Try.prog w
    = .ok (.bool (!(k == k2 && t == t2 && v == v2 && (a == a2 && b == b2)))) w := by
  simp [go_sem]
  rw [strL_toList, strL_toList]
  by_cases h1 : k = k2 <;> by_cases h2 : t = t2 <;> by_cases h3 : v = v2 <;> by_cases h4 : a = a2 <;> by_cases h5 : b = b2 <;> simp [h1, h2, h3, h4, h5]

/-- A token could have come from a text. -/
def validB (k : Int) (t : List UInt8) (v : Int) : Bool :=
  match scanS (wholeOf k t) with
  | .ok [d] _ => decide ((d.k : Int) = k) && decide (d.t = t) && decide ((d.v : Int) = v)
  | _ => false

theorem wholeOf_length (k : Int) (t : List UInt8) : (wholeOf k t).length ≤ t.length + 2 := by
  unfold wholeOf
  split <;> simp

set_option maxRecDepth 100000 in
set_option maxHeartbeats 3200000 in
theorem valid_any (k v a b : Int) (t : List UInt8) (w : World) (ht : t.length ≤ 1000000) :
    Calls Try.prog 35 #[.agg #[.int .i64 k, .string (strL t), .int .i64 v, .int .i64 a, .int .i64 b]] w fun e w' => e = .returned (.bool (validB k t v)) ∧ Below w.heap.size w w' := by
  have hal := (Below.refl w.heap.size w).alloc (Nat.le_refl _) (.cells #[.int .i64 k, .string (strL t), .int .i64 v, .int .i64 a, .int .i64 b] 36)
  have htb := tbox_new w (.int .i64 k) (.string (strL t)) (.int .i64 v) (.int .i64 a) (.int .i64 b)
  obtain ⟨tb, etb⟩ : ∃ tb, w.heap.size = tb := ⟨_, rfl⟩
  obtain ⟨w1, hw1⟩ : ∃ w1, w.alloc (.cells #[.int .i64 k, .string (strL t), .int .i64 v, .int .i64 a, .int .i64 b] 36) = w1 := ⟨_, rfl⟩
  rw [hw1] at hal htb
  rw [etb] at htb
  have HWR := Lib.hid (written_any k v a b t w1 ht)
  have HSC := fun wx => Lib.hid (scan_any (wholeOf k t) wx (by have := wholeOf_length k t; omega))
  have hV : validB k t v = (match scanS (wholeOf k t) with
    | .ok [d] _ => decide ((d.k : Int) = k) && decide (d.t = t) && decide ((d.v : Int) = v)
    | _ => false) := rfl
  generalize validB k t v = V at hV ⊢
  obtain ⟨R, hR⟩ : ∃ R, scanS (wholeOf k t) = R := ⟨_, rfl⟩
  have hbad : ∀ q c, R = .bad q c → c = 4 ∨ c = 6 := fun q c e => scanG_bad _ _ _ q c (hR.trans e)
  rw [hR] at HSC hV
  have t0 := htb.c0
  have t1 := htb.c1
  have t2 := htb.c2
  have t3 := htb.c3
  have t4 := htb.c4
  have TB := Lib.hid htb
  have HAL := Lib.hid hal
  have W1 := Lib.hid hw1
  have ETB := Lib.hid etb
  have HV := Lib.hid hV
  have HBD := Lib.hid hbad
  clear hal htb etb hw1 hV hR hbad
  generalize strL (wholeOf k t) = S at HWR HSC
  go_enter Try.func35, Try.ntmps35
  go_upto_region 1 with fail
  rw [W1.out, ETB.out]
  go_wp2_with fail
  refine HWR.out.mono ?_
  rintro e w2 ⟨rfl, hb2⟩
  have TB2 := Lib.hid (TB.out.below hb2 TB.out.lt)
  have B2 := Lib.hid (HAL.out.trans (hb2.mono HAL.out.size))
  clear hb2 t0 t1 t2 t3 t4 HWR
  go_wp2_with fail
  refine (HSC _).out.mono ?_
  rintro e w3 ⟨hb3, hm⟩
  have TB3 := Lib.hid (TB2.out.below hb3 TB2.out.lt)
  have B3 := Lib.hid (B2.out.trans (hb3.mono B2.out.size))
  clear hb3 HSC
  cases R with
  | bad q c =>
    subst hm
    have hc : ((c : Nat) : Int) = 4 ∨ ((c : Nat) : Int) = 6 := by rcases HBD.out q c rfl with h | h <;> simp [h]
    have hq : (((c : Nat) : Int) != 0) = true := by simp; omega
    clear hc
    go_wp2_with fail
    go_ret
    exact ⟨by rw [HV.out]; rfl, B3.out.alloc B3.out.size _⟩
  | ok ts q =>
    obtain ⟨v1, rfl, hrow⟩ := hm
    obtain ⟨A, cp, rfl⟩ := row_shape hrow
    match ts with
    | [] =>
      clear hrow
      go_wp2_with fail
      go_ret
      exact ⟨by rw [HV.out]; rfl, B3.out.alloc B3.out.size _⟩
    | d1 :: d2 :: ts =>
      clear hrow
      have hlen : (d1 :: d2 :: ts).length = ts.length + 2 := rfl
      have hq : ((((ts.length : Nat) : Int) + 2 != 1)) = true := by simp; omega
      go_wp2_with fail
      go_ret
      exact ⟨by rw [HV.out]; rfl, B3.out.alloc B3.out.size _⟩
    | [d] =>
      have hrow1 : w3.ownsRow w2.heap.size 36 5 (.slice A 1 cp) 1 (tokCells [d]) := hrow
      obtain ⟨g, cp', e, hg, hglt, hcp1, hcp2, hcell⟩ := tok_row hrow1 (by omega)
      simp only [Value.slice.injEq, true_and] at e
      obtain ⟨rfl, rfl⟩ := e
      have hal := (Below.refl w3.heap.size w3).alloc (Nat.le_refl _) (.cells #[.int .i64 q.1, .int .i64 q.2] 25)
      have hc4 : ∀ (j : Nat) u, (tokCells [d])[j]? = some u → (w3.alloc (.cells #[.int .i64 q.1, .int .i64 q.2] 25)).cell? ⟨g, j, none⟩ = some u := fun j u hu => (hal.cell (p := ⟨g, j, none⟩) hglt).trans (hcell j u hu)
      have ht4 := TB3.out.below hal TB3.out.lt
      have hb4 := B3.out.alloc B3.out.size (.cells #[.int .i64 q.1, .int .i64 q.2] 25)
      have hgt : tb < g := by have := TB2.out.lt; omega
      obtain ⟨pb, epb⟩ : ∃ pb, w3.heap.size = pb := ⟨_, rfl⟩
      obtain ⟨w4, hw4⟩ : ∃ w4, w3.alloc (.cells #[.int .i64 q.1, .int .i64 q.2] 25) = w4 := ⟨_, rfl⟩
      rw [hw4] at hc4 ht4 hb4
      have k0 := hc4 0 _ rfl
      have k1 := hc4 1 _ rfl
      have k2 := hc4 2 _ rfl
      have k3 := hc4 3 _ rfl
      have k4 := hc4 4 _ rfl
      have T4 := Lib.hid ht4
      have B4 := Lib.hid hb4
      have W4 := Lib.hid hw4
      have EPB := Lib.hid epb
      have f3 := ht4.fr 3
      have f4 := ht4.fr 4
      have m3 := ht4.c3
      have m4 := ht4.c4
      have n1 : ¬ g = tb := by omega
      have n2 : ¬ tb = g := by omega
      have HG := Lib.hid hgt
      have HCP := Lib.hid hcp2
      have hmx : cp ≤ 9223372036854775807 := hcp2
      clear hrow hrow1 hcell hal hc4 ht4 hb4 hw4 epb hg hglt hgt hcp2
      go_upto_region 2 with fail
      rw [W4.out, EPB.out]
      go_upto_region 5 with fail
      have ht5 := (T4.out.set3 (.int .i64 d.ln)).set4 (.int .i64 d.cn)
      have hr5 : Rest (fun i => i = tb) w4 ((w4.setCell ⟨tb, 3, none⟩ (.int .i64 d.ln)).setCell ⟨tb, 4, none⟩ (.int .i64 d.cn)) := ((Rest.refl (fun i => i = tb) w4).setCell (S := fun i => i = tb) (p := ⟨tb, 3, none⟩) (fun _ => rfl) _).setCell (S := fun i => i = tb) (p := ⟨tb, 4, none⟩) (fun _ => rfl) _
      generalize (w4.setCell ⟨tb, 3, none⟩ (.int .i64 d.ln)).setCell ⟨tb, 4, none⟩ (.int .i64 d.cn) = w5 at ht5 hr5 ⊢
      have r0 := (hr5.cell (p := ⟨g, 0, none⟩) (World.block_lt_of_cell? _ _ k0) n1).trans k0
      have r1 := (hr5.cell (p := ⟨g, 1, none⟩) (World.block_lt_of_cell? _ _ k1) n1).trans k1
      have r2 := (hr5.cell (p := ⟨g, 2, none⟩) (World.block_lt_of_cell? _ _ k2) n1).trans k2
      have r3 := (hr5.cell (p := ⟨g, 3, none⟩) (World.block_lt_of_cell? _ _ k3) n1).trans k3
      have r4 := (hr5.cell (p := ⟨g, 4, none⟩) (World.block_lt_of_cell? _ _ k4) n1).trans k4
      have s0 := ht5.c0
      have s1 := ht5.c1
      have s2 := ht5.c2
      have s3 := ht5.c3
      have s4 := ht5.c4
      have B5 := Lib.hid (B4.out.trans (hr5.toBelow w.heap.size B4.out.size (fun i hi e => by have := ETB.out; omega)))
      clear k0 k1 k2 k3 k4 m3 m4 f3 f4 n1 n2 hr5 ht5
      by_cases h1 : (d.k : Int) = k
      · subst h1
        by_cases h2 : d.t = t
        · subst h2
          by_cases h3 : (d.v : Int) = v
          · subst h3
            go_quiet (fail)
            go_wp2_with fail
            go_ret
            exact ⟨ret_bool (by rw [HV.out]; simp), B5.out.trans ((below_drewN w5 _).mono B5.out.size)⟩
          · have H := Lib.hid h3
            go_quiet (fail)
            go_wp2_with fail
            go_ret
            exact ⟨ret_bool (by rw [HV.out]; simp [H.out]), B5.out.trans ((below_drewN w5 _).mono B5.out.size)⟩
        · have h2' : ¬ (strL d.t).toList = (strL t).toList := by rw [strL_toList, strL_toList]; exact h2
          have H := Lib.hid h2
          clear h2
          go_quiet (fail)
          go_wp2_with fail
          go_ret
          exact ⟨ret_bool (by rw [HV.out]; simp [H.out]), B5.out.trans ((below_drewN w5 _).mono B5.out.size)⟩
      · have H := Lib.hid h1
        go_quiet (fail)
        go_wp2_with fail
        go_ret
        exact ⟨ret_bool (by rw [HV.out]; simp [H.out]), B5.out.trans ((below_drewN w5 _).mono B5.out.size)⟩
end Go.Proofs.Ytgdjfifnnhfonaa
