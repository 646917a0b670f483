/- The walk of CheckWrites. Conditions: the pieces lie in memory. -/
import Derived.Test.YtpnhiaibidecnaaZw
import Derived.Test.YtpnhiaibidecnaaZp
import Derived.Test.YtpnhiaibidecnaaZn
namespace Go.Proofs.Ytpnhiaibidecnaa
open Go.RowKit Go.Shelf

theorem catL_take_le (L : List PcD) (X : Nat) : (catL (L.take X)).length ≤ (catL L).length := by
  have h : catL L = catL (L.take X) ++ catL (L.drop X) := by
    unfold catL
    rw [← List.flatten_append, ← List.map_append, List.take_append_drop]
  rw [h, List.length_append]
  omega

open Lean Elab Tactic Meta in
/-- Succeeds where the next operation writes a slot. -/
elab "at_slot" n:num : tactic => withMainContext do
  let t := (← instantiateMVars (← getMainTarget)).consumeMData
  unless t.isAppOfArity ``Go.wpList 6 do throwError "at_slot: no wpList"
  let l := t.getArg! 3
  unless l.isAppOfArity ``List.cons 3 do throwError "at_slot: no operation"
  let o := l.getArg! 1
  unless o.isAppOfArity ``Go.Oper.mk 6 do throwError "at_slot: not written out"
  let d := o.getArg! 0
  unless d.isAppOf ``Option.some do throwError "at_slot: no slot"
  let m := d.getArg! 1
  unless (m.nat? == some n.getNat || m.rawNatLit? == some n.getNat) do throwError "at_slot: another slot"

set_option maxRecDepth 100000 in
set_option maxHeartbeats 3200000 in
theorem writesLaw_bad (v : Int) (hk : kindB v = false) (A : Option Addr) (n C : Nat) (X : Nat) (w : World) :
    Calls Try.prog 5 #[.int .i64 v, .slice A n C, .int .u8 ((X : Nat) : Int)] w fun e w' => e = .returned (.bool true) ∧ Below w.heap.size w w' := by
  have KN := fun w => Lib.hid (known10_any w)
  by_cases hl : 20 < n
  · go_enter Try.func5, Try.ntmps5
    go_wp2_with fail
    refine (KN _).out.mono ?_
    rintro e w' ⟨rfl, hb⟩
    go_wp2
    go_ret
    exact ⟨rfl, hb⟩
  · have HNW := fun w => Lib.hid (new_bad v hk w)
    have HRB := fun w => Lib.hid (rbits_any v w)
    rw [bitsC_no hk] at HRB
    clear hk
    go_enter Try.func5, Try.ntmps5
    go_wp2_with fail
    refine (HNW _).out.mono ?_
    rintro e w' ⟨rfl, rfl⟩
    go_wp2_with fail
    refine (HRB _).out.mono ?_
    rintro e w' ⟨rfl, rfl⟩
    go_wp2_with fail
    refine (KN _).out.mono ?_
    rintro e w' ⟨rfl, hb⟩
    go_wp2
    go_ret
    exact ⟨rfl, hb⟩

set_option maxRecDepth 100000 in
set_option maxHeartbeats 3200000 in
theorem writesLaw_ok (k : Nat) (hk : 1 ≤ k ∧ k ≤ 3) (A : Option Addr) (n C : Nat) (X : Nat) (hX8 : X < 256) (L : List PcD) (w : World) (hn : n = L.length) (hl : ¬ 20 < n)
    (hp : ∀ (i : Nat) (d : PcD), L[i]? = some d → ∃ g o, A = some ⟨g, o, none⟩ ∧ d.lies w g (o + i)) :
    Calls Try.prog 5 #[.int .i64 ((k : Nat) : Int), .slice A n C, .int .u8 ((X : Nat) : Int)] w fun e w' => e = .returned (.bool true) ∧ Below w.heap.size w w' := by
  have KN := fun w => Lib.hid (known10_any w)
  have HNW := Lib.hid (new_any k hk w)
  have HRB := fun w => Lib.hid (rbits_any ((k : Nat) : Int) w)
  rw [bitsC_k hk] at HRB
  have HK := Lib.hid hk
  have HP := Lib.hid hp
  have HN := Lib.hid hn
  have HL := Lib.hid hl
  have HBASE := Lib.hid (Nat.le_refl w.heap.size)
  obtain ⟨x, hx⟩ : ∃ x : Int, ((bitsS k : Nat) : Int) = x := ⟨_, rfl⟩
  rw [hx] at HRB
  have hli : ¬ (20 : Int) < ((n : Nat) : Int) := by omega
  clear hk hp hn hx hl
  go_enter Try.func5, Try.ntmps5
  go_wp2_with fail
  refine HNW.out.mono ?_
  rintro e w1 ⟨b, rfl, hsum1, hge, hb1⟩
  have HHB := Lib.hid hge
  have HWA1 := Lib.hid (show WA w.heap.size w w1 b k (.slice none 0 0) [] from ⟨hb1, hsum1, hge, Buf.nil w1, fun g hg => by simp [Value.ownBlock] at hg⟩)
  clear hsum1 hge hb1
  go_wp2_with fail
  refine (HRB _).out.mono ?_
  rintro e w' ⟨rfl, rfl⟩
  go_wp2
  go_loopw [11, 12, 13, 14] (fun x11 x12 x13 x14 wr => ∃ i : Nat, i ≤ n ∧ x14 = .int .i64 ((i : Nat) : Int) ∧ WA w.heap.size w wr b k x11 (catL (L.take i)) ∧ CSt w.heap.size wr b k x11 X i L x12 x13 ∧ (catL (L.take i)).length ≤ 100 * i) (fun _ _ _ x14 _ => n - (intOf x14).toNat)
  case atStart => exact ⟨0, Nat.zero_le _, rfl, HWA1.out, .inl ⟨Nat.zero_le _, rfl, rfl⟩, by simp [catL]⟩
  case round =>
    obtain ⟨i, hi, rfl, hwa, hcs, hlen⟩ := hrel
    obtain ⟨Aa, ca, rfl, hna, hca⟩ := hwa.buf.form
    by_cases hlt : i < n
    · have hiL : i < L.length := by rw [← HN.out]; exact hlt
      obtain ⟨g, o, rfl, hpw⟩ := HP.out i L[i] (List.getElem?_eq_getElem hiL)
      have hcat := catL_snoc L i hiL
      obtain ⟨d, hd⟩ : ∃ d, L[i] = d := ⟨_, rfl⟩
      rw [hd] at hpw hcat
      obtain ⟨D, hD⟩ : ∃ D, catL (L.take i) = D := ⟨_, rfl⟩
      rw [hD] at hwa hlen hcat hna hcs
      have hcellr : wr.cell? ⟨g, o + i, none⟩ = some (.slice d.A d.B.length d.c) := (hwa.bel.cell (p := ⟨g, o + i, none⟩) hpw.lt).trans hpw.cell
      have hgl := hpw.lt
      have HWA := Lib.hid hwa
      have HCS := Lib.hid hcs
      have HPW := Lib.hid hpw
      have HCAT := Lib.hid hcat
      have HLOW := Lib.hid hpw.low
      have HBWR := Lib.hid hwa.bel
      have HHI := Lib.hid hlt
      have HD := Lib.hid hD
      have hlti : ((i : Nat) : Int) < ((n : Nat) : Int) := by omega
      rw [hD]
      clear hwa hcs hpw hcat hd hD hiL hi
      by_cases hm : 100 < d.B.length
      · have hmi : (100 : Int) < ((d.B.length : Nat) : Int) := by omega
        clear hm hlen
        go_wp2_with fail
        refine (KN _).out.mono ?_
        rintro e w3 ⟨rfl, hb3⟩
        have HB3 := Lib.hid (HBWR.out.trans (hb3.mono HBWR.out.size))
        clear hb3
        go_wp2
        go_ret
        exact ⟨rfl, HB3.out⟩
      · have hmi : ¬ (100 : Int) < ((d.B.length : Nat) : Int) := by omega
        have HLD := Lib.hid (show D.length ≤ 2000 ∧ d.B.length ≤ 100 ∧ D.length ≤ 100 * i from ⟨by have := HL.out; have := HHI.out; omega, by omega, hlen⟩)
        clear hm hlen
        by_cases hiX : i = X
        · subst hiX
          have HC := Lib.hid (Copy_any k D b wr HWA.out.sum)
          go_wp2_with fail
          refine HC.out.mono ?_
          rintro e u1 ⟨c, rfl, hs1, hge1, hb1⟩
          have hva1 := ((HWA.out.later hb1).buf.rest (S := fun _ => False) (Rest.below ((Below.refl _ u1).alloc (Nat.le_refl _) (.cells #[] 5))) (fun _ _ e => e))
          obtain ⟨ve, w3, hrun3, hbuf3, hg3, ho3⟩ := run_append_src 22 (buf_empty u1) hva1.src.src (by have := HLD.out; simp; omega)
          rw [List.nil_append] at hbuf3
          obtain ⟨hwe3, hb3⟩ := copy_new HWA.out HBASE.out hs1 hge1 hb1 hbuf3 hg3 ho3
          have WA3 := Lib.hid (HWA.out.later hb3)
          have CS3 := Lib.hid (show CSt w.heap.size w3 b k (.slice Aa D.length ca) i (i + 1) L ve (.pointer (some ⟨c, 0, none⟩)) from .inr ⟨by omega, c, rfl, by rw [HD.out]; exact hwe3⟩)
          have HP3 := Lib.hid (HPW.out.src.below WA3.out.bel)
          have HR3 := Lib.hid hrun3
          clear hs1 hge1 hb1 hva1 hrun3 hbuf3 hg3 ho3 hwe3 hb3 hcellr
          obtain ⟨va4, w4, hrun4, hbuf4, hg4, ho4⟩ := run_append_src 22 WA3.out.buf HP3.out.src (by have := HLD.out; omega)
          obtain ⟨G, hG⟩ : ∃ G, D ++ d.B = G := ⟨_, rfl⟩
          have HGL := Lib.hid (show G.length = D.length + d.B.length by rw [← hG, List.length_append])
          have HCG := Lib.hid (HCAT.out.trans hG)
          rw [hG] at hbuf4
          obtain ⟨hbel4, hsum4, hhb4, _, hown4⟩ := WA3.out.app HBASE.out hbuf4 hg4 ho4
          have hcs4 := CS3.out.map (fun c D h => h.app hg4 ho4)
          have hr4 := grown_rest hg4
          have hp4 : SrcE w4 (.slice d.A d.B.length d.c) d.B := HPW.out.src.below hbel4
          obtain ⟨A4, c4, rfl, hn4, hc4⟩ := hbuf4.form
          have HR4 := Lib.hid hrun4
          have HBU4 := Lib.hid hbuf4
          have HOW4 := Lib.hid hown4
          have HCS4 := Lib.hid hcs4
          have HBE4 := Lib.hid hbel4
          have HW4 := Lib.hid (WriteE_any d.A d.B.length d.c k d.B D b w4 (fun h => hp4.some h) rfl HLOW.out hsum4 (fun h j hj => by have := (HPW.out.src.some h).lt j hj; have := HHB.out; omega) (by have := HLD.out; omega))
          rw [hG] at HW4
          clear hG hrun4 hbuf4 hg4 ho4 hbel4 hsum4 hhb4 hown4 hcs4 hr4 hp4
          have hcell4 : w4.cell? ⟨g, o + i, none⟩ = some (.slice d.A d.B.length d.c) := (HBE4.out.cell (p := ⟨g, o + i, none⟩) HPW.out.lt).trans HPW.out.cell
          have hcell3 : w3.cell? ⟨g, o + i, none⟩ = some (.slice d.A d.B.length d.c) := (WA3.out.bel.cell (p := ⟨g, o + i, none⟩) HPW.out.lt).trans HPW.out.cell
          go_wp2_with (first | (at_slot 80; at_builtin; refine wpList_append_eq rfl _ _ 22 rfl rfl rfl HR3.out ?_) | (at_slot 86; at_builtin; refine wpList_append_eq rfl _ _ 22 rfl rfl rfl HR4.out ?_))
          refine HW4.out.mono ?_
          rintro e w5 ⟨rfl, hsum5, hr5⟩
          have HWA5 := Lib.hid (show WA w.heap.size w w5 b k _ G from ⟨HBE4.out.trans (hr5.toBelow w.heap.size HBE4.out.size (fun j hj e => by have := HHB.out; omega)), hsum5, HHB.out, HBU4.out.rest hr5 (fun j hj => (HOW4.out j hj).2), HOW4.out⟩)
          have HCS5 := Lib.hid (HCS4.out.map (fun c D h => h.wrote hr5))
          have HS5 := Lib.hid (Sum_any k G b w5 hsum5)
          clear hsum5 hr5 hcell3 hcell4
          obtain ⟨V, hV⟩ : ∃ V, valS k G = V := ⟨_, rfl⟩
          rw [hV] at HS5
          have HV := Lib.hid hV
          clear hV
          go_wp2_with fail
          refine HS5.out.mono ?_
          rintro e w6 ⟨rfl, hb6⟩
          have HWA6 := Lib.hid (HWA5.out.later hb6)
          have HCS6 := Lib.hid (HCS5.out.later hb6)
          have hrs := rsum_any ((k : Nat) : Int) A4 G.length c4 G w6 HWA6.out.buf.src rfl HWA6.out.sum.low (by have := HLD.out; have := HGL.out; omega)
          rw [ofC_k HK.out, HV.out] at hrs
          have HRS6 := Lib.hid hrs
          have HLN6 := Lib.hid (Len_any k G b w6 HWA6.out.sum)
          clear hb6 hrs
          go_wp2_with fail
          refine HRS6.out.mono ?_
          rintro e w' ⟨rfl, rfl⟩
          go_wp2_with fail
          refine HLN6.out.mono ?_
          rintro e w' ⟨rfl, rfl⟩
          go_wp2
          go_roundw
          case rel => exact ⟨i + 1, by omega, by go_num, by rw [HCG.out]; exact HWA6.out, HCS6.out, by rw [HCG.out]; have := HGL.out; have := HLD.out; omega⟩
          case measure => simp [intOf]; omega
        · have hni : (((i : Nat) : Int) == ((X : Nat) : Int)) = false := by simp; omega
          have CS3 := Lib.hid (HCS.out.next hiX)
          have HP3 := Lib.hid (HPW.out.src.below HWA.out.bel)
          have WA3 := HWA
          clear hiX hcellr
          obtain ⟨va4, w4, hrun4, hbuf4, hg4, ho4⟩ := run_append_src 22 WA3.out.buf HP3.out.src (by have := HLD.out; omega)
          obtain ⟨G, hG⟩ : ∃ G, D ++ d.B = G := ⟨_, rfl⟩
          have HGL := Lib.hid (show G.length = D.length + d.B.length by rw [← hG, List.length_append])
          have HCG := Lib.hid (HCAT.out.trans hG)
          rw [hG] at hbuf4
          obtain ⟨hbel4, hsum4, hhb4, _, hown4⟩ := WA3.out.app HBASE.out hbuf4 hg4 ho4
          have hcs4 := CS3.out.map (fun c D h => h.app hg4 ho4)
          have hr4 := grown_rest hg4
          have hp4 : SrcE w4 (.slice d.A d.B.length d.c) d.B := HPW.out.src.below hbel4
          obtain ⟨A4, c4, rfl, hn4, hc4⟩ := hbuf4.form
          have HR4 := Lib.hid hrun4
          have HBU4 := Lib.hid hbuf4
          have HOW4 := Lib.hid hown4
          have HCS4 := Lib.hid hcs4
          have HBE4 := Lib.hid hbel4
          have HW4 := Lib.hid (WriteE_any d.A d.B.length d.c k d.B D b w4 (fun h => hp4.some h) rfl HLOW.out hsum4 (fun h j hj => by have := (HPW.out.src.some h).lt j hj; have := HHB.out; omega) (by have := HLD.out; omega))
          rw [hG] at HW4
          clear hG hrun4 hbuf4 hg4 ho4 hbel4 hsum4 hhb4 hown4 hcs4 hr4 hp4
          have hcell4 : w4.cell? ⟨g, o + i, none⟩ = some (.slice d.A d.B.length d.c) := (HBE4.out.cell (p := ⟨g, o + i, none⟩) HPW.out.lt).trans HPW.out.cell
          have hcell3 : wr.cell? ⟨g, o + i, none⟩ = some (.slice d.A d.B.length d.c) := (WA3.out.bel.cell (p := ⟨g, o + i, none⟩) HPW.out.lt).trans HPW.out.cell
          go_wp2_with (at_slot 86; at_builtin; refine wpList_append_eq rfl _ _ 22 rfl rfl rfl HR4.out ?_)
          refine HW4.out.mono ?_
          rintro e w5 ⟨rfl, hsum5, hr5⟩
          have HWA5 := Lib.hid (show WA w.heap.size w w5 b k _ G from ⟨HBE4.out.trans (hr5.toBelow w.heap.size HBE4.out.size (fun j hj e => by have := HHB.out; omega)), hsum5, HHB.out, HBU4.out.rest hr5 (fun j hj => (HOW4.out j hj).2), HOW4.out⟩)
          have HCS5 := Lib.hid (HCS4.out.map (fun c D h => h.wrote hr5))
          have HS5 := Lib.hid (Sum_any k G b w5 hsum5)
          clear hsum5 hr5 hcell3 hcell4
          obtain ⟨V, hV⟩ : ∃ V, valS k G = V := ⟨_, rfl⟩
          rw [hV] at HS5
          have HV := Lib.hid hV
          clear hV
          go_wp2_with fail
          refine HS5.out.mono ?_
          rintro e w6 ⟨rfl, hb6⟩
          have HWA6 := Lib.hid (HWA5.out.later hb6)
          have HCS6 := Lib.hid (HCS5.out.later hb6)
          have hrs := rsum_any ((k : Nat) : Int) A4 G.length c4 G w6 HWA6.out.buf.src rfl HWA6.out.sum.low (by have := HLD.out; have := HGL.out; omega)
          rw [ofC_k HK.out, HV.out] at hrs
          have HRS6 := Lib.hid hrs
          have HLN6 := Lib.hid (Len_any k G b w6 HWA6.out.sum)
          clear hb6 hrs
          go_wp2_with fail
          refine HRS6.out.mono ?_
          rintro e w' ⟨rfl, rfl⟩
          go_wp2_with fail
          refine HLN6.out.mono ?_
          rintro e w' ⟨rfl, rfl⟩
          go_wp2
          go_roundw
          case rel => exact ⟨i + 1, by omega, by go_num, by rw [HCG.out]; exact HWA6.out, HCS6.out, by rw [HCG.out]; have := HGL.out; have := HLD.out; omega⟩
          case measure => simp [intOf]; omega
    · obtain rfl : i = n := by omega
      have hcat : catL (L.take i) = catL L := by rw [List.take_of_length_le (by have := HN.out; omega)]
      rw [hcat] at hwa hlen hna hcs ⊢
      obtain ⟨D, hD⟩ : ∃ D, catL L = D := ⟨_, rfl⟩
      have HDD := Lib.hid hD
      rw [hD] at hwa hlen hna hcs ⊢
      have HWA := Lib.hid hwa
      have HCS := Lib.hid hcs
      have HLD := Lib.hid (show D.length ≤ 2000 by have := HL.out; omega)
      clear hwa hcs hlen hcat hD hlt hi
      by_cases hX : i ≤ X
      · have hXi : ((i : Nat) : Int) ≤ ((X : Nat) : Int) := by omega
        have HBW := Lib.hid HWA.out.bel
        clear hX
        go_wp2_with fail
        refine (KN _).out.mono ?_
        rintro e w3 ⟨rfl, hb3⟩
        have HB3 := Lib.hid (HBW.out.trans (hb3.mono HBW.out.size))
        clear hb3
        go_wp2
        go_ret
        exact ⟨rfl, HB3.out⟩
      · rcases HCS.out with ⟨h1, _⟩ | ⟨h1, c, rfl, hwe⟩
        · exact absurd h1 hX
        · obtain ⟨Ae, ce, rfl, hne, hce⟩ := hwe.buf.form
          obtain ⟨E, hE⟩ : ∃ E, catL (L.take X) = E := ⟨_, rfl⟩
          rw [hE] at hwe hne
          have hEl : E.length ≤ D.length := by
            have := catL_take_le L X
            rw [hE, HDD.out] at this
            exact this
          have HEL := Lib.hid hEl
          have HSO := Lib.hid (Sum_any k E c wr hwe.sum)
          obtain ⟨V, hV⟩ : ∃ V, valS k E = V := ⟨_, rfl⟩
          rw [hV] at HSO
          have HV := Lib.hid hV
          have HAC := Lib.hid hwe.ac
          have HCB := Lib.hid hwe.cb
          have HCC := Lib.hid hwe.hc
          have HWE := Lib.hid hwe
          have hXi : ¬ ((i : Nat) : Int) ≤ ((X : Nat) : Int) := by omega
          rw [hE]
          clear hV hE hwe hX h1 hEl HCS
          go_wp2_with fail
          refine HSO.out.mono ?_
          rintro e w3 ⟨rfl, hb3⟩
          have HWA3 := Lib.hid (HWA.out.later hb3)
          have hwe3 := HWE.out.later hb3
          have hrs := rsum_any ((k : Nat) : Int) Ae E.length ce E w3 hwe3.buf.src rfl hwe3.sum.low (by have := HLD.out; have := HEL.out; omega)
          rw [ofC_k HK.out, HV.out] at hrs
          have HRS := Lib.hid hrs
          have HLN := Lib.hid (Len_any k E c w3 hwe3.sum)
          have hal : Below w3.heap.size w3 (w3.alloc (.cells #[.int .u8 1, .int .u8 2] 5)) := (Below.refl _ w3).alloc (Nat.le_refl _) _
          have HWR := Lib.hid (Write_any (some ⟨w3.heap.size, 0, none⟩) 2 2 k [1, 2] E c (w3.alloc (.cells #[.int .u8 1, .int .u8 2] 5)) (new_src w3 [1, 2] 2 _ rfl _ rfl 2 rfl) rfl (by decide) (hwe3.sum.below hal hwe3.sum.lt) (fun j hj => by
            have := hwe3.sum.lt
            simp [Value.ownBlock] at hj
            omega) (by have := HLD.out; have := HEL.out; omega))
          have HAL := Lib.hid hal
          obtain ⟨m, hm⟩ : ∃ m, E.length = m := ⟨_, rfl⟩
          rw [hm] at HRS HLN ⊢
          clear hb3 hwe3 hrs hal hm
          go_wp2_with fail
          refine HRS.out.mono ?_
          rintro e w' ⟨rfl, rfl⟩
          go_wp2_with (go_at_call 22; refine HLN.out.mono ?_; rintro e w' ⟨rfl, rfl⟩)
          refine HWR.out.mono ?_
          rintro e w4 ⟨rfl, _, hr4⟩
          have hwa4 := HWA3.out.later HAL.out
          have HB4 := Lib.hid (hwa4.bel.trans (hr4.toBelow w.heap.size hwa4.bel.size (fun j hj e => by have := HCC.out; omega)))
          have hs4 := hwa4.sum.rest hr4 (fun e => HCB.out e.symm)
          have HBU4 := Lib.hid (hwa4.buf.rest hr4 (fun j hj e => HAC.out (by rw [hj, e])))
          have HSS := Lib.hid (Sum_any k D b w4 hs4)
          obtain ⟨V2, hV2⟩ : ∃ V, valS k D = V := ⟨_, rfl⟩
          rw [hV2] at HSS
          have HV2 := Lib.hid hV2
          have HS4 := Lib.hid hs4
          clear hr4 hwa4 hs4 hV2
          go_wp2_with fail
          refine HSS.out.mono ?_
          rintro e w5 ⟨rfl, hb5⟩
          have hbu5 := HBU4.out.rest (S := fun _ => False) (Rest.below hb5) (fun _ _ e => e)
          have hs5 := HS4.out.below hb5 HS4.out.lt
          have hrs := rsum_any ((k : Nat) : Int) Aa D.length ca D w5 hbu5.src rfl hs5.low (by have := HLD.out; omega)
          rw [ofC_k HK.out, HV2.out] at hrs
          have HRS5 := Lib.hid hrs
          have HLN5 := Lib.hid (Len_any k D b w5 hs5)
          have HB5 := Lib.hid (HB4.out.trans (hb5.mono HB4.out.size))
          obtain ⟨q, hq⟩ : ∃ q, D.length = q := ⟨_, rfl⟩
          rw [hq] at HRS5 HLN5 ⊢
          clear hb5 hbu5 hs5 hrs hq
          go_wp2_with fail
          refine HRS5.out.mono ?_
          rintro e w' ⟨rfl, rfl⟩
          go_wp2_with (go_at_call 22; refine HLN5.out.mono ?_; rintro e w' ⟨rfl, rfl⟩)
          refine (KN _).out.mono ?_
          rintro e w9 ⟨rfl, hb9⟩
          have HB9 := Lib.hid (HB5.out.trans (hb9.mono HB5.out.size))
          clear hb9
          go_wp2
          go_ret
          exact ⟨rfl, HB9.out⟩

set_option maxRecDepth 100000 in
set_option maxHeartbeats 3200000 in
theorem writesLaw_long (v : Int) (A : Option Addr) (n C : Nat) (hl : 20 < n) (X : Nat) (w : World) :
    Calls Try.prog 5 #[.int .i64 v, .slice A n C, .int .u8 ((X : Nat) : Int)] w fun e w' => e = .returned (.bool true) ∧ Below w.heap.size w w' := by
  have KN := fun w => Lib.hid (known10_any w)
  go_enter Try.func5, Try.ntmps5
  go_wp2_with fail
  refine (KN _).out.mono ?_
  rintro e w' ⟨rfl, hb⟩
  go_wp2
  go_ret
  exact ⟨rfl, hb⟩

theorem writesLaw_walk (v : Int) (A : Option Addr) (n C : Nat) (x : Int) (hx0 : 0 ≤ x) (hx1 : x < 256) (L : List PcD) (w : World) (hn : n = L.length)
    (hp : ∀ (i : Nat) (d : PcD), L[i]? = some d → ∃ g o, A = some ⟨g, o, none⟩ ∧ d.lies w g (o + i)) :
    Calls Try.prog 5 #[.int .i64 v, .slice A n C, .int .u8 x] w fun e w' => e = .returned (.bool true) ∧ Below w.heap.size w w' := by
  obtain ⟨X, rfl⟩ : ∃ X : Nat, x = ((X : Nat) : Int) := ⟨x.toNat, by omega⟩
  by_cases hl : 20 < n
  · exact writesLaw_long v A n C hl X w
  · cases hk : kindB v with
    | false => exact writesLaw_bad v hk A n C X w
    | true =>
      obtain ⟨k, rfl, hk3⟩ := kindB_of hk
      exact writesLaw_ok k hk3 A n C X (by omega) L w hn hl hp
theorem u8_in {n : Int} (h : (Lit.int .u8 n).wf = true) : 0 ≤ n ∧ n < 256 := by
  have e1 : IntKind.u8.min = 0 := rfl
  have e2 : IntKind.u8.max = 255 := rfl
  simp [Lit.wf] at h
  omega
end Go.Proofs.Ytpnhiaibidecnaa
