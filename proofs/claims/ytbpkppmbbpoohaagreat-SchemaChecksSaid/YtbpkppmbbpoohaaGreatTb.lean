/- The document's Refers. Conditions: the fields lie in memory, and the targets are few enough. -/
import Derived.Test.YtbpkppmbbpoohaaGreatTa
import Derived.Test.YtbpkppmbbpoohaaGreatJd
import Derived.Test.YtbpkppmbbpoohaaGreatGe
import Derived.BigQuiet
import Derived.Deep.CutRange
namespace Go.Proofs.YtbpkppmbbpoohaaGreat
open Go.RowKit Go.Shelf

theorem news1 (w : World) (s : List UInt8) (t : TypeId) : ∀ j u, [Value.string (strL s)][j]? = some u → (w.alloc (.cells #[.string (strL s)] t)).cell? ((⟨w.heap.size, 0, none⟩ : Addr).add j) = some u := fun j u hu => by
  rw [add_at, Nat.zero_add, cell_new_at w _ _ _ j rfl]
  simpa using hu
abbrev txt (N : List (List UInt8)) : List Value := N.map fun t => .string (strL t)
theorem one_elem (q s : List UInt8) : [q].contains s = (q == s) := by
  by_cases h : q = s
  · subst h; simp
  · have h2 : ¬ s = q := fun e => h e.symm
    simp [h, h2]
theorem txt_flat (N : List (List UInt8)) : N.flatMap strCells = txt N := strCells_flat N
theorem slAt_txt {lo c : Nat} {W : World} {A : Option Addr} {N : List (List UInt8)} (h : W.ownsRow lo 9 1 (.slice A N.length c) N.length (txt N)) : SlAt strCells 1 (fun k => k < lo) W A c N :=
  slAt_own (cf := strCells) (s := 1) (t := 9) (fun _ => rfl) (by rw [txt_flat]; exact h)
theorem own_nil (w : World) (lo : Nat) : w.ownsRow lo 9 1 (.slice none 0 0) 0 (txt []) := ⟨rfl, .inl ⟨rfl, rfl⟩⟩

/-- Two rows of texts, apart. -/
structure Rows2 (lo lo2 : Nat) (W : World) (OA : Option Addr) (oc : Nat) (N : List (List UInt8)) (LA : Option Addr) (lc : Nat) (T : List (List UInt8)) : Prop where
  out : W.ownsRow lo 9 1 (.slice OA N.length oc) N.length (txt N)
  l : W.ownsRow lo2 9 1 (.slice LA T.length lc) T.length (txt T)
  ne : ∀ k, Value.ownBlock (.slice OA N.length oc) = some k → Value.ownBlock (.slice LA T.length lc) ≠ some k
theorem Rows2.below {lo lo2 oc lc : Nat} {W W' : World} {OA LA : Option Addr} {N T : List (List UInt8)} (h : Rows2 lo lo2 W OA oc N LA lc T) (hb : Below W.heap.size W W')   : Rows2 lo lo2 W' OA oc N LA lc T :=
  ⟨own_below h.out hb, own_below h.l hb, h.ne⟩

set_option maxRecDepth 100000 in
set_option maxHeartbeats 12800000 in
theorem refRefers_any (nm : List UInt8) (A : Option Addr) (c : Nat) (D : List FieldD) (S : Nat → Prop) (w : World) (h : FieldsAt S w A c D) (hlen : (D.flatMap targB).length ≤ 4000000000) :
    Calls Tryz.prog 52 #[.agg #[.string (strL nm), .slice A D.length c]] w fun e w' => ∃ A' c', e = .returned (.slice A' (refsN D).length c') ∧ w'.ownsRow w.heap.size 9 1 (.slice A' (refsN D).length c') (refsN D).length (txt (refsN D)) ∧ Below w.heap.size w w' := by
  have hl : D.length ≤ 9223372036854775807 := Nat.le_trans h.1.1 h.1.2.1
  have hal := below_alloc w (.cells #[.string (strL nm), .slice A D.length c] 36)
  have hbx := msgbox w (.string (strL nm)) (.slice A D.length c)
  have h1 := h.below hal
  obtain ⟨b, eb⟩ : ∃ b, w.heap.size = b := ⟨_, rfl⟩
  obtain ⟨w1, hw1⟩ : ∃ w1, w.alloc (.cells #[.string (strL nm), .slice A D.length c] 36) = w1 := ⟨_, rfl⟩
  rw [hw1] at hal hbx h1
  rw [eb] at hbx
  have KEEP : Hid (∀ wx, Below w1.heap.size w1 wx → wx.cell? ⟨b, 1, none⟩ = some (.slice A D.length c)) := Lib.hid (fun wx hb => by
    have := (hb.block b (Array.getElem?_eq_some_iff.1 hbx).1).trans hbx
    simp [World.cell?, this])
  obtain ⟨i0, hi0, hz0, hz1, hz2⟩ := info_parts Tryz.infoStrD
  have INF := Lib.hid (And.intro hi0 (And.intro hz0 (And.intro hz1 hz2)))
  have HW := Lib.hid hw1
  have EB := Lib.hid eb
  have HAL := Lib.hid hal
  have H1 := Lib.hid h1
  have HLN := Lib.hid hlen
  clear h hal hbx h1 eb hw1 hi0 hz0 hz1 hz2 hlen
  go_enter Tryz.func52, Tryz.ntmps52
  go_upto_region 1 with fail
  rw [HW.out, EB.out]
  go_wp2_with fail
  go_loopw [3, 4] (fun x3 x4 wr => ∃ i : Nat, i ≤ D.length ∧ x4 = .int .i64 ((i : Nat) : Int) ∧ ∃ OA oc, x3 = .slice OA (addAll [] ((D.take i).flatMap targB)).length oc ∧ wr.ownsRow w1.heap.size 9 1 (.slice OA (addAll [] ((D.take i).flatMap targB)).length oc) (addAll [] ((D.take i).flatMap targB)).length (txt (addAll [] ((D.take i).flatMap targB))) ∧ Below w1.heap.size w1 wr) (fun _ x4 _ => D.length - (intOf x4).toNat)
  case atStart => exact ⟨0, Nat.zero_le _, rfl, none, 0, rfl, own_nil _ _, Below.refl _ _⟩
  case round =>
    obtain ⟨i, hi, rfl, OA, oc, rfl, hro, hbw⟩ := hrel
    have RO := Lib.hid hro
    have HBW := Lib.hid hbw
    have p1 := KEEP.out wr hbw
    clear hro hbw
    by_cases hlt : i < D.length
    · obtain ⟨d, hd⟩ : ∃ d, D[i]? = some d := ⟨_, List.getElem?_eq_getElem hlt⟩
      have hfo := FieldOk.below (H1.out.2 d (List.mem_of_getElem? hd)) HBW.out |>.2
      obtain ⟨g, o, rfl, hx⟩ := (H1.out.1.rest (Rest.below HBW.out) (fun _ _ e => e)).at_ hd
      have x0 : wr.cell? ⟨g, o + i * 15, none⟩ = some (.string (strL d.name)) := hx 0 _ rfl
      have x1 : wr.cell? ⟨g, o + i * 15 + 1, none⟩ = some (.int .i64 d.kind) := hx 1 _ rfl
      have x2 : wr.cell? ⟨g, o + i * 15 + 2, none⟩ = some (.int .i64 d.bits) := hx 2 _ rfl
      have x3 : wr.cell? ⟨g, o + i * 15 + 3, none⟩ = some (.bool d.little) := hx 3 _ rfl
      have x4 : wr.cell? ⟨g, o + i * 15 + 4, none⟩ = some (.bool d.loose) := hx 4 _ rfl
      have x5 : wr.cell? ⟨g, o + i * 15 + 5, none⟩ = some (.int .i64 d.low) := hx 5 _ rfl
      have x6 : wr.cell? ⟨g, o + i * 15 + 6, none⟩ = some (.int .i64 d.high) := hx 6 _ rfl
      have x7 : wr.cell? ⟨g, o + i * 15 + 7, none⟩ = some (.int .i64 d.base) := hx 7 _ rfl
      have x8 : wr.cell? ⟨g, o + i * 15 + 8, none⟩ = some (.slice d.ta d.terms.length d.tc) := hx 8 _ rfl
      have x9 : wr.cell? ⟨g, o + i * 15 + 9, none⟩ = some (.string (strL d.of_)) := hx 9 _ rfl
      have x10 : wr.cell? ⟨g, o + i * 15 + 10, none⟩ = some (.string (strL d.tag)) := hx 10 _ rfl
      have x11 : wr.cell? ⟨g, o + i * 15 + 11, none⟩ = some (.string (strL d.from_)) := hx 11 _ rfl
      have x12 : wr.cell? ⟨g, o + i * 15 + 12, none⟩ = some (.slice d.ca d.cases.length d.cc) := hx 12 _ rfl
      have x13 : wr.cell? ⟨g, o + i * 15 + 13, none⟩ = some (.int .i64 d.check) := hx 13 _ rfl
      have x14 : wr.cell? ⟨g, o + i * 15 + 14, none⟩ = some (.int .i64 d.key) := hx 14 _ rfl
      have hstep : addAll [] ((D.take (i + 1)).flatMap targB) = addAll (addAll [] ((D.take i).flatMap targB)) (targB d) := by rw [(drop_of hd).2, List.flatMap_append, addAll_append]; simp
      have hlen2 : (addAll [] ((D.take i).flatMap targB)).length + (targB d).length ≤ 4000000000 := by
        have h1 := addAll_len ((D.take i).flatMap targB) []
        have h2 : ((D.take (i + 1)).flatMap targB).length ≤ (D.flatMap targB).length := by
          conv => rhs; rw [← List.take_append_drop (i + 1) D, List.flatMap_append, List.length_append]
          omega
        rw [(drop_of hd).2, List.flatMap_append, List.length_append] at h2
        simp only [List.flatMap_cons, List.flatMap_nil, List.append_nil, List.length_nil, Nat.zero_add] at h1 h2
        have := HLN.out
        omega
      obtain ⟨N, hN⟩ : ∃ N, addAll [] ((D.take i).flatMap targB) = N := ⟨_, rfl⟩
      obtain ⟨T, hT⟩ : ∃ T, targB d = T := ⟨_, rfl⟩
      rw [hN] at RO hstep hlen2 ⊢
      rw [hT] at hstep hlen2
      have hal := below_alloc wr (.cells #[.string (strL d.name), .int .i64 d.kind, .int .i64 d.bits, .bool d.little, .bool d.loose, .int .i64 d.low, .int .i64 d.high, .int .i64 d.base, .slice d.ta d.terms.length d.tc, .string (strL d.of_), .string (strL d.tag), .string (strL d.from_), .slice d.ca d.cases.length d.cc, .int .i64 d.check, .int .i64 d.key] 55)
      have hbx := FBox.new wr d
      obtain ⟨tb, etb⟩ : ∃ tb, wr.heap.size = tb := ⟨_, rfl⟩
      obtain ⟨w2, hw2⟩ : ∃ w2, wr.alloc (.cells #[.string (strL d.name), .int .i64 d.kind, .int .i64 d.bits, .bool d.little, .bool d.loose, .int .i64 d.low, .int .i64 d.high, .int .i64 d.base, .slice d.ta d.terms.length d.tc, .string (strL d.of_), .string (strL d.tag), .string (strL d.from_), .slice d.ca d.cases.length d.cc, .int .i64 d.check, .int .i64 d.key] 55) = w2 := ⟨_, rfl⟩
      rw [hw2] at hal hbx
      rw [etb] at hbx
      have KF : Hid (∀ wx, Below w2.heap.size w2 wx → FBox wx tb d) := Lib.hid (fun wx hb => hbx.below hb hbx.lt)
      have TB := Lib.hid hbx.lt
      have ST := Lib.hid hstep
      have L2 := Lib.hid hlen2
      have HT := Lib.hid hT
      have HN := Lib.hid hN
      have W2 := Lib.hid hw2
      have ETB := Lib.hid etb
      have HB2 := Lib.hid (HBW.out.trans (hal.mono HBW.out.size))
      have RO2 := Lib.hid (own_below RO.out hal)
      have OG := Lib.hid (fun k hk => (own_ge RO.out k hk).2)
      have CS := Lib.hid (hfo.below hal)
      obtain ⟨s7, e7⟩ : ∃ s, (d.kind == 7) = s := ⟨_, rfl⟩
      obtain ⟨s8, e8⟩ : ∃ s, (d.kind == 8) = s := ⟨_, rfl⟩
      obtain ⟨s12, e12⟩ : ∃ s, (d.kind == 12) = s := ⟨_, rfl⟩
      obtain ⟨s9, e9⟩ : ∃ s, (d.kind == 9) = s := ⟨_, rfl⟩
      have hTT : T = if s9 then d.cases.map (·.of_) else if (s7 || s8 || s12) then [d.of_] else [] := by rw [← hT]; unfold targB; rw [e7, e8, e9, e12]
      have hx9 : s9 = true → (s7 || s8 || s12) = false := by
        intro h
        rw [h] at e9
        have h9 : d.kind = 9 := by simpa using e9
        rw [← e7, ← e8, ← e12, h9]
        rfl
      obtain ⟨SS, hSS⟩ : ∃ SS, (s7 || s8 || s12) = SS := ⟨_, rfl⟩
      rw [hSS] at hTT hx9
      have TT := Lib.hid hTT
      have X9 := Lib.hid hx9
      have HSS := Lib.hid hSS
      clear hd hx hstep hlen2 hN hT hal hbx etb hw2 hfo RO hTT hx9 hSS
      go_upto_region 6 with fail
      rw [W2.out, ETB.out]
      clear x0 x1 x2 x3 x4 x5 x6 x7 x8 x9 x10 x11 x12 x13 x14 p1
      have y1 := (KF.out w2 (Below.refl _ _)).c1
      have y9 := (KF.out w2 (Below.refl _ _)).c9
      go_upto_region 7 with fail
      go_cut [35] from 23 to 94 (fun x35 wx => x35 = .bool SS ∧ wx = w2)
      case first =>
        have hs := HSS.out
        cases s7 <;> cases s8 <;> cases s12
        all_goals
          go_wp2_with fail
          go_meet
          case rel => exact ⟨by rw [← hs]; rfl, rfl⟩
      case rest =>
      obtain ⟨rfl, hwc⟩ := hcut
      rw [hwc]
      clear hwc y1
      obtain ⟨L1, hL1⟩ : ∃ L1, (if SS then [d.of_] else []) = L1 := ⟨_, rfl⟩
      have HL1 := Lib.hid hL1
      have HWL := Lib.hid (show wr.heap.size ≤ w2.heap.size by have := HB2.out.size; have := TB.out; have := ETB.out; omega)
      clear hL1
      go_upto_if 35 with fail
      go_cut [6] from 23 to 94 (fun x6 wx => ∃ LA lc, x6 = .slice LA L1.length lc ∧ Rows2 w1.heap.size w2.heap.size wx OA oc N LA lc L1 ∧ Below w2.heap.size w2 wx)
      case first =>
        cases SS
        · have e : [] = L1 := HL1.out
          subst e
          go_wp2_with fail
          go_meet
          case rel => exact ⟨none, 0, rfl, ⟨RO2.out, own_nil _ _, fun k _ e => by cases e⟩, Below.refl _ _⟩
        · have e : [d.of_] = L1 := HL1.out
          subst e
          have HALq := Lib.hid (below_alloc w2 (.cells #[.string (strL d.of_)] 9))
          go_wp2_with (at_builtin; go_must (refine wpList_append_own_at _ rfl _ _ 94 rfl w2.heap.size 9 i0 (.string ⟨#[]⟩) 1 16 Tryz.underlying94 INF.out.1 INF.out.2.1 INF.out.2.2.1 INF.out.2.2.2 rfl (by decide) _ _ _ rfl (own_nil _ _) ⟨w2.heap.size, 0, none⟩ 1 1 [.string (strL d.of_)] rfl rfl (news1 w2 d.of_ 9) (fun u hu => by simp only [List.mem_cons, List.not_mem_nil, or_false] at hu; rw [hu]; rfl) (by unfold maxLen; omega) (by omega) (by simp) ?_); go_must (intro v1 w3 hown1 hgrow1 _ hblk1); have HG1 := Lib.hid (And.intro hown1 (And.intro hgrow1 hblk1)); clear hown1 hgrow1 hblk1)
          obtain ⟨hown, hgrow, hblk⟩ := HG1.out
          have hown' : w3.ownsRow w2.heap.size 9 1 v1 1 (txt [d.of_]) := hown
          obtain ⟨LA, lc, rfl⟩ := row_shape hown'
          have hb3 : Below w2.heap.size w2 w3 := HALq.out.grown hgrow HALq.out.size (fun k e => by cases e)
          have hro3 := own_below RO2.out hb3
          have hne : ∀ k, Value.ownBlock (.slice OA N.length oc) = some k → Value.ownBlock (.slice LA 1 lc) ≠ some k := fun k hk e => by
            have h1 := OG.out k hk
            have h2 := HWL.out
            rcases hblk with h | h
            · rw [h] at e; cases e
            · rw [h] at e
              simp only [Option.some.injEq, World.size_alloc] at e
              omega
          have R3 := Lib.hid (Rows2.mk (T := [d.of_]) hro3 hown' hne)
          have B3 := Lib.hid hb3
          clear hown hgrow hblk hown' hb3 hro3 hne HG1
          go_wp2_with fail
          go_meet
          case rel => exact ⟨LA, lc, rfl, R3.out, B3.out⟩
      case rest =>
      obtain ⟨LA, lc, rfl, hr2, hb3⟩ := hcut
      have R3 := Lib.hid hr2
      have B3 := Lib.hid hb3
      obtain ⟨w3, hw3⟩ : ∃ w3 : World, w3 = wc := ⟨_, rfl⟩
      rw [← hw3] at R3 B3 ⊢
      clear hr2 hb3 hw3 y9
      go_wp2_with fail
      go_loopw [6, 7] (fun x6 x7 wx => ∃ k : Nat, x7 = .int .i64 ((k : Nat) : Int) ∧ (s9 = false → k = 0) ∧ k ≤ d.cases.length ∧ ∃ LA lc, x6 = .slice LA (L1 ++ (d.cases.take k).map (·.of_)).length lc ∧ Rows2 w1.heap.size w2.heap.size wx OA oc N LA lc (L1 ++ (d.cases.take k).map (·.of_)) ∧ Below w2.heap.size w2 wx) (fun _ x7 _ => d.cases.length - (intOf x7).toNat)
      case atStart => exact ⟨0, rfl, fun _ => rfl, Nat.zero_le _, LA, lc, by simp, by simpa using R3.out, B3.out⟩
      case round =>
        obtain ⟨k, rfl, hk0, hkl, LA, lc, rfl, hr4, hb4⟩ := hrel
        obtain ⟨L3, hL3⟩ : ∃ L3, L1 ++ (d.cases.take k).map (·.of_) = L3 := ⟨_, rfl⟩
        rw [hL3] at hr4 ⊢
        have HL3 := Lib.hid hL3
        have R4 := Lib.hid hr4
        have B4 := Lib.hid hb4
        have HK0 := Lib.hid hk0
        have y1 := (KF.out wr hb4).c1
        have y12 := (KF.out wr hb4).c12
        have hcl : d.cases.length ≤ 9223372036854775807 := Nat.le_trans CS.out.1 CS.out.2.1
        clear hr4 hb4 hk0 R3 B3 hL3
        obtain ⟨w4, hw4⟩ : ∃ w4 : World, w4 = wr := ⟨_, rfl⟩
        rw [← hw4] at R4 B4 y1 y12 ⊢
        clear hw4
        go_upto_region 10 with fail
        go_cut [50] from 41 to 61 (fun x50 wx => x50 = .bool (s9 && decide (k < d.cases.length)) ∧ wx = w4)
        case first =>
          cases s9
          · go_wp2_with fail
            go_meet
            case rel => exact ⟨rfl, rfl⟩
          · by_cases hkk : k < d.cases.length
            all_goals
              go_wp2_with fail
              go_meet
              case rel => exact ⟨by simp [hkk], rfl⟩
        case rest =>
        obtain ⟨rfl, hwc⟩ := hcut
        rw [hwc]
        clear hwc y1
        by_cases hc : s9 = true ∧ k < d.cases.length
        · obtain ⟨rfl, hkk⟩ := hc
          have hcond : (true && decide (k < d.cases.length)) = true := by simp [hkk]
          rw [hcond]
          clear hcond
          obtain ⟨cd, hcd⟩ : ∃ cd, d.cases[k]? = some cd := ⟨_, List.getElem?_eq_getElem hkk⟩
          obtain ⟨cg, co, hA, hxc⟩ := (CS.out.below B4.out).at_ hcd
          have y2 := y12
          rw [hA] at y2
          have z2 : w4.cell? ⟨cg, co + k * 3 + 2, none⟩ = some (.string (strL cd.of_)) := hxc 2 _ rfl
          have HALq := Lib.hid (below_alloc w4 (.cells #[.string (strL cd.of_)] 9))
          have hbd : L3.length + 1 ≤ 4000000001 := by
            rw [← HL3.out]
            have h1 := L2.out
            have h2 := TT.out
            have h3 := X9.out rfl
            have h4 := HL1.out
            rw [h3] at h4
            rw [if_pos rfl] at h2
            have h5 : [] = L1 := h4
            rw [← h5, List.nil_append, List.length_map, List.length_take]
            rw [h2, List.length_map] at h1
            omega
          have HCT := Lib.hid (show (d.cases.take (k + 1)).map (·.of_) = (d.cases.take k).map (·.of_) ++ [cd.of_] by rw [(drop_of hcd).2, List.map_append]; rfl)
          clear hA hxc hcd y12
          go_wp2_with (at_builtin; go_must (refine wpList_append_own_at _ rfl _ _ 94 rfl w2.heap.size 9 i0 (.string ⟨#[]⟩) 1 16 Tryz.underlying94 INF.out.1 INF.out.2.1 INF.out.2.2.1 INF.out.2.2.2 rfl (by decide) _ _ _ rfl (own_below R4.out.l HALq.out) ⟨w4.heap.size, 0, none⟩ 1 1 [.string (strL cd.of_)] rfl rfl (news1 w4 cd.of_ 9) (fun u hu => by simp only [List.mem_cons, List.not_mem_nil, or_false] at hu; rw [hu]; rfl) (by unfold maxLen; omega) (by omega) (by have := B4.out.size; simp; omega) ?_); go_must (intro v1 w5 hown1 hgrow1 _ hblk1); have HG1 := Lib.hid (And.intro hown1 (And.intro hgrow1 hblk1)); clear hown1 hgrow1 hblk1)
          obtain ⟨hown, hgrow, hblk⟩ := HG1.out
          have hown' : w5.ownsRow w2.heap.size 9 1 v1 (L3 ++ [cd.of_]).length (txt (L3 ++ [cd.of_])) := by rw [List.length_append, txt, List.map_append]; exact hown
          obtain ⟨LA2, lc2, rfl⟩ := row_shape hown'
          have hb5 : Below w2.heap.size w2 w5 := by
            have h0 := B4.out.trans (HALq.out.mono B4.out.size)
            exact h0.grown hgrow h0.size (fun k hk => (own_ge R4.out.l k hk).1)
          have hr5 : Rest (fun k => Value.ownBlock (.slice LA L3.length lc) = some k) w4 w5 := ((Rest.refl _ w4).alloc _).grown hgrow (fun k hk _ => hk)
          have hro5 := hr5.row R4.out.out (fun k hk e => R4.out.ne k hk e)
          have hne5 : ∀ k, Value.ownBlock (.slice OA N.length oc) = some k → Value.ownBlock (.slice LA2 (L3 ++ [cd.of_]).length lc2) ≠ some k := fun k hk e => by
            rcases hblk with h | h
            · exact R4.out.ne k hk (h.symm.trans e)
            · rw [h] at e
              simp only [Option.some.injEq, World.size_alloc] at e
              have := (own_ge R4.out.out k hk).2
              omega
          have HCE := Lib.hid (show L1 ++ (d.cases.take (k + 1)).map (·.of_) = L3 ++ [cd.of_] by rw [HCT.out, ← List.append_assoc, HL3.out])
          have R5 := Lib.hid (Rows2.mk (T := L3 ++ [cd.of_]) hro5 hown' hne5)
          have B5 := Lib.hid hb5
          clear hown hgrow hblk hown' hb5 hr5 hro5 hne5 HG1 y2 z2
          go_wp2_with fail
          go_roundw
          case rel => exact ⟨k + 1, by go_num, (fun e => by cases e), by omega, LA2, lc2, by rw [HCE.out], by rw [HCE.out]; exact R5.out, B5.out⟩
          case measure => simp [intOf]; omega
        · have hcond : (s9 && decide (k < d.cases.length)) = false := by
            cases s9
            · rfl
            · simp only [true_and] at hc
              simp [hc]
          rw [hcond]
          have hLT : L3 = T := by
            rw [TT.out, ← HL3.out, ← HL1.out]
            cases s9 with
            | false =>
              have := HK0.out rfl
              subst this
              simp
            | true =>
              have h1 := X9.out rfl
              rw [h1]
              simp only [true_and] at hc
              have : k = d.cases.length := by omega
              subst this
              simp
          rw [hLT] at R4 ⊢
          clear hc hcond hLT y12 HL3 HK0 CS X9 TT HL1 HSS KF hcl
          go_wp2_with fail
          go_loopw [3, 8] (fun x3 x8 wx => ∃ m : Nat, m ≤ T.length ∧ x8 = .int .i64 ((m : Nat) : Int) ∧ ∃ OA oc, x3 = .slice OA (addAll N (T.take m)).length oc ∧ Rows2 w1.heap.size w2.heap.size wx OA oc (addAll N (T.take m)) LA lc T ∧ Below w1.heap.size w1 wx ∧ w4.heap.size ≤ wx.heap.size) (fun _ x8 _ => T.length - (intOf x8).toNat)
          case atStart => exact ⟨0, Nat.zero_le _, rfl, OA, oc, rfl, R4.out, HB2.out.trans (B4.out.mono HB2.out.size), Nat.le_refl _⟩
          case round =>
            obtain ⟨m, hm, rfl, OA, oc, rfl, hr5, hb5, hs5⟩ := hrel
            have hnl : (addAll N (T.take m)).length ≤ N.length + m := by
              have := addAll_len (T.take m) N
              rw [List.length_take] at this
              omega
            have hn2 := L2.out
            obtain ⟨M, hM⟩ : ∃ M, addAll N (T.take m) = M := ⟨_, rfl⟩
            rw [hM] at hr5 hnl ⊢
            have R5 := Lib.hid hr5
            have B5 := Lib.hid hb5
            have S5 := Lib.hid hs5
            have HM := Lib.hid hM
            clear hr5 hb5 hs5 hM R4
            obtain ⟨w5, hw5⟩ : ∃ w5 : World, w5 = wr := ⟨_, rfl⟩
            rw [← hw5] at R5 B5 S5 ⊢
            clear hw5
            by_cases hml : m < T.length
            · obtain ⟨s, hs⟩ : ∃ s, T[m]? = some s := ⟨_, List.getElem?_eq_getElem hml⟩
              have hstp : addAll N (T.take (m + 1)) = addN M s := by rw [← HM.out]; exact addAll_step hs
              obtain ⟨lg, lo, e1, _, hxl⟩ := (slAt_txt R5.out.l).2.2 m s hs
              subst e1
              have l0 : w5.cell? ⟨lg, lo + m, none⟩ = some (.string (strL s)) := by have := hxl 0 _ rfl; simpa using this
              have HSP := Lib.hid hstp
              have hml0 : (0 : Int) ≤ ((m : Nat) : Int) := by omega
              have hml1 : ((m : Nat) : Int) < ((T.length : Nat) : Int) := by omega
              have LL := Lib.hid (fun wx (hb : Below w5.heap.size w5 wx) => (hb.cell (p := ⟨lg, lo + m, none⟩) (World.block_lt_of_cell? _ _ l0)).trans l0)
              clear hs hxl hstp l0
              go_wp2_with fail
              go_loopw [9, 10] (fun x9 x10 wy => ∃ j : Nat, j ≤ M.length ∧ x10 = .int .i64 ((j : Nat) : Int) ∧ x9 = .bool ((M.take j).contains s) ∧ Below w5.heap.size w5 wy) (fun _ x10 _ => M.length - (intOf x10).toNat)
              case atStart => exact ⟨0, Nat.zero_le _, rfl, by simp, Below.refl _ _⟩
              case round =>
                obtain ⟨j, hj, rfl, rfl, hb6⟩ := hrel
                obtain ⟨sn, hsn⟩ : ∃ sn, (M.take j).contains s = sn := ⟨_, rfl⟩
                rw [hsn] at ⊢
                have B6 := Lib.hid hb6
                have HSN := Lib.hid hsn
                clear hb6 hsn
                by_cases hjl : j < M.length
                · obtain ⟨q, hq⟩ : ∃ q, M[j]? = some q := ⟨_, List.getElem?_eq_getElem hjl⟩
                  obtain ⟨og, oo, e1, _, hxo⟩ := (slAt_txt (own_below R5.out.out B6.out)).2.2 j q hq
                  subst e1
                  have o0 : wr.cell? ⟨og, oo + j, none⟩ = some (.string (strL q)) := by have := hxo 0 _ rfl; simpa using this
                  have l0 := LL.out wr B6.out
                  have hj0 : (0 : Int) ≤ ((j : Nat) : Int) := by omega
                  have hj1 : ((j : Nat) : Int) < ((M.length : Nat) : Int) := by omega
                  have htk : (M.take (j + 1)).contains s = (sn || (q == s)) := by
                    rw [(drop_of hq).2, ← HSN.out, List.contains_append]
                    rw [one_elem]
                  have HTK := Lib.hid htk
                  clear hq hxo htk
                  cases sn with
                  | true =>
                    go_wp2_with fail
                    go_quiet (fail)
                    go_wp2_with fail
                    go_roundw
                    case rel => exact ⟨j + 1, by omega, by go_num, by rw [HTK.out]; rfl, B6.out.trans ((below_drewN _ _).mono B6.out.size)⟩
                    case measure => simp [intOf]; omega
                  | false =>
                    by_cases he : q = s
                    · have HQ := Lib.hid (show (false || (q == s)) = true by simp [he])
                      subst he
                      go_wp2_with fail
                      go_quiet (fail)
                      go_wp2_with fail
                      go_roundw
                      case rel => exact ⟨j + 1, by omega, by go_num, by rw [HTK.out, HQ.out], B6.out.trans ((below_drewN _ _).mono B6.out.size)⟩
                      case measure => simp [intOf]; omega
                    · have HQ := Lib.hid (show (false || (q == s)) = false by simpa using he)
                      have e1 := text_ne he
                      clear he
                      go_wp2_with fail
                      go_quiet (fail)
                      go_wp2_with fail
                      go_roundw
                      case rel => exact ⟨j + 1, by omega, by go_num, by rw [HTK.out, HQ.out], B6.out.trans ((below_drewN _ _).mono B6.out.size)⟩
                      case measure => simp [intOf]; omega
                · obtain rfl : j = M.length := by omega
                  have hsn2 := HSN.out
                  rw [List.take_length] at hsn2
                  have HS2 := Lib.hid hsn2
                  have R6 := Lib.hid (R5.out.below B6.out)
                  have B16 := Lib.hid (B5.out.trans (B6.out.mono B5.out.size))
                  have S6 := Lib.hid (Nat.le_trans S5.out B6.out.size)
                  have l0 := LL.out wr B6.out
                  clear hsn2 HSN LL
                  cases sn with
                  | true =>
                    have HAD := Lib.hid (show addAll N (T.take (m + 1)) = M by rw [HSP.out]; unfold addN; rw [HS2.out]; rfl)
                    go_wp2_with fail
                    go_roundw
                    case rel => exact ⟨m + 1, by omega, by go_num, OA, oc, by rw [HAD.out], by rw [HAD.out]; exact R6.out, B16.out, S6.out⟩
                    case measure => simp [intOf]; omega
                  | false =>
                    have HAD := Lib.hid (show addAll N (T.take (m + 1)) = M ++ [s] by rw [HSP.out]; unfold addN; rw [HS2.out]; rfl)
                    have HALq := Lib.hid (below_alloc wr (.cells #[.string (strL s)] 9))
                    go_wp2_with (at_builtin; go_must (refine wpList_append_own_at _ rfl _ _ 94 rfl w1.heap.size 9 i0 (.string ⟨#[]⟩) 1 16 Tryz.underlying94 INF.out.1 INF.out.2.1 INF.out.2.2.1 INF.out.2.2.2 rfl (by decide) _ _ _ rfl (own_below R6.out.out HALq.out) ⟨wr.heap.size, 0, none⟩ 1 1 [.string (strL s)] rfl rfl (news1 wr s 9) (fun u hu => by simp only [List.mem_cons, List.not_mem_nil, or_false] at hu; rw [hu]; rfl) (by unfold maxLen; omega) (by omega) (by have := B16.out.size; simp; omega) ?_); go_must (intro v1 w7 hown1 hgrow1 _ hblk1); have HG1 := Lib.hid (And.intro hown1 (And.intro hgrow1 hblk1)); clear hown1 hgrow1 hblk1)
                    obtain ⟨hown, hgrow, hblk⟩ := HG1.out
                    have hown' : w7.ownsRow w1.heap.size 9 1 v1 (M ++ [s]).length (txt (M ++ [s])) := by rw [List.length_append, txt, List.map_append]; exact hown
                    obtain ⟨OA2, oc2, rfl⟩ := row_shape hown'
                    have hb7 : Below w1.heap.size w1 w7 := by
                      have h0 := B16.out.trans (HALq.out.mono B16.out.size)
                      exact h0.grown hgrow h0.size (fun k hk => (own_ge R6.out.out k hk).1)
                    have hr7 : Rest (fun k => Value.ownBlock (.slice OA M.length oc) = some k) wr w7 := ((Rest.refl _ wr).alloc _).grown hgrow (fun k hk _ => hk)
                    have hrl7 := hr7.row R6.out.l (fun k hk e => R6.out.ne k e hk)
                    have hne7 : ∀ k, Value.ownBlock (.slice OA2 (M ++ [s]).length oc2) = some k → Value.ownBlock (.slice (some ⟨lg, lo, none⟩) T.length lc) ≠ some k := fun k hk e => by
                      rcases hblk with h | h
                      · exact R6.out.ne k (h.symm.trans hk) e
                      · rw [h] at hk
                        simp only [Option.some.injEq, World.size_alloc] at hk
                        have := (own_ge R6.out.l k e).2
                        omega
                    have R7 := Lib.hid (Rows2.mk (N := M ++ [s]) hown' hrl7 hne7)
                    have B7 := Lib.hid hb7
                    have S7 := Lib.hid (Nat.le_trans S6.out hr7.size)
                    clear hown hgrow hblk hown' hb7 hr7 hrl7 hne7 HG1 l0
                    go_wp2_with fail
                    go_roundw
                    case rel => exact ⟨m + 1, by omega, by go_num, OA2, oc2, by rw [HAD.out], by rw [HAD.out]; exact R7.out, B7.out, S7.out⟩
                    case measure => simp [intOf]; omega
            · obtain rfl : m = T.length := by omega
              have hst := ST.out
              rw [← List.take_length (l := T)] at hst
              have HE := Lib.hid (hst.trans HM.out)
              clear hst
              go_wp2_with fail
              go_roundw
              case rel => exact ⟨i + 1, by omega, by go_num, OA, oc, by rw [HE.out], by rw [HE.out]; exact R5.out.out, B5.out⟩
              case measure => simp [intOf]; omega
    · obtain rfl : i = D.length := by omega
      have hro := RO.out
      rw [List.take_length] at hro ⊢
      have RO9 := Lib.hid hro
      clear hro
      go_wp2_with fail
      go_ret
      exact ⟨OA, oc, rfl, own_mono RO9.out HAL.out.size, HAL.out.trans (HBW.out.mono HAL.out.size)⟩
end Go.Proofs.YtbpkppmbbpoohaaGreat
