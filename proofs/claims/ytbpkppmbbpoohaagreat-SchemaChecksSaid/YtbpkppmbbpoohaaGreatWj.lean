/- Which messages are strict, and how deep one is, as the document says. Conditions: the messages lie in memory; those asked have passed. -/
import Derived.Test.YtbpkppmbbpoohaaGreatVo
import Derived.Test.YtbpkppmbbpoohaaGreatTb
import Derived.Test.YtbpkppmbbpoohaaGreatFb
import Derived.Test.YtbpkppmbbpoohaaGreatVl
import Derived.Test.YtbpkppmbbpoohaaGreatCa
import Derived.Lib.QuietBelow
namespace Go.Proofs.YtbpkppmbbpoohaaGreat
open Go.RowKit Go.Shelf

theorem Tryz.infoBool : (Tryz.prog.info? 4).map (fun i => (i.zero, i.size, i.bytes)) = some (some (.bool false), 1, 1) := by kernel_rfl
theorem bool_one (b : Bool) : ∀ u ∈ [Value.bool b], u.oneCell' = true := fun u hu => by
  simp only [List.mem_cons, List.not_mem_nil, or_false] at hu
  rw [hu]
  rfl
theorem own_nilB (w : World) (lo : Nat) : w.ownsRow lo 4 1 (.slice none 0 0) 0 (([] : List Bool).flatMap boolCell) := ⟨rfl, .inl ⟨rfl, rfl⟩⟩
theorem slAt_bool {lo c n : Nat} {W : World} {A : Option Addr} {L : List Bool} (hn : L.length = n) (h : W.ownsRow lo 4 1 (.slice A n c) n (L.flatMap boolCell)) : SlAt boolCell 1 (fun k => k < lo) W A c L := by
  subst hn
  exact slAt_own (cf := boolCell) (s := 1) (t := 4) (fun _ => rfl) h
theorem SlAt.weakJ {α : Type} {cs : α → List Value} {s c : Nat} {S : Nat → Prop} {W : World} {A : Option Addr} {D : List α} (h : SlAt cs s S W A c D) : SlAt cs s (fun _ => False) W A c D := ⟨h.1, h.2.1, fun i d hi => by
  obtain ⟨g, o, a, _, x⟩ := h.2.2 i d hi
  exact ⟨g, o, a, fun e => e, x⟩⟩

/-- Whether a message among those that passed is strict. -/
def sV (E : Nats) (m : MsgD) : Bool := ((getN E m.name).getD (0, false)).2
theorem msg_few {E : Nats} {mm : MsgD} (h : MsgOkR E mm) : (mm.fields.flatMap targB).length ≤ 4000000000 := by
  have h1 := targs_few mm.fields (fun d hd => targ_few (cases_few h.fields hd))
  have h2 : 1 ≤ (mm.fields.length : Int) ∧ (mm.fields.length : Int) ≤ 40 := by simpa [inB] using h.few
  omega
/-- What is told of a reference of a message that has passed. -/
theorem ref_idx {D : List MsgD} {n a : Nat} {m : MsgD} {s : List UInt8} (hp : msgsR mrA [] 0 (D.take n) = none) (ha : a < n) (hm : D[a]? = some m) (hs : s ∈ refsN m.fields) :
    ∃ (j : Nat) (mj : MsgD), D[j]? = some mj ∧ j < a ∧ mj.name = s ∧ idxOf (fun d : MsgD => d.name == s) (D.take a) = ((j : Nat) : Int) ∧ getN (defE (D.take a)) s = some (natS (defE (D.take j)) mj.fields) ∧ getN (defE (D.take n)) s = some (natS (defE (D.take j)) mj.fields) := by
  have hma : (D.take n)[a]? = some m := by rw [List.getElem?_take, if_pos ha]; exact hm
  obtain ⟨h1, h2, _⟩ := msgsR_each _ _ _ hp a m hma
  have e1 : ((D.take n).take a).foldl stepN [] = defE (D.take a) := by rw [List.take_take, Nat.min_eq_left (by omega)]; rfl
  rw [e1] at h1 h2
  have hpa : msgsR mrA [] 0 (D.take a) = none := by
    have hsp : D.take n = D.take a ++ (D.take n).drop a := by
      conv => lhs; rw [← List.take_append_drop a (D.take n)]
      rw [List.take_take, Nat.min_eq_left (by omega)]
    rw [hsp, msgsR_app] at hp
    exact (orD_none hp).1
  rcases nat_idx hpa s with ⟨_, hno⟩ | ⟨j, mj, hj, hja, hn, hi, hg⟩
  · have := refs_has h1.fields s hs
    unfold hasN at this
    rw [hno] at this
    cases this
  · exact ⟨j, mj, hj, hja, hn, hi, hg, h2 s _ hg⟩
theorem pass_take {D : List MsgD} {n a : Nat} {m : MsgD} (hp : msgsR mrA [] 0 (D.take n) = none) (ha : a < n) (hm : D[a]? = some m) : MsgOkR (defE (D.take a)) m ∧ getN (defE (D.take n)) m.name = some (natS (defE (D.take a)) m.fields) := by
  have hma : (D.take n)[a]? = some m := by rw [List.getElem?_take, if_pos ha]; exact hm
  obtain ⟨h1, _, h3⟩ := msgsR_each _ _ _ hp a m hma
  have e1 : ((D.take n).take a).foldl stepN [] = defE (D.take a) := by rw [List.take_take, Nat.min_eq_left (by omega)]; rfl
  rw [e1] at h1 h3
  exact ⟨h1, h3⟩

set_option maxRecDepth 100000 in
set_option maxHeartbeats 12800000 in
theorem refStricts (nm st : List UInt8) (A : Option Addr) (c : Nat) (D : List MsgD) (n : Nat) (hn : n ≤ D.length) (hn2 : n ≤ 1000) (S : Nat → Prop) (w : World) (h : MsgsAt S w A c D) (hp : msgsR mrA [] 0 (D.take n) = none) :
    Calls Tryz.prog 127 #[.agg #[.string (strL nm), .slice A D.length c, .string (strL st)], .int .i64 ((n : Nat) : Int)] w fun e w' => ∃ A' c', e = .returned (.slice A' n c') ∧ w'.ownsRow w.heap.size 4 1 (.slice A' n c') n (((D.take n).map (sV (defE (D.take n)))).flatMap boolCell) ∧ Below w.heap.size w w' := by
  have hl : D.length ≤ 9223372036854775807 := Nat.le_trans h.1.1 h.1.2.1
  have hal := below_alloc w (.cells #[.string (strL nm), .slice A D.length c, .string (strL st)] 24)
  have hbx : (w.alloc (.cells #[.string (strL nm), .slice A D.length c, .string (strL st)] 24)).heap[w.heap.size]? = some (.cells #[.string (strL nm), .slice A D.length c, .string (strL st)] 24 (0, 0)) := heap_alloc_new w _
  have h1 := h.below hal
  obtain ⟨b, eb⟩ : ∃ b, w.heap.size = b := ⟨_, rfl⟩
  obtain ⟨w1, hw1⟩ : ∃ w1, w.alloc (.cells #[.string (strL nm), .slice A D.length c, .string (strL st)] 24) = w1 := ⟨_, rfl⟩
  rw [hw1] at hal hbx h1
  rw [eb] at hbx
  have KD : Hid (∀ wx, Below w1.heap.size w1 wx → wx.cell? ⟨b, 0, none⟩ = some (.string (strL nm)) ∧ wx.cell? ⟨b, 1, none⟩ = some (.slice A D.length c) ∧ wx.cell? ⟨b, 2, none⟩ = some (.string (strL st))) := Lib.hid (fun wx hb => by
    have := (hb.block b (Array.getElem?_eq_some_iff.1 hbx).1).trans hbx
    exact ⟨by simp [World.cell?, this], by simp [World.cell?, this], by simp [World.cell?, this]⟩)
  have H1 : Hid (∀ wx, Below w1.heap.size w1 wx → MsgsAt S wx A c D) := Lib.hid (fun wx hb => h1.rest (Rest.below (S := fun _ => False) hb) (fun _ _ e => e.elim))
  obtain ⟨E, hE⟩ : ∃ E, defE (D.take n) = E := ⟨_, rfl⟩
  rw [hE]
  have HE := Lib.hid hE
  have HP := Lib.hid hp
  have HW := Lib.hid hw1
  have EB := Lib.hid eb
  have HAL := Lib.hid hal
  obtain ⟨i0, hi0, hz0, hz1, hz2⟩ := info_parts Tryz.infoBool
  have INF := Lib.hid (And.intro hi0 (And.intro hz0 (And.intro hz1 hz2)))
  clear h hp hal hbx h1 eb hw1 hE hi0 hz0 hz1 hz2
  go_enter Tryz.func127, Tryz.ntmps127
  go_upto_region 1 with fail
  rw [HW.out, EB.out]
  go_wp2_with fail
  go_loopw [5, 6] (fun x5 x6 wr => ∃ a : Nat, a ≤ n ∧ x6 = .int .i64 ((a : Nat) : Int) ∧ ∃ OA oc, x5 = .slice OA a oc ∧ wr.ownsRow w1.heap.size 4 1 (.slice OA a oc) a (((D.take a).map (sV E)).flatMap boolCell) ∧ Below w1.heap.size w1 wr) (fun _ x6 _ => n - (intOf x6).toNat)
  case atStart => exact ⟨0, Nat.zero_le _, rfl, none, 0, rfl, own_nilB _ _, Below.refl _ _⟩
  case round =>
    obtain ⟨a, ha, rfl, OA, oc, rfl, hro, hb⟩ := hrel
    have RO := Lib.hid hro
    have HB := Lib.hid hb
    clear hro hb
    by_cases hlt : a < n
    · obtain ⟨m, hm⟩ : ∃ m, D[a]? = some m := ⟨_, List.getElem?_eq_getElem (by omega)⟩
      have HM := Lib.hid hm
      have hpt := pass_take HP.out hlt hm
      rw [HE.out] at hpt
      have HPT := Lib.hid hpt
      clear hpt hm
      go_upto_region 7 with fail
      go_loopw [7, 8] (fun x7 x8 wx => ∃ i : Nat, i ≤ m.fields.length ∧ x8 = .int .i64 ((i : Nat) : Int) ∧ x7 = .bool (!((m.fields.take i).any (·.loose))) ∧ wx.ownsRow w1.heap.size 4 1 (.slice OA a oc) a (((D.take a).map (sV E)).flatMap boolCell) ∧ Below w1.heap.size w1 wx) (fun _ x8 _ => m.fields.length - (intOf x8).toNat)
      case atStart => exact ⟨0, Nat.zero_le _, rfl, by simp, RO.out, HB.out⟩
      case round =>
        obtain ⟨i, hi, rfl, rfl, hro, hb⟩ := hrel
        have RO2 := Lib.hid hro
        have HB2 := Lib.hid hb
        clear hro hb
        obtain ⟨d0, d1, d2⟩ := KD.out _ HB2.out
        have HMS := Lib.hid (H1.out _ HB2.out)
        obtain ⟨g, o, eA, hx⟩ := HMS.out.1.at_ HM.out
        rw [eA] at d1
        have EA := Lib.hid eA
        have m0 : wr.cell? ⟨g, o + a * 2, none⟩ = some (.string (strL m.name)) := hx 0 _ rfl
        have m1 : wr.cell? ⟨g, o + a * 2 + 1, none⟩ = some (.slice m.fa m.fields.length m.fc) := hx 1 _ rfl
        have ha0 : (0 : Int) ≤ ((a : Nat) : Int) := by omega
        have ha1 : ((a : Nat) : Int) < ((D.length : Nat) : Int) := by omega
        have hfl : m.fields.length ≤ 9223372036854775807 := by
          have := (HMS.out.2 m (List.mem_of_getElem? HM.out)).1
          exact Nat.le_trans this.1 this.2.1
        clear eA hx
        obtain ⟨sb, hsb⟩ : ∃ s, (!((m.fields.take i).any (·.loose))) = s := ⟨_, rfl⟩
        rw [hsb]
        have HSB := Lib.hid hsb
        clear hsb
        by_cases hil : i < m.fields.length
        · obtain ⟨f, hf⟩ : ∃ f, m.fields[i]? = some f := ⟨_, List.getElem?_eq_getElem hil⟩
          obtain ⟨fg, fo, eF, hy⟩ := (HMS.out.2 m (List.mem_of_getElem? HM.out)).1.at_ hf
          rw [eF] at m1
          have f4 : wr.cell? ⟨fg, fo + i * 15 + 4, none⟩ = some (.bool f.loose) := hy 4 _ rfl
          obtain ⟨lo, hlo⟩ : ∃ l, f.loose = l := ⟨_, rfl⟩
          rw [hlo] at f4
          have hnx : (!((m.fields.take (i + 1)).any (·.loose))) = (sb && !lo) := by
            rw [(drop_of hf).2, List.any_append, ← HSB.out, ← hlo]
            simp
          have HNX := Lib.hid hnx
          clear eF hy hf hlo hnx
          cases sb <;> cases lo
          all_goals
            go_wp2_with fail
            go_roundw
            case rel => exact ⟨i + 1, by omega, by go_num, by rw [HNX.out]; rfl, RO2.out, HB2.out⟩
            case measure => simp [intOf]; omega
        · obtain rfl : i = m.fields.length := by omega
          have hs0 := HSB.out
          rw [List.take_length] at hs0
          have HS0 := Lib.hid hs0
          have HRF := Lib.hid (refRefers_any m.name m.fa m.fc m.fields S wr (HMS.out.2 m (List.mem_of_getElem? HM.out)) (msg_few HPT.out.1))
          clear hs0
          go_upto_region 10 with fail
          go_upto_region 11 with (go_at_call 52; refine (HRF.out).mono ?_; rintro e w3 ⟨RA, rc, rfl, hrr, hb3⟩)
          have RR := Lib.hid hrr
          have RO3 := Lib.hid (own_below RO2.out hb3)
          have HB3 := Lib.hid (HB2.out.trans (hb3.mono HB2.out.size))
          obtain ⟨N, hN⟩ : ∃ N, refsN m.fields = N := ⟨_, rfl⟩
          rw [hN] at RR ⊢
          have HNN := Lib.hid hN
          clear hrr hb3 hN d0 d1 d2 m0 m1 HRF
          have hNl : N.length ≤ 4000000000 := by
            rw [← HNN.out]
            have h1 := addAll_len (m.fields.flatMap targB) []
            have h2 := msg_few HPT.out.1
            unfold refsN
            simp only [List.length_nil, Nat.zero_add] at h1
            omega
          have ha32 := Lib.hid ha1
          clear ha0 ha1
          go_wp2_with fail
          go_loopw [7, 10] (fun x7 x10 wx => ∃ i : Nat, i ≤ N.length ∧ x10 = .int .i64 ((i : Nat) : Int) ∧ x7 = .bool (natF (defE (D.take a)) (1, sb) (N.take i)).2 ∧ Below w3.heap.size w3 wx) (fun _ x10 _ => N.length - (intOf x10).toNat)
          case atStart => exact ⟨0, Nat.zero_le _, rfl, by simp [natF], Below.refl _ _⟩
          case round =>
            obtain ⟨i, hi, rfl, rfl, hb⟩ := hrel
            have HB4 := Lib.hid (HB3.out.trans (hb.mono HB3.out.size))
            have HB34 := Lib.hid hb
            have RR4 := Lib.hid (own_below RR.out hb)
            have RO4 := Lib.hid (own_below RO3.out hb)
            clear hb
            obtain ⟨sb2, hsb2⟩ : ∃ s, (natF (defE (D.take a)) (1, sb) (N.take i)).2 = s := ⟨_, rfl⟩
            rw [hsb2]
            have HSB2 := Lib.hid hsb2
            clear hsb2
            by_cases hil : i < N.length
            · obtain ⟨s, hs⟩ : ∃ s, N[i]? = some s := ⟨_, List.getElem?_eq_getElem hil⟩
              obtain ⟨j, mj, hj, hja, hnm, hidx, hga, hgn⟩ := ref_idx HP.out hlt HM.out (s := s) (by rw [HNN.out]; exact List.mem_of_getElem? hs)
              rw [HE.out] at hgn
              obtain ⟨v, hv⟩ : ∃ v, (natS (defE (D.take j)) mj.fields).2 = v := ⟨_, rfl⟩
              have hsv : sV E mj = v := by
                unfold sV
                rw [hnm, hgn]
                exact hv
              have hnx : (natF (defE (D.take a)) (1, sb) (N.take (i + 1))).2 = (sb2 && v) := by
                rw [(drop_of hs).2, natF_snoc]
                unfold natStep
                rw [hga]
                simp only [Option.getD_some]
                rw [HSB2.out, hv]
              have HNX := Lib.hid hnx
              obtain ⟨og, oo, eRA, _, hxr⟩ := (slAt_txt RR4.out).2.2 i s hs
              have r0 : wr.cell? ⟨og, oo + i, none⟩ = some (.string (strL s)) := by have := hxr 0 _ rfl; simpa using this
              have hbo := (slAt_bool (by simp; omega) RO4.out).at_ (i := j) (d := v) (by rw [List.getElem?_map, List.getElem?_take, if_pos hja, hj]; simp [hsv])
              obtain ⟨bg, bo, eOA, hxb⟩ := hbo
              have v0 : wr.cell? ⟨bg, bo + j, none⟩ = some (.bool v) := by have := hxb 0 _ rfl; simpa using this
              obtain ⟨d0, d1, d2⟩ := KD.out _ HB4.out
              have kd0 := cell_regrown d0
              have kd1 := cell_regrown d1
              have kd2 := cell_regrown d2
              have kr0 := cell_regrown r0
              have kv0 := cell_regrown v0
              have FC : ∀ wx, Below w1.heap.size w1 wx → Hid (Calls Tryz.prog 50 #[.agg #[.string (strL nm), .slice A D.length c, .string (strL st)], .string (strL s), .int .i64 ((a : Nat) : Int)] wx fun e w' => e = .returned (.int .i64 ((j : Nat) : Int)) ∧ Below wx.heap.size wx w') := fun wx hb => Lib.hid (by
                have := refFind_any nm st A c D s a (by omega) S wx (H1.out wx hb).1
                rwa [hidx] at this)
              have BD : Hid (∀ wx, Below wr.heap.size wr wx → Below w1.heap.size w1 wx) := Lib.hid (fun wx hb => HB4.out.trans (hb.mono HB4.out.size))
              have hi0 : (0 : Int) ≤ ((i : Nat) : Int) := by omega
              have hi1 : ((i : Nat) : Int) < ((N.length : Nat) : Int) := by omega
              have hj0 : (0 : Int) ≤ ((j : Nat) : Int) := by omega
              have hj1 : ((j : Nat) : Int) < ((a : Nat) : Int) := by omega
              subst eRA
              subst eOA
              clear hs hj hnm hidx hga hgn hv hsv hnx hxr hxb d0 d1 d2
              go_upto_region 14 with fail
              clear r0 v0
              cases sb2 with
              | false =>
                refine wp_region_quiet_below (by kernel_rfl) (by kernel_rfl) ?_
                repeat (go_big_quiet_step ((first | (go_at_call 50; exact Calls.regrown_of ((FC _ (BD.out _ (below_regrown _ _ _))).out)))))
                refine wpQuiet_nil ?_
                rintro _ ⟨p, rfl⟩
                have HB5 := Lib.hid (HB34.out.trans ((below_regrown wr p.d p.os).mono HB34.out.size))
                go_wp2_with fail
                go_roundw
                case rel => exact ⟨i + 1, by omega, by go_num, by rw [HNX.out]; rfl, HB5.out⟩
                case measure => simp [intOf]; omega
              | true =>
                refine wp_region_quiet_below (by kernel_rfl) (by kernel_rfl) ?_
                repeat (go_big_quiet_step ((first | (go_at_call 50; exact Calls.regrown_of ((FC _ (BD.out _ (below_regrown _ _ _))).out)))))
                refine wpQuiet_nil ?_
                rintro _ ⟨p, rfl⟩
                have HB5 := Lib.hid (HB34.out.trans ((below_regrown wr p.d p.os).mono HB34.out.size))
                go_wp2_with fail
                go_roundw
                case rel => exact ⟨i + 1, by omega, by go_num, by rw [HNX.out]; rfl, HB5.out⟩
                case measure => simp [intOf]; omega
            · obtain rfl : i = N.length := by omega
              have hsf : sb2 = sV E m := by
                have h1 := HSB2.out
                rw [List.take_length] at h1
                unfold sV
                rw [HPT.out.2, ← h1]
                unfold natS
                rw [HNN.out, HS0.out]
                rfl
              have HSF := Lib.hid hsf
              have hal4 := below_alloc wr (.cells #[.bool sb2] 4)
              have HALq := Lib.hid hal4
              have HNEW := Lib.hid (World.news_of_block (cs := #[Value.bool sb2]) (t := 4) (fr := (0, 0)) (heap_alloc_new wr (.cells #[.bool sb2] 4)))
              clear hsf hal4
              go_wp2_with (at_builtin; go_must (refine wpList_append_own_at _ rfl _ _ 112 rfl w1.heap.size 4 i0 _ 1 1 Tryz.underlying112 INF.out.1 INF.out.2.1 INF.out.2.2.1 INF.out.2.2.2 rfl (by decide) _ _ _ rfl (own_below RO4.out HALq.out) ⟨wr.heap.size, 0, none⟩ 1 1 [.bool sb2] rfl rfl HNEW.out (bool_one _) (by unfold maxLen; omega) (by omega) (by have := HB4.out.size; simp; omega) ?_); go_must (intro v1 w8 hown1 hgrow1 _ hblk1); have HG1 := Lib.hid (And.intro hown1 (And.intro hgrow1 hblk1)); clear hown1 hgrow1 hblk1)
              obtain ⟨hown, hgrow, hblk⟩ := HG1.out
              have hown' : w8.ownsRow w1.heap.size 4 1 v1 (a + 1) (((D.take (a + 1)).map (sV E)).flatMap boolCell) := by
                rw [(drop_of HM.out).2, List.map_append, List.flatMap_append, List.map_cons, List.map_nil, ← HSF.out]
                simpa [boolCell] using hown
              obtain ⟨LA2, lc2, rfl⟩ := row_shape hown'
              have hb8 : Below w1.heap.size w1 w8 := by
                have h0 := HB4.out.trans (HALq.out.mono HB4.out.size)
                exact h0.grown hgrow h0.size (fun k hk => (own_ge RO4.out k hk).1)
              have R8 := Lib.hid hown'
              have B8 := Lib.hid hb8
              clear hown hgrow hblk hown' hb8 HG1
              go_wp2_with fail
              go_roundw
              case rel => exact ⟨a + 1, by omega, by go_num, LA2, lc2, rfl, R8.out, B8.out⟩
              case measure => simp [intOf]; omega
    · obtain rfl : a = n := by omega
      have hro := own_mono RO.out HAL.out.size
      have HRO := Lib.hid hro
      clear hro
      go_wp2_with fail
      go_ret
      exact ⟨OA, oc, rfl, HRO.out, HAL.out.trans (HB.out.mono HAL.out.size)⟩
end Go.Proofs.YtbpkppmbbpoohaaGreat
