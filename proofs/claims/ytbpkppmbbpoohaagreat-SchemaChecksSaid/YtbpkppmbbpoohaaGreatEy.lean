/- The document's Equal of definitions. Conditions: they lie in memory. -/
import Derived.Test.YtbpkppmbbpoohaaGreatEg
import Derived.BigRegion
namespace Go.Proofs.YtbpkppmbbpoohaaGreat
open Go.RowKit Go.Shelf

theorem sameB_eq (d e : FieldD) : sameB d e = sameR d e := by
  unfold sameB sameR
  apply Bool.eq_iff_iff.2
  simp only [Bool.and_eq_true, decide_eq_true_eq]
  constructor
  · rintro ⟨⟨⟨⟨⟨⟨⟨⟨⟨⟨⟨⟨⟨h0, h1⟩, h2⟩, h3⟩, h4⟩, h5⟩, h6⟩, h7, h8⟩, h9⟩, h10⟩, h11⟩, h12⟩, h13⟩, h14⟩
    exact ⟨⟨h0, h1, h3, h4, h2, h5, h6, h7, by rw [h8], by rw [h12], h13, h14, h9, h10, h11⟩, h8, h12⟩
  · rintro ⟨⟨h0, h1, h3, h4, h2, h5, h6, h7, _, _, h13, h14, h9, h10, h11⟩, h8, h12⟩
    exact ⟨⟨⟨⟨⟨⟨⟨⟨⟨⟨⟨⟨⟨h0, h1⟩, h2⟩, h3⟩, h4⟩, h5⟩, h6⟩, h7, h8⟩, h9⟩, h10⟩, h11⟩, h12⟩, h13⟩, h14⟩
/-- A message in a block of its own. -/
structure MBx (W : World) (b : Nat) (m : MsgD) : Prop where
  blk : W.heap[b]? = some (.cells #[.string (strL m.name), .slice m.fa m.fields.length m.fc] 36 (0, 0))
theorem MBx.below {W W' : World} {b n : Nat} {m : MsgD} (h : MBx W b m) (hb : Below n W W') (hn : b < n) : MBx W' b m := ⟨(hb.block b hn).trans h.blk⟩
theorem MBx.lt {W : World} {b : Nat} {m : MsgD} (h : MBx W b m) : b < W.heap.size := (Array.getElem?_eq_some_iff.1 h.blk).1
theorem MBx.c0 {W : World} {b : Nat} {m : MsgD} (h : MBx W b m) : W.cell? ⟨b, 0, none⟩ = some (.string (strL m.name)) := by simp [World.cell?, h.blk]
theorem MBx.c1 {W : World} {b : Nat} {m : MsgD} (h : MBx W b m) : W.cell? ⟨b, 1, none⟩ = some (.slice m.fa m.fields.length m.fc) := by simp [World.cell?, h.blk]
theorem two_new (W : World) (m n : MsgD) : MBx ((W.alloc (.cells #[.string (strL m.name), .slice m.fa m.fields.length m.fc] 36)).alloc (.cells #[.string (strL n.name), .slice n.fa n.fields.length n.fc] 36)).drew W.heap.size m ∧ MBx ((W.alloc (.cells #[.string (strL m.name), .slice m.fa m.fields.length m.fc] 36)).alloc (.cells #[.string (strL n.name), .slice n.fa n.fields.length n.fc] 36)).drew (W.heap.size + 1) n ∧ Below W.heap.size W ((W.alloc (.cells #[.string (strL m.name), .slice m.fa m.fields.length m.fc] 36)).alloc (.cells #[.string (strL n.name), .slice n.fa n.fields.length n.fc] 36)).drew := by
  have h1 : MBx (W.alloc (.cells #[.string (strL m.name), .slice m.fa m.fields.length m.fc] 36)) W.heap.size m := ⟨heap_alloc_new W _⟩
  have b1 := below_alloc W (.cells #[.string (strL m.name), .slice m.fa m.fields.length m.fc] 36)
  generalize hw : W.alloc (.cells #[.string (strL m.name), .slice m.fa m.fields.length m.fc] 36) = w1 at *
  have sz : w1.heap.size = W.heap.size + 1 := by rw [← hw]; simp
  have h2 : MBx (w1.alloc (.cells #[.string (strL n.name), .slice n.fa n.fields.length n.fc] 36)) w1.heap.size n := ⟨heap_alloc_new w1 _⟩
  have b2 := below_alloc w1 (.cells #[.string (strL n.name), .slice n.fa n.fields.length n.fc] 36)
  rw [sz] at h2
  exact ⟨⟨(h1.below b2 h1.lt).blk⟩, ⟨h2.blk⟩, (b1.trans (b2.mono b1.size)).trans ⟨rfl, rfl, rfl, Nat.le_refl _, fun _ _ => rfl⟩⟩

set_option maxRecDepth 100000 in
set_option maxHeartbeats 12800000 in
theorem refEqual_any (na st na2 st2 : List UInt8) (A A2 : Option Addr) (c c2 : Nat) (D D2 : List MsgD) (S : Nat → Prop) (w : World) (hm : MsgsAt S w A c D) (hn : MsgsAt S w A2 c2 D2) :
    Calls Tryz.prog 16 #[.agg #[.string (strL na), .slice A D.length c, .string (strL st)], .agg #[.string (strL na2), .slice A2 D2.length c2, .string (strL st2)]] w fun x w' => x = .returned (.bool (sameD na st na2 st2 D D2)) ∧ Below w.heap.size w w' := by
  have hl : D.length ≤ 9223372036854775807 := Nat.le_trans hm.1.1 hm.1.2.1
  have hl2 : D2.length ≤ 9223372036854775807 := Nat.le_trans hn.1.1 hn.1.2.1
  obtain ⟨wa, hwa⟩ : ∃ wa, w.alloc (.cells #[.string (strL na), .slice A D.length c, .string (strL st)] 24) = wa := ⟨_, rfl⟩
  obtain ⟨w1, hw1⟩ : ∃ w1, wa.alloc (.cells #[.string (strL na2), .slice A2 D2.length c2, .string (strL st2)] 24) = w1 := ⟨_, rfl⟩
  have hw : (w.alloc (.cells #[.string (strL na), .slice A D.length c, .string (strL st)] 24)).alloc (.cells #[.string (strL na2), .slice A2 D2.length c2, .string (strL st2)] 24) = w1 := by rw [hwa, hw1]
  have ba : Below w.heap.size w wa := by rw [← hwa]; exact below_alloc _ _
  have b1 : Below wa.heap.size wa w1 := by rw [← hw1]; exact below_alloc _ _
  have sa : wa.heap.size = w.heap.size + 1 := by rw [← hwa]; simp
  have hb1 : Below w.heap.size w w1 := ba.trans (b1.mono (by omega))
  have x1 : w1.heap[w.heap.size]? = some (.cells #[.string (strL na), .slice A D.length c, .string (strL st)] 24 (0, 0)) := (b1.block _ (by omega)).trans (by rw [← hwa]; exact heap_alloc_new w _)
  have y1 : w1.heap[w.heap.size + 1]? = some (.cells #[.string (strL na2), .slice A2 D2.length c2, .string (strL st2)] 24 (0, 0)) := by rw [← hw1, ← sa]; exact heap_alloc_new wa _
  obtain ⟨b, eb⟩ : ∃ b, w.heap.size = b := ⟨_, rfl⟩
  rw [eb] at x1 y1
  have KD : Hid (∀ wx, Below w1.heap.size w1 wx → wx.cell? ⟨b, 1, none⟩ = some (.slice A D.length c) ∧ wx.cell? ⟨b + 1, 1, none⟩ = some (.slice A2 D2.length c2)) := Lib.hid (fun wx hb => by
    have h1 := (hb.block b (Array.getElem?_eq_some_iff.1 x1).1).trans x1
    have h2 := (hb.block (b + 1) (Array.getElem?_eq_some_iff.1 y1).1).trans y1
    exact ⟨by simp [World.cell?, h1], by simp [World.cell?, h2]⟩)
  have HW := Lib.hid hw
  have EB := Lib.hid eb
  have HB1 := Lib.hid hb1
  have p0 : w1.cell? ⟨b, 0, none⟩ = some (.string (strL na)) := by simp [World.cell?, x1]
  have p1 : w1.cell? ⟨b, 1, none⟩ = some (.slice A D.length c) := by simp [World.cell?, x1]
  have p2 : w1.cell? ⟨b, 2, none⟩ = some (.string (strL st)) := by simp [World.cell?, x1]
  have q0 : w1.cell? ⟨b + 1, 0, none⟩ = some (.string (strL na2)) := by simp [World.cell?, y1]
  have q1 : w1.cell? ⟨b + 1, 1, none⟩ = some (.slice A2 D2.length c2) := by simp [World.cell?, y1]
  have q2 : w1.cell? ⟨b + 1, 2, none⟩ = some (.string (strL st2)) := by simp [World.cell?, y1]
  have K1 : Hid (∀ wx, Below w1.heap.size w1 wx → MsgsAt S wx A c D) := Lib.hid (fun wx hb => MsgsAt.rest hm (Rest.below (S := fun _ => False) (hb1.trans (hb.mono hb1.size))) (fun _ _ e => e.elim))
  have K2 : Hid (∀ wx, Below w1.heap.size w1 wx → MsgsAt S wx A2 c2 D2) := Lib.hid (fun wx hb => MsgsAt.rest hn (Rest.below (S := fun _ => False) (hb1.trans (hb.mono hb1.size))) (fun _ _ e => e.elim))
  unfold sameD
  obtain ⟨rv, hrv⟩ : ∃ r, eqL sameM D D2 = r := ⟨_, rfl⟩
  rw [hrv]
  have HRV := Lib.hid hrv
  clear hm hn hwa hw1 hw ba b1 sa hb1 x1 y1 eb hrv
  go_enter Tryz.func16, Tryz.ntmps16
  go_upto_region 1 with fail
  rw [HW.out, EB.out]
  by_cases h : na = na2
  case neg =>
    have hs := text_ne h
    have HX := Lib.hid h
    clear h
    go_wp2_with fail
    go_ret
    exact ⟨by simp [HX.out]; try rfl, HB1.out⟩
  case pos =>
  subst h
  by_cases h2 : st = st2
  case neg =>
    have hs := text_ne h2
    have HX := Lib.hid h2
    clear h2
    go_wp2_with fail
    go_ret
    exact ⟨by simp [HX.out]; try rfl, HB1.out⟩
  case pos =>
  subst h2
  by_cases hll : D.length = D2.length
  case neg =>
    have hd : ¬ ((D.length : Nat) : Int) = ((D2.length : Nat) : Int) := by omega
    have HX := Lib.hid (show rv = false by rw [← HRV.out]; exact eqL_len hll)
    clear hll
    go_wp2_with fail
    go_ret
    exact ⟨by rw [HX.out]; simp; try rfl, HB1.out⟩
  case pos =>
  have HLL := Lib.hid hll
  rw [← hll] at q1
  have KD2 : Hid (∀ wx, Below w1.heap.size w1 wx → wx.cell? ⟨b, 1, none⟩ = some (.slice A D.length c) ∧ wx.cell? ⟨b + 1, 1, none⟩ = some (.slice A2 D.length c2)) := Lib.hid (by rw [hll]; rw [hll] at KD; exact KD.out)
  clear hll hl2 KD
  go_upto_region 4 with fail
  clear p0 p1 p2 q0 q1 q2
  go_loopw [5] (fun x wr => ∃ i : Nat, i ≤ D.length ∧ x = .int .i64 ((i : Nat) : Int) ∧ eqL sameM (D.take i) (D2.take i) = true ∧ Below w1.heap.size w1 wr) (fun x _ => D.length - (intOf x).toNat)
  case atStart => exact ⟨0, Nat.zero_le _, rfl, rfl, Below.refl _ _⟩
  case round =>
    obtain ⟨i, hi, rfl, ht, hb⟩ := hrel
    have HT := Lib.hid ht
    have HB := Lib.hid hb
    clear ht hb
    obtain ⟨r1, s1⟩ := KD2.out wr HB.out
    by_cases hlt : i < D.length
    case neg =>
      obtain rfl : i = D.length := by omega
      have hE : rv = true := by
        have h1 := HT.out
        rw [List.take_length, HLL.out, List.take_length, HRV.out] at h1
        exact h1
      have HE := Lib.hid hE
      clear hE
      go_wp2_with fail
      go_ret
      exact ⟨by rw [HE.out]; simp; try rfl, HB1.out.trans (HB.out.mono HB1.out.size)⟩
    case pos =>
    obtain ⟨m, hm⟩ : ∃ d, D[i]? = some d := ⟨_, List.getElem?_eq_getElem hlt⟩
    obtain ⟨n, hn⟩ : ∃ e, D2[i]? = some e := ⟨_, List.getElem?_eq_getElem (by rw [← HLL.out]; exact hlt)⟩
    have HM := Lib.hid hm
    have HN := Lib.hid hn
    obtain ⟨g, o, rfl, hx⟩ := (K1.out wr HB.out).1.at_ hm
    obtain ⟨g2, o2, rfl, hy⟩ := (K2.out wr HB.out).1.at_ hn
    have x0 : wr.cell? ⟨g, o + i * 2, none⟩ = some (.string (strL m.name)) := hx 0 _ rfl
    have x1 : wr.cell? ⟨g, o + i * 2 + 1, none⟩ = some (.slice m.fa m.fields.length m.fc) := hx 1 _ rfl
    have y0 : wr.cell? ⟨g2, o2 + i * 2, none⟩ = some (.string (strL n.name)) := hy 0 _ rfl
    have y1 : wr.cell? ⟨g2, o2 + i * 2 + 1, none⟩ = some (.slice n.fa n.fields.length n.fc) := hy 1 _ rfl
    have hi0 : (0 : Int) ≤ ((i : Nat) : Int) := by omega
    have hi1 : ((i : Nat) : Int) < ((D.length : Nat) : Int) := by omega
    clear hm hn hx hy
    have ha : ∀ oo, Below wr.heap.size wr (wr.alloc oo) := fun oo => below_alloc _ _
    have hb2 : ∀ o1 o2, Below wr.heap.size wr ((wr.alloc o1).alloc o2) := fun o1 o2 => ((Below.refl wr.heap.size wr).alloc (Nat.le_refl _) _).alloc (by simp) _
    have r1a : ∀ u1, (wr.alloc u1).cell? ⟨b, 1, none⟩ = some (.slice (some ⟨g, o, none⟩) D.length c) := fun u1 => ((ha _).cell (World.block_lt_of_cell? _ _ r1)).trans r1
    have r1b : ∀ u1 u2, ((wr.alloc u1).alloc u2).cell? ⟨b, 1, none⟩ = some (.slice (some ⟨g, o, none⟩) D.length c) := fun u1 u2 => ((hb2 _ _).cell (World.block_lt_of_cell? _ _ r1)).trans r1
    have s1a : ∀ u1, (wr.alloc u1).cell? ⟨b + 1, 1, none⟩ = some (.slice (some ⟨g2, o2, none⟩) D.length c2) := fun u1 => ((ha _).cell (World.block_lt_of_cell? _ _ s1)).trans s1
    have s1b : ∀ u1 u2, ((wr.alloc u1).alloc u2).cell? ⟨b + 1, 1, none⟩ = some (.slice (some ⟨g2, o2, none⟩) D.length c2) := fun u1 u2 => ((hb2 _ _).cell (World.block_lt_of_cell? _ _ s1)).trans s1
    have x0a : ∀ u1, (wr.alloc u1).cell? ⟨g, o + i * 2, none⟩ = some (.string (strL m.name)) := fun u1 => ((ha _).cell (World.block_lt_of_cell? _ _ x0)).trans x0
    have x0b : ∀ u1 u2, ((wr.alloc u1).alloc u2).cell? ⟨g, o + i * 2, none⟩ = some (.string (strL m.name)) := fun u1 u2 => ((hb2 _ _).cell (World.block_lt_of_cell? _ _ x0)).trans x0
    have x1a : ∀ u1, (wr.alloc u1).cell? ⟨g, o + i * 2 + 1, none⟩ = some (.slice m.fa m.fields.length m.fc) := fun u1 => ((ha _).cell (World.block_lt_of_cell? _ _ x1)).trans x1
    have x1b : ∀ u1 u2, ((wr.alloc u1).alloc u2).cell? ⟨g, o + i * 2 + 1, none⟩ = some (.slice m.fa m.fields.length m.fc) := fun u1 u2 => ((hb2 _ _).cell (World.block_lt_of_cell? _ _ x1)).trans x1
    have y0a : ∀ u1, (wr.alloc u1).cell? ⟨g2, o2 + i * 2, none⟩ = some (.string (strL n.name)) := fun u1 => ((ha _).cell (World.block_lt_of_cell? _ _ y0)).trans y0
    have y0b : ∀ u1 u2, ((wr.alloc u1).alloc u2).cell? ⟨g2, o2 + i * 2, none⟩ = some (.string (strL n.name)) := fun u1 u2 => ((hb2 _ _).cell (World.block_lt_of_cell? _ _ y0)).trans y0
    have y1a : ∀ u1, (wr.alloc u1).cell? ⟨g2, o2 + i * 2 + 1, none⟩ = some (.slice n.fa n.fields.length n.fc) := fun u1 => ((ha _).cell (World.block_lt_of_cell? _ _ y1)).trans y1
    have y1b : ∀ u1 u2, ((wr.alloc u1).alloc u2).cell? ⟨g2, o2 + i * 2 + 1, none⟩ = some (.slice n.fa n.fields.length n.fc) := fun u1 u2 => ((hb2 _ _).cell (World.block_lt_of_cell? _ _ y1)).trans y1
    clear ha hb2
    go_upto_region 6 with fail
    go_cut [6, 7] from 37 to 79 (fun x6 x7 wx => ∃ bx by_, x6 = .pointer (some ⟨bx, 0, none⟩) ∧ x7 = .pointer (some ⟨by_, 0, none⟩) ∧ MBx wx bx m ∧ MBx wx by_ n ∧ Below w1.heap.size w1 wx)
    case first =>
      have T1 := Lib.hid (two_new wr m n)
      have T2 := Lib.hid (two_new wr n m)
      go_region
      all_goals
        go_wp2_with fail
        go_meet
        case rel => first
          | exact ⟨_, _, rfl, rfl, T1.out.1, T1.out.2.1, HB.out.trans (T1.out.2.2.mono HB.out.size)⟩
          | exact ⟨_, _, rfl, rfl, T2.out.2.1, T2.out.1, HB.out.trans (T2.out.2.2.mono HB.out.size)⟩
    case rest =>
    obtain ⟨bx, by_, rfl, rfl, hx, hy, hb⟩ := hcut
    have HBC := Lib.hid hb
    have HX := Lib.hid hx
    have HY := Lib.hid hy
    have u0 := hx.c0
    have u1 := hx.c1
    have v0 := hy.c0
    have v1 := hy.c1
    have HHM : Hid (∀ x, sameM m n = x → (x = false → rv = false)) := Lib.hid (fun x hx hf => by rw [← HRV.out]; exact eqL_bad HM.out HN.out (hx.trans hf))
    have FM : Hid (∀ wx, Below w1.heap.size w1 wx → FieldsAt S wx m.fa m.fc m.fields ∧ FieldsAt S wx n.fa n.fc n.fields) := Lib.hid (fun wx hb => ⟨(K1.out wx hb).2 m (List.mem_of_getElem? HM.out), (K2.out wx hb).2 n (List.mem_of_getElem? HN.out)⟩)
    obtain ⟨mn, fa, fc, E⟩ := m
    obtain ⟨nn, fa2, fc2, E2⟩ := n
    have hE1 : E.length ≤ 9223372036854775807 := Nat.le_trans (FM.out _ HBC.out).1.1.1 (FM.out _ HBC.out).1.1.2.1
    have hE2 : E2.length ≤ 9223372036854775807 := Nat.le_trans (FM.out _ HBC.out).2.1.1 (FM.out _ HBC.out).2.1.2.1
    dsimp only at u0 u1 v0 v1 FM
    clear hx hy hb x0 x1 y0 y1 r1 s1
    by_cases h : mn = nn
    case neg =>
      have hs := text_ne h
      have HF := Lib.hid (HHM.out false (by unfold sameM; simp [h]) rfl)
      clear h
      go_wp2_with fail
      go_ret
      exact ⟨by rw [HF.out]; simp; try rfl, HB1.out.trans (HBC.out.mono HB1.out.size)⟩
    case pos =>
    subst h
    by_cases hel : E.length = E2.length
    case neg =>
      have hd : ¬ ((E.length : Nat) : Int) = ((E2.length : Nat) : Int) := by omega
      have HF := Lib.hid (HHM.out false (by unfold sameM; simp [eqL_len hel]) rfl)
      clear hel
      go_wp2_with fail
      go_ret
      exact ⟨by rw [HF.out]; simp; try rfl, HB1.out.trans (HBC.out.mono HB1.out.size)⟩
    case pos =>
    have HEL := Lib.hid hel
    rw [← hel] at v1
    obtain ⟨w2, hw2⟩ : ∃ w2, wc = w2 := ⟨_, rfl⟩
    rw [hw2] at HX HY HBC u0 u1 v0 v1 ⊢
    have KX : Hid (∀ wx, Below w2.heap.size w2 wx → wx.cell? ⟨bx, 1, none⟩ = some (.slice fa E.length fc) ∧ wx.cell? ⟨by_, 1, none⟩ = some (.slice fa2 E.length fc2)) := Lib.hid (fun wx hb => ⟨(HX.out.below hb HX.out.lt).c1, by have := (HY.out.below hb HY.out.lt).c1; dsimp only at this; rw [← HEL.out] at this; exact this⟩)
    clear hel hw2 hE2
    go_upto_region 10 with fail
    clear u0 u1 v0 v1
    go_loopw [8] (fun x wr => ∃ k : Nat, k ≤ E.length ∧ x = .int .i64 ((k : Nat) : Int) ∧ eqL sameR (E.take k) (E2.take k) = true ∧ Below w2.heap.size w2 wr) (fun x _ => E.length - (intOf x).toNat)
    case atStart => exact ⟨0, Nat.zero_le _, rfl, rfl, Below.refl _ _⟩
    case round =>
      obtain ⟨k, hk, rfl, ht, hb⟩ := hrel
      have HT2 := Lib.hid ht
      have HB2 := Lib.hid hb
      have HB12 := Lib.hid (HBC.out.trans (hb.mono HBC.out.size))
      clear ht hb
      obtain ⟨r1, s1⟩ := KX.out wr HB2.out
      by_cases hlt2 : k < E.length
      case neg =>
        obtain rfl : k = E.length := by omega
        have HSM := Lib.hid (show sameM ⟨mn, fa, fc, E⟩ ⟨mn, fa2, fc2, E2⟩ = true by
          have h1 := HT2.out
          rw [List.take_length, HEL.out, List.take_length] at h1
          unfold sameM
          simp [h1])
        go_wp2_with fail
        go_roundw
        case rel => exact ⟨i + 1, by omega, by go_num, by rw [eqL_take HM.out HN.out, HT.out, HSM.out]; rfl, HB12.out⟩
        case measure => simp [intOf]; omega
      case pos =>
      obtain ⟨d, hd⟩ : ∃ d, E[k]? = some d := ⟨_, List.getElem?_eq_getElem hlt2⟩
      obtain ⟨e, he⟩ : ∃ e, E2[k]? = some e := ⟨_, List.getElem?_eq_getElem (by rw [← HEL.out]; exact hlt2)⟩
      have HDD := Lib.hid hd
      have HEE := Lib.hid he
      obtain ⟨fg, fo, rfl, hx⟩ := (FM.out wr HB12.out).1.1.at_ hd
      obtain ⟨fg2, fo2, rfl, hy⟩ := (FM.out wr HB12.out).2.1.at_ he
      have x0 := cell_regrown (show wr.cell? ⟨fg, fo + k * 15, none⟩ = some (.string (strL d.name)) from hx 0 _ rfl)
      have x1 := cell_regrown (show wr.cell? ⟨fg, fo + k * 15 + 1, none⟩ = some (.int .i64 d.kind) from hx 1 _ rfl)
      have x2 := cell_regrown (show wr.cell? ⟨fg, fo + k * 15 + 2, none⟩ = some (.int .i64 d.bits) from hx 2 _ rfl)
      have x3 := cell_regrown (show wr.cell? ⟨fg, fo + k * 15 + 3, none⟩ = some (.bool d.little) from hx 3 _ rfl)
      have x4 := cell_regrown (show wr.cell? ⟨fg, fo + k * 15 + 4, none⟩ = some (.bool d.loose) from hx 4 _ rfl)
      have x5 := cell_regrown (show wr.cell? ⟨fg, fo + k * 15 + 5, none⟩ = some (.int .i64 d.low) from hx 5 _ rfl)
      have x6 := cell_regrown (show wr.cell? ⟨fg, fo + k * 15 + 6, none⟩ = some (.int .i64 d.high) from hx 6 _ rfl)
      have x7 := cell_regrown (show wr.cell? ⟨fg, fo + k * 15 + 7, none⟩ = some (.int .i64 d.base) from hx 7 _ rfl)
      have x8 := cell_regrown (show wr.cell? ⟨fg, fo + k * 15 + 8, none⟩ = some (.slice d.ta d.terms.length d.tc) from hx 8 _ rfl)
      have x9 := cell_regrown (show wr.cell? ⟨fg, fo + k * 15 + 9, none⟩ = some (.string (strL d.of_)) from hx 9 _ rfl)
      have x10 := cell_regrown (show wr.cell? ⟨fg, fo + k * 15 + 10, none⟩ = some (.string (strL d.tag)) from hx 10 _ rfl)
      have x11 := cell_regrown (show wr.cell? ⟨fg, fo + k * 15 + 11, none⟩ = some (.string (strL d.from_)) from hx 11 _ rfl)
      have x12 := cell_regrown (show wr.cell? ⟨fg, fo + k * 15 + 12, none⟩ = some (.slice d.ca d.cases.length d.cc) from hx 12 _ rfl)
      have x13 := cell_regrown (show wr.cell? ⟨fg, fo + k * 15 + 13, none⟩ = some (.int .i64 d.check) from hx 13 _ rfl)
      have x14 := cell_regrown (show wr.cell? ⟨fg, fo + k * 15 + 14, none⟩ = some (.int .i64 d.key) from hx 14 _ rfl)
      have y0 := cell_regrown (show wr.cell? ⟨fg2, fo2 + k * 15, none⟩ = some (.string (strL e.name)) from hy 0 _ rfl)
      have y1 := cell_regrown (show wr.cell? ⟨fg2, fo2 + k * 15 + 1, none⟩ = some (.int .i64 e.kind) from hy 1 _ rfl)
      have y2 := cell_regrown (show wr.cell? ⟨fg2, fo2 + k * 15 + 2, none⟩ = some (.int .i64 e.bits) from hy 2 _ rfl)
      have y3 := cell_regrown (show wr.cell? ⟨fg2, fo2 + k * 15 + 3, none⟩ = some (.bool e.little) from hy 3 _ rfl)
      have y4 := cell_regrown (show wr.cell? ⟨fg2, fo2 + k * 15 + 4, none⟩ = some (.bool e.loose) from hy 4 _ rfl)
      have y5 := cell_regrown (show wr.cell? ⟨fg2, fo2 + k * 15 + 5, none⟩ = some (.int .i64 e.low) from hy 5 _ rfl)
      have y6 := cell_regrown (show wr.cell? ⟨fg2, fo2 + k * 15 + 6, none⟩ = some (.int .i64 e.high) from hy 6 _ rfl)
      have y7 := cell_regrown (show wr.cell? ⟨fg2, fo2 + k * 15 + 7, none⟩ = some (.int .i64 e.base) from hy 7 _ rfl)
      have y8 := cell_regrown (show wr.cell? ⟨fg2, fo2 + k * 15 + 8, none⟩ = some (.slice e.ta e.terms.length e.tc) from hy 8 _ rfl)
      have y9 := cell_regrown (show wr.cell? ⟨fg2, fo2 + k * 15 + 9, none⟩ = some (.string (strL e.of_)) from hy 9 _ rfl)
      have y10 := cell_regrown (show wr.cell? ⟨fg2, fo2 + k * 15 + 10, none⟩ = some (.string (strL e.tag)) from hy 10 _ rfl)
      have y11 := cell_regrown (show wr.cell? ⟨fg2, fo2 + k * 15 + 11, none⟩ = some (.string (strL e.from_)) from hy 11 _ rfl)
      have y12 := cell_regrown (show wr.cell? ⟨fg2, fo2 + k * 15 + 12, none⟩ = some (.slice e.ca e.cases.length e.cc) from hy 12 _ rfl)
      have y13 := cell_regrown (show wr.cell? ⟨fg2, fo2 + k * 15 + 13, none⟩ = some (.int .i64 e.check) from hy 13 _ rfl)
      have y14 := cell_regrown (show wr.cell? ⟨fg2, fo2 + k * 15 + 14, none⟩ = some (.int .i64 e.key) from hy 14 _ rfl)
      have kr1 := cell_regrown r1
      have ks1 := cell_regrown s1
      have hk0 : (0 : Int) ≤ ((k : Nat) : Int) := by omega
      have hk1 : ((k : Nat) : Int) < ((E.length : Nat) : Int) := by omega
      have SF := fun wx h1 h2 => Lib.hid (sameField_any d e S wx h1 h2)
      have OD : Hid (∀ wx, Below wr.heap.size wr wx → FieldOk S wx d ∧ FieldOk S wx e) := Lib.hid (fun wx hb => ⟨(FM.out wx (HB12.out.trans (hb.mono HB12.out.size))).1.2 d (List.mem_of_getElem? HDD.out), (FM.out wx (HB12.out.trans (hb.mono HB12.out.size))).2.2 e (List.mem_of_getElem? HEE.out)⟩)
      obtain ⟨rr, hrr⟩ : ∃ r, sameB d e = r := ⟨_, rfl⟩
      have HRR := Lib.hid (show sameR d e = rr by rw [← sameB_eq]; exact hrr)
      simp only [hrr] at SF
      unfold FieldD.agg at SF
      clear hd he hx hy hrr
      go_upto_region 12 with fail
      clear r1 s1
      cases rr
      all_goals
        refine wp_region_quiet_below (by kernel_rfl) (by kernel_rfl) ?_
        repeat (go_big_quiet_step ((first | (go_at_call 53; exact Calls.regrown_of ((SF _ (OD.out _ (below_regrown _ _ _)).1 (OD.out _ (below_regrown _ _ _)).2).out)))))
        refine wpQuiet_nil ?_
        rintro _ ⟨p, rfl⟩
        have HB3 := Lib.hid (HB2.out.trans ((below_regrown wr p.d p.os).mono HB2.out.size))
        have HB13 := Lib.hid (HBC.out.trans (HB3.out.mono HBC.out.size))
        go_wp2_with fail
      · go_ret
        have hf : rv = false := HHM.out false (by unfold sameM; rw [eqL_bad HDD.out HEE.out HRR.out]; simp) rfl
        exact ⟨by rw [hf]; simp; try rfl, HB1.out.trans (HB13.out.mono HB1.out.size)⟩
      · go_roundw
        case rel => exact ⟨k + 1, by omega, by go_num, by rw [eqL_take HDD.out HEE.out, HT2.out, HRR.out]; rfl, HB3.out⟩
        case measure => simp [intOf]; omega
end Go.Proofs.YtbpkppmbbpoohaaGreat
