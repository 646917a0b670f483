/- The walk of BitsInverts: it returns true and changes nothing that was there. Conditions: the acts lie in memory. -/
import Derived.Test.YtboiiohpkoodpaaIl
namespace Go.Proofs.Ytboiiohpkoodpaa
open Go.RowKit Go.Shelf

theorem conv_srcE {w : World} {s : Value} {B : List Nat} (h : SrcE w s B) (hB : ∀ c ∈ B, c < 256) : (convert 28 9 s).run Try.prog w = .ok (.string (strOf B)) w := by
  rcases h with h | ⟨rfl, a, c, rfl⟩
  · exact conv_src h hB
  · have := run_convert_bytes_back (P := Try.prog) w 28 9 5 a c [] Try.underlying28 Try.underlying5 Try.underlying9 (fun j hj => by simp at hj)
    simpa [strOf] using this

/-- The box of a call. -/
def Boxed4 (w : World) (b : Nat) (d : ActD) : Prop := w.heap[b]? = some (.cells #[.int .u8 d.kd, .int .i64 d.V, .int .i64 d.N, .slice d.A d.B.length d.c] 30 (0, 0))
theorem boxed4_new (w : World) (d : ActD) : Boxed4 (w.alloc (.cells #[.int .u8 d.kd, .int .i64 d.V, .int .i64 d.N, .slice d.A d.B.length d.c] 30)) w.heap.size d := (MapKept.heap_alloc w _).1
theorem Boxed4.c3 {w : World} {b : Nat} {d : ActD} (h : Boxed4 w b d) : w.cell? ⟨b, 3, none⟩ = some (.slice d.A d.B.length d.c) := by
  simp [World.cell?, show w.heap[b]? = _ from h]

theorem packs_small (l : List Bool) : ∀ c ∈ packs l, c < 256 := by
  intro c hc
  simp only [packs, List.mem_map] at hc
  obtain ⟨i, _, rfl⟩ := hc
  exact byteOf_lt l i

set_option maxRecDepth 100000 in
set_option maxHeartbeats 4000000 in
theorem inverts_fit (GA : Option Addr) (c : Nat) (L : List ActD) (w : World) (ha : ActsAt w (.slice GA L.length c) L) (hl : L.length ≤ 60) (hB : ∀ d ∈ L, d.B.length ≤ 50) :
    Calls Try.prog 6 #[.slice GA L.length c] w fun e w' => e = .returned (.bool true) ∧ Below w.heap.size w w' := by
  have hsm : smallB L = true := by
    unfold smallB
    simp
    exact ⟨hB, hl⟩
  have hfit := acts_fit _ L w ha (by omega)
  have h : ∀ (i : Nat) (d : ActD), L[i]? = some d → ∃ g o, GA = some ⟨g, o, none⟩ ∧ d.lies w g (o + i * 4) := by
    rcases ha with ⟨_, rfl⟩ | ⟨g, o, c', e, hc⟩
    · intro i d hi; simp at hi
    · cases e
      exact fun i d hi => ⟨g, o, rfl, hc i d hi⟩
  rw [hsm] at hfit
  have HF := Lib.hid hfit
  have H := Lib.hid h
  have HBL := Lib.hid hB
  clear h hB hfit hsm ha
  obtain ⟨i0, hi, hz0, hz1, hz2⟩ := info_parts Try.info30
  have HI := Lib.hid hi
  clear hi
  go_enter Try.func6, Try.ntmps6
  go_wp2_with fail
  refine HF.out.mono ?_
  rintro e w' ⟨rfl, rfl⟩
  go_wp2_with fail
  refine (newWriter_any _).mono ?_
  rintro e w1 ⟨rfl, hW1, hb1⟩
  have HW1 := Lib.hid hW1
  have HB1 := Lib.hid hb1
  clear hW1 hb1
  go_wp2_with fail
  go_loopw [4, 5] (fun dn i wr => ∃ k : Nat, k ≤ L.length ∧ i = .int .i64 k ∧ (∃ v', WAt wr w.heap.size v' (runW (L.take k)).1 ∧ ∀ q, v'.ownBlock = some q → w.heap.size ≤ q) ∧ wr.ownsRow w.heap.size 30 4 dn (runW (L.take k)).2.length (actCells (runW (L.take k)).2) ∧ Below w.heap.size w wr) (fun _ i _ => L.length - (intOf i).toNat)
  case atStart =>
    exact ⟨0, Nat.zero_le _, rfl, ⟨_, HW1.out, fun q hq => by simp [Value.ownBlock] at hq⟩, ⟨by simp [runW, actCells], .inl ⟨rfl, by simp [runW]⟩⟩, HB1.out⟩
  case round =>
    obtain ⟨k, hk, rfl, ⟨v', hw, hvo⟩, hrow, hb⟩ := hrel
    have HVO := Lib.hid hvo
    have HW := Lib.hid hw
    have HR := Lib.hid hrow
    have HB := Lib.hid hb
    clear hw hrow hb hvo
    by_cases hlt : k < L.length
    · obtain ⟨d, hd⟩ : ∃ d, L[k]? = some d := ⟨_, List.getElem?_eq_getElem hlt⟩
      have ht := take_snoc_act L k d hd
      obtain ⟨l, hl1⟩ : ∃ l, (runW (L.take k)).1 = l := ⟨_, rfl⟩
      obtain ⟨D, hD⟩ : ∃ D, (runW (L.take k)).2 = D := ⟨_, rfl⟩
      have hll : l.length ≤ 8388608 := by rw [← hl1]; exact runW_length _
      have hDl : D.length ≤ 60 := by rw [← hD]; exact Nat.le_trans (runW_few _) (by rw [List.length_take]; omega)
      have hs1 := runW_next (L.take k) d
      have hs2 := runW_snoc (L.take k) d
      rw [← ht, hl1] at hs1 hs2
      rw [hD] at hs2
      have hdm : d ∈ L := List.mem_of_getElem? hd
      obtain ⟨g, o, hga, hlies⟩ := H.out k d hd
      subst hga
      obtain ⟨_, c0, c1, c2, c3, hsrc, h256, hkd, _⟩ := hlies.later HB.out
      have HLI := Lib.hid hlies
      clear hlies
      have hd50 := HBL.out d hdm
      have HW1' := HW.out
      rw [hl1] at HW1'
      have HR1' := HR.out
      rw [hD] at HR1'
      have HWR := Lib.hid (write_any w.heap.size v' l d wr HW1' hll hsrc h256 hkd (by omega))
      have HD2 := Lib.hid hD
      have HS1 := Lib.hid hs1
      have HS2 := Lib.hid hs2
      have HROW := Lib.hid HR1'
      have HWW := Lib.hid HW1'
      clear HW1' HR1' hs1 hs2 ht hl1 hD HW HR hsrc h256
      have HD := Lib.hid hd
      clear hd
      go_wp2_with fail
      refine HWR.out.mono ?_
      rintro e w2 ⟨rfl, v2, hw2, hst⟩
      have hn1 : ∀ q, u4.ownBlock = some q → ¬ Mine w.heap.size v' q := by
        rintro q hq (e | e)
        · subst e
          exact row_not_obj HROW.out HWW.out.obj (by decide) hq
        · exact rows_apart HROW.out HWW.out.row (by decide) q hq e
      have hb2 : Below w.heap.size w w2 := HB.out.trans (hst.rest.toBelow w.heap.size HB.out.size (fun i hi hm => by
        rcases hm with e | e
        · omega
        · have := HVO.out i e; omega))
      have hvo2 : ∀ q, v2.ownBlock = some q → w.heap.size ≤ q := fun q hq => by
        rcases hst.row q hq with e | e
        · exact HVO.out q e
        · have := HB.out.size; omega
      have hrow2 : w2.ownsRow w.heap.size 30 4 u4 D.length (actCells D) := Rest.row hst.rest HROW.out hn1
      obtain ⟨_, c0', c1', c2', c3', _⟩ := HLI.out.later hb2
      have HB2 := Lib.hid hb2
      have HVO2 := Lib.hid hvo2
      have HR2 := Lib.hid hrow2
      have HW2 := Lib.hid hw2
      clear hn1 hb2 hvo2 hrow2 hw2 hst c0 c1 c2 c3 HWR HROW HWW HVO
      by_cases hc : wCode l d = 0
      · rw [hc]
        have hS1 : (runW (L.take (k + 1))).1 = wNext l d := HS1.out
        have hS2 : (runW (L.take (k + 1))).2 = D ++ [d] := by rw [HS2.out, if_pos hc]
        have HT1 := Lib.hid hS1
        have HT2 := Lib.hid hS2
        clear hS1 hS2 hc HS1 HS2
        have hal : Below w2.heap.size w2 (w2.alloc (.cells #[.int .u8 d.kd, .int .i64 d.V, .int .i64 d.N, .slice d.A d.B.length d.c] 30)) := (Below.refl _ _).alloc (Nat.le_refl _) _
        have HAL := Lib.hid hal
        have hcn : ∀ j u, d.cells[j]? = some u → (w2.alloc (.cells #[.int .u8 d.kd, .int .i64 d.V, .int .i64 d.N, .slice d.A d.B.length d.c] 30)).cell? ((⟨w2.heap.size, 0, none⟩ : Addr).add j) = some u := fun j u hu => by
          rw [addr_add, Nat.zero_add, cell_new_at w2 _ 30 _ j rfl]
          simpa [ActD.cells] using hu
        have HCN := Lib.hid hcn
        have hone : ∀ u ∈ d.cells, u.oneCell' = true := fun u hu => by
          simp only [ActD.cells, List.mem_cons, List.not_mem_nil, or_false] at hu
          rcases hu with rfl | rfl | rfl | rfl <;> rfl
        have HONE := Lib.hid hone
        clear hal hcn hone
        go_wp2_with (at_builtin; go_must (refine wpList_append_own_at _ rfl _ _ 22 rfl w.heap.size 30 i0 (.agg #[.int .u8 0, .int .i64 0, .int .i64 0, .slice none 0 0]) 4 48 Try.underlying22 HI.out hz0 hz1 hz2 rfl (by decide) _ _ _ rfl (HR2.out.alloc _) ⟨w2.heap.size, 0, none⟩ 1 1 d.cells rfl rfl HCN.out HONE.out (by unfold maxLen; omega) (by omega) (by have := HB2.out.size; simp; omega) ?_); go_must (intro v1 w3 hown1 hgrow1 _ _); have hb3 := (HB2.out.alloc HB2.out.size _).grown hgrow1 (by have := HB2.out.size; simp; omega) (fun q e => row_ge HR2.out q e); have hw3 := (HW2.out.below HAL.out).stays (S := fun q => some q = u4.ownBlock) ((Rest.refl _ _).grown hgrow1 (fun q e _ => e.symm)) (fun e => row_not_obj HR2.out HW2.out.obj (by decide) e.symm) (fun q hq e => rows_apart HR2.out HW2.out.row (by decide) q e.symm hq); have HB3 := Lib.hid hb3; have HW3 := Lib.hid hw3; have HO := Lib.hid hown1; clear hb3 hw3 hown1 hgrow1)
        go_roundw
        case rel =>
          refine ⟨k + 1, by omega, by go_num, ⟨v2, by rw [HT1.out]; exact HW3.out, HVO2.out⟩, ?_, HB3.out⟩
          rw [HT2.out, actCells_snoc, List.length_append]
          exact HO.out
        case measure => simp [intOf]; omega
      · have hq : (wCode l d == 0) = false := by simpa using hc
        have hS1 : (runW (L.take (k + 1))).1 = wNext l d := HS1.out
        have hS2 : (runW (L.take (k + 1))).2 = D := by rw [HS2.out, if_neg hc]; exact HD2.out
        have HT1 := Lib.hid hS1
        have HT2 := Lib.hid hS2
        clear hS1 hS2 hc HS1 HS2
        go_wp2
        go_roundw
        case rel =>
          refine ⟨k + 1, by omega, by go_num, ⟨v2, by rw [HT1.out]; exact HW2.out, HVO2.out⟩, by rw [HT2.out]; exact HR2.out, HB2.out⟩
        case measure => simp [intOf]; omega
    · obtain rfl : k = L.length := by omega
      obtain ⟨l, hl1⟩ : ∃ l, (runW L).1 = l := ⟨_, rfl⟩
      obtain ⟨D, hD⟩ : ∃ D, (runW L).2 = D := ⟨_, rfl⟩
      have hll : l.length ≤ 8388608 := by rw [← hl1]; exact runW_length _
      have hDl : D.length ≤ 60 := by rw [← hD]; exact Nat.le_trans (runW_few _) hl
      have hlb : l = bitsOf D := by rw [← hl1, ← hD]; exact runW_bits L
      have hok : ∀ (j : Nat) (d : ActD), D[j]? = some d → wCode (bitsOf (D.take j)) d = 0 ∧ d ∈ L := by rw [← hD]; exact runW_ok L
      have hw1 := HW.out
      have hr1 := HR.out
      rw [List.take_of_length_le (Nat.le_refl _)] at hw1 hr1
      rw [hl1] at hw1
      rw [hD] at hr1
      have hpl : (packs l).length ≤ 1048576 := by rw [packs_length]; omega
      have HW2 := Lib.hid hw1
      have HR2 := Lib.hid hr1
      have HLB := Lib.hid hlb
      have HOK := Lib.hid hok
      clear hw1 hr1 hlb hok hl1 hD HW HR
      go_wp2_with fail
      refine (out_any w.heap.size v' l wr HW2.out hll).mono ?_
      rintro e w2 ⟨s2, rfl, ho2, hb2, hf2⟩
      have HS2 := Lib.hid (SrcAt.of_row ho2)
      have HB2 := Lib.hid hb2
      obtain ⟨A2, c2, hs2⟩ : ∃ A c, s2 = .slice A (packs l).length c := by
        rcases HS2.out with ⟨rfl, h0⟩ | ⟨a, c, rfl, _⟩
        · exact ⟨none, 0, by rw [h0]; rfl⟩
        · exact ⟨_, _, rfl⟩
      subst hs2
      clear ho2 hb2 hf2
      go_wp2_with fail
      refine (newReader_ok _ (packs l) w2 HS2.out hpl).mono ?_
      rintro e w3 ⟨rb, rv, rfl, hr3, hb3, hrb, hrv⟩
      have HR3 := Lib.hid hr3
      have HB3 := Lib.hid hb3
      have HRB := Lib.hid hrb
      have HRV := Lib.hid hrv
      clear hr3 hb3 hrb hrv
      go_wp2_with fail
      obtain ⟨AD, cD, hdv⟩ : ∃ A c, u4 = .slice A D.length c := by
        rcases Joins.ownsRow_forms HR2.out with ⟨rfl, h0⟩ | ⟨g, cap, rfl⟩
        · exact ⟨none, 0, by rw [h0]⟩
        · exact ⟨_, _, rfl⟩
      subst hdv
      have hs2 := HB2.out.size
      have hs3 := HB3.out.size
      have hrb3 := HRB.out
      have hbase : Below w.heap.size w w3 := (HB.out.trans (HB2.out.mono HB.out.size)).trans (HB3.out.mono (Nat.le_trans HB.out.size hs2))
      have hrow3 : w3.ownsRow w.heap.size 30 4 (.slice AD D.length cD) D.length (actCells D) := Rest.row (S := fun _ => False) (Rest.below HB3.out) (Rest.row (S := fun _ => False) (Rest.below HB2.out) HR2.out (fun _ _ e => e)) (fun _ _ e => e)
      have hwr3 : WAt w3 w.heap.size v' l := (HW2.out.below HB2.out).below HB3.out
      have hblt : w.heap.size < wr.heap.size := HW2.out.obj.lt
      have hrowlt : ∀ q, (Value.slice AD D.length cD).ownBlock = some q → q < wr.heap.size := fun q hq => by
        rcases HR2.out.2 with ⟨h, _⟩ | ⟨g', _, _, h, _, hh, _⟩
        · rw [h] at hq; cases hq
        · rw [h] at hq; cases hq; exact (Array.getElem?_eq_some_iff.1 hh).1
      have hwrlt : ∀ q, v'.ownBlock = some q → q < wr.heap.size := fun q hq => by
        rcases HW2.out.row.2 with ⟨h, _⟩ | ⟨g', _, _, h, _, hh, _⟩
        · rw [h] at hq; cases hq
        · rw [h] at hq; cases hq; exact (Array.getElem?_eq_some_iff.1 hh).1
      have HBASE := Lib.hid hbase
      have HROW3 := Lib.hid hrow3
      have HWR3 := Lib.hid hwr3
      have NROW := Lib.hid (show ∀ q, (Value.slice AD D.length cD).ownBlock = some q → q ≠ rb from fun q hq e => by have := hrowlt q hq; omega)
      have NWR := Lib.hid (show ∀ q, v'.ownBlock = some q → q ≠ rb from fun q hq e => by have := hwrlt q hq; omega)
      have NB := Lib.hid (show w.heap.size < rb by omega)
      clear hs2 hs3 hrb3 hbase hrow3 hwr3 hblt hrowlt hwrlt HR2 HW2 HB HB2 HB3 HRB HRV HS2
      go_loopw [8] (fun i wx => ∃ j : Nat, j ≤ D.length ∧ i = .int .i64 j ∧ RAt wx rb rv (packs l) (bitsOf (D.take j)).length ∧ Rest (fun q => q = rb) w3 wx) (fun i _ => D.length - (intOf i).toNat)
      case atStart =>
        exact ⟨0, Nat.zero_le _, rfl, HR3.out, Rest.refl _ _⟩
      case round =>
        obtain ⟨j, hj, rfl, hra, hre⟩ := hrel
        have HRA := Lib.hid hra
        have HRE := Lib.hid hre
        clear hra hre
        by_cases hlt : j < D.length
        · obtain ⟨d, hd⟩ : ∃ d, D[j]? = some d := ⟨_, List.getElem?_eq_getElem hlt⟩
          have hrowx : wr.ownsRow w.heap.size 30 4 (.slice AD D.length cD) D.length (actCells D) := Rest.row HRE.out HROW3.out (fun q hq e => NROW.out q hq e)
          obtain ⟨gd, hgd⟩ : ∃ gd, AD = some ⟨gd, 0, none⟩ := by
            rcases Joins.ownsRow_forms hrowx with ⟨_, h0⟩ | ⟨g, cap, h⟩
            · omega
            · cases h; exact ⟨g, rfl⟩
          subst hgd
          have hcells := hrowx.cells (g := gd) rfl
          have hcl : ∀ i u, i < 4 → d.cells[i]? = some u → wr.cell? ⟨gd, j * 4 + i, none⟩ = some u := fun i u hi hu => by
            have := hcells (j * 4 + i) u (by rw [actCells_get D j d hd i hi]; exact hu)
            rwa [addr_add, Nat.zero_add] at this
          have c0 := hcl 0 _ (by omega) rfl
          have c1 := hcl 1 _ (by omega) rfl
          have c2 := hcl 2 _ (by omega) rfl
          have c3 := hcl 3 _ (by omega) rfl
          rw [Nat.add_zero] at c0
          obtain ⟨hcode, hdL⟩ := HOK.out j d hd
          obtain ⟨rest, har⟩ := bitsOf_around D j d hd
          have hstep := bitsOf_step D j d hd
          rw [← HLB.out] at har
          obtain ⟨lj, hlj⟩ : ∃ lj, bitsOf (D.take j) = lj := ⟨_, rfl⟩
          have hra := HRA.out
          rw [hlj] at hcode har hstep hra
          have HRX := Lib.hid hra
          have HAR := Lib.hid har
          have HST := Lib.hid hstep
          have HCO := Lib.hid hcode
          clear hrowx hcells hcl hcode har hstep hlj hra HRA hd
          have hr4 : d.kd % 4 = 0 ∨ d.kd % 4 = 1 ∨ d.kd % 4 = 2 ∨ d.kd % 4 = 3 := by omega
          rcases hr4 with hr | hr | hr | hr
          · have hcode := HCO.out
            unfold wCode at hcode
            rw [if_pos hr] at hcode
            obtain ⟨a, m, e1, e2, h1, h2, h3, h4⟩ := put_zero_iff hcode
            have hwb : wBits lj d = digs a m := by unfold wBits; rw [if_pos hr, e1, e2]; simp
            have har := HAR.out
            have hst := HST.out
            rw [hwb] at har hst
            have hval := read_digs lj rest a m h3
            rw [← har] at hval
            have hle : lj.length + m ≤ 8 * (packs l).length := by
              have := congrArg List.length har
              simp [digs_length] at this
              rw [packs_length]; omega
            have HVAL := Lib.hid hval
            have HST2 := Lib.hid hst
            have q0 : ((d.kd : Int) % 4 == 0) = true := by simp; omega
            rw [e1] at c1
            rw [e2] at c2
            clear hcode hwb har hst hval hr HAR HST HCO
            go_wp2_with fail
            refine (get_ok rb rv (packs l) lj.length m _ (HRX.out.below ((Below.refl _ wr).alloc (Nat.le_refl _) _)) (packs_small l) hpl h1 h2 hle).mono ?_
            rintro e wy ⟨rfl, hry⟩
            rw [HVAL.out]
            have hrest : Rest (fun q => q = rb) w3 wy := (HRE.out.alloc _).trans hry.2 (fun _ _ e => e)
            have HRY := Lib.hid hry.1
            have HRS := Lib.hid hrest
            clear hry hrest
            go_wp2
            go_roundw
            case rel =>
              refine ⟨j + 1, by omega, by go_num, ?_, HRS.out⟩
              rw [HST2.out, List.length_append, digs_length]
              exact HRY.out
            case measure => simp [intOf]; omega
          · have hcode := HCO.out
            have hr0 : ¬ d.kd % 4 = 0 := by omega
            unfold wCode at hcode
            rw [if_neg hr0, if_pos hr] at hcode
            obtain ⟨a, m, e1, e2, h1, h2, h3, h4, h5⟩ := little_zero_iff hcode
            have hwb : wBits lj d = unpack (leBytes a m) := by unfold wBits; rw [if_neg hr0, if_pos hr, e1, e2]; simp
            have har := HAR.out
            have hst := HST.out
            rw [hwb] at har hst
            have hval := read_little lj rest a m h4 h3
            rw [← har] at hval
            have hle : lj.length + 8 * m ≤ 8 * (packs l).length := by
              have := congrArg List.length har
              simp [unpack_length, leBytes_length] at this
              rw [packs_length]; omega
            have HVAL := Lib.hid hval
            have HST2 := Lib.hid hst
            have q0 : ((d.kd : Int) % 4 == 0) = false := by simp; omega
            have q1 : ((d.kd : Int) % 4 == 1) = true := by simp; omega
            rw [e1] at c1
            rw [e2] at c2
            clear hcode hwb har hst hval hr hr0 HAR HST HCO
            go_wp2_with fail
            refine (rlittle_ok rb rv (packs l) lj.length m _ (HRX.out.below ((Below.refl _ wr).alloc (Nat.le_refl _) _)) (packs_small l) hpl h1 h2 h4 hle).mono ?_
            rintro e wy ⟨rfl, hry⟩
            rw [HVAL.out]
            have hrest : Rest (fun q => q = rb) w3 wy := (HRE.out.alloc _).trans hry.2 (fun _ _ e => e)
            have HRY := Lib.hid hry.1
            have HRS := Lib.hid hrest
            clear hry hrest
            go_wp2
            go_roundw
            case rel =>
              refine ⟨j + 1, by omega, by go_num, ?_, HRS.out⟩
              rw [HST2.out, List.length_append, unpack_length, leBytes_length]
              exact HRY.out
            case measure => simp [intOf]; omega
          · have hcode := HCO.out
            have hr0 : ¬ d.kd % 4 = 0 := by omega
            have hr1 : ¬ d.kd % 4 = 1 := by omega
            unfold wCode at hcode
            rw [if_neg hr0, if_neg hr1, if_pos hr] at hcode
            obtain ⟨h1, h2⟩ := bytes_zero_iff hcode
            have hwb : wBits lj d = unpack d.B := by unfold wBits; rw [if_neg hr0, if_neg hr1, if_pos hr]
            obtain ⟨il, hil⟩ := List.getElem?_of_mem hdL
            obtain ⟨g1, o1, hga1, hg0, k1, k2, k3, k4, hsrc, h256, k5, k6⟩ := H.out il d hil
            clear hga1 k1 k2 k3 k4 k5 k6
            have har := HAR.out
            have hst := HST.out
            rw [hwb] at har hst
            have hval := read_bytes lj rest d.B h1 h256
            rw [← har] at hval
            have hle : lj.length + 8 * d.B.length ≤ 8 * (packs l).length := by
              have := congrArg List.length har
              simp [unpack_length] at this
              rw [packs_length]; omega
            have HVAL := Lib.hid hval
            have HST2 := Lib.hid hst
            have HSRC := Lib.hid hsrc
            have H256 := Lib.hid h256
            have q0 : ((d.kd : Int) % 4 == 0) = false := by simp; omega
            have q1 : ((d.kd : Int) % 4 == 1) = false := by simp; omega
            have q2 : ((d.kd : Int) % 4 == 2) = true := by simp; omega
            have hrbl := HRX.out.obj.lt
            have hwrb : wr.heap.size ≠ rb := by omega
            clear hcode hwb har hst hval hr hr0 hr1 hsrc h256 hil hg0 HAR HST HCO
            go_wp2_with fail
            refine (take_ok rb rv (packs l) lj.length d.B.length _ (HRX.out.below ((Below.refl _ wr).alloc (Nat.le_refl _) _)) hpl h1 hle).mono ?_
            rintro e wy ⟨s, rfl, hown, hry⟩
            rw [HVAL.out] at hown
            have hrest : Rest (fun q => q = rb) w3 wy := (HRE.out.alloc _).trans hry.2 (fun _ _ e => e)
            have hbox : Boxed4 wy wr.heap.size d := (hry.2.block wr.heap.size (by simp) hwrb).trans (boxed4_new wr d)
            have hbw : Below w.heap.size w wy := HBASE.out.trans (hrest.toBelow w.heap.size HBASE.out.size (fun i hi e => by have := NB.out; omega))
            have e3 := hbox.c3
            have cv1 := conv_src (SrcAt.of_row hown) H256.out
            have cv2 := conv_srcE (HSRC.out.later hbw) H256.out
            have HRY := Lib.hid hry.1
            have HRS := Lib.hid hrest
            clear hry hrest hown hbox hbw
            go_wp2
            go_roundw
            case rel =>
              refine ⟨j + 1, by omega, by go_num, ?_, HRS.out⟩
              rw [HST2.out, List.length_append, unpack_length]
              exact HRY.out
            case measure => simp [intOf]; omega
          · have hcode := HCO.out
            have hr0 : ¬ d.kd % 4 = 0 := by omega
            have hr1 : ¬ d.kd % 4 = 1 := by omega
            have hr2 : ¬ d.kd % 4 = 2 := by omega
            unfold wCode at hcode
            rw [if_neg hr0, if_neg hr1, if_neg hr2] at hcode
            obtain ⟨m, e2, h1, h2, h3⟩ := align_zero_iff hcode
            have hwb : wBits lj d = List.replicate (bord lj.length m - lj.length) false := by unfold wBits; rw [if_neg hr0, if_neg hr1, if_neg hr2, e2]; simp
            have har := HAR.out
            have hst := HST.out
            rw [hwb] at har hst
            have hval := read_zeros lj rest (bord lj.length m - lj.length)
            rw [← har] at hval
            have hge := bord_ge lj.length m h1
            have hle : bord lj.length m ≤ 8 * (packs l).length := by
              have := congrArg List.length har
              simp at this
              rw [packs_length]; omega
            have hpc : padCode (packs l) lj.length m = 0 := by
              unfold padCode
              rw [if_pos (by simp [withinB]; omega), if_neg (by simp; omega)]
              rw [show ((m : Nat) : Int).toNat = m by omega, hval]
              simp [zerosB]
            have HPC := Lib.hid hpc
            have HST2 := Lib.hid hst
            have HGE := Lib.hid hge
            have q0 : ((d.kd : Int) % 4 == 0) = false := by simp; omega
            have q1 : ((d.kd : Int) % 4 == 1) = false := by simp; omega
            have q2 : ((d.kd : Int) % 4 == 2) = false := by simp; omega
            rw [e2] at c2
            clear hcode hwb har hst hval hr hr0 hr1 hr2 hge hpc HAR HST HCO
            go_wp2_with fail
            refine (pad_ok rb rv (packs l) lj.length m _ (HRX.out.below ((Below.refl _ wr).alloc (Nat.le_refl _) _)) (packs_small l) hpl (Nat.le_trans HGE.out hle) h1 h2 HPC.out).mono ?_
            rintro e wy ⟨rfl, hry⟩
            have hrest : Rest (fun q => q = rb) w3 wy := (HRE.out.alloc _).trans hry.2 (fun _ _ e => e)
            have HRY := Lib.hid hry.1
            have HRS := Lib.hid hrest
            clear hry hrest
            go_wp2
            go_roundw
            case rel =>
              refine ⟨j + 1, by omega, by go_num, ?_, HRS.out⟩
              rw [HST2.out, List.length_append, List.length_replicate, show lj.length + (bord lj.length m - lj.length) = bord lj.length m by have := HGE.out; omega]
              exact HRY.out
            case measure => simp [intOf]; omega
        · obtain rfl : j = D.length := by omega
          have hra := HRA.out
          rw [List.take_of_length_le (Nat.le_refl _), ← HLB.out] at hra
          have hwx : WAt wr w.heap.size v' l := HWR3.out.stays (S := fun q => q = rb) HRE.out (fun e => by have := NB.out; omega) (fun q hq e => NWR.out q hq e)
          have hbo : bord l.length 8 = 8 * (packs l).length := by rw [packs_length]; unfold bord; omega
          have hpc : padCode (packs l) l.length 8 = 0 := by
            unfold padCode
            rw [if_pos (by decide), if_neg (by rw [show ((8 : Int)).toNat = 8 from rfl, hbo]; omega)]
            rw [show ((8 : Int)).toNat = 8 from rfl, read_fill]
            rw [List.take_of_length_le (by rw [List.length_replicate, hbo, packs_length]; omega), zeros_rep]
            rfl
          have hle : l.length ≤ 8 * (packs l).length := by rw [packs_length]; omega
          have HRX := Lib.hid hra
          have HWX := Lib.hid hwx
          have HPC := Lib.hid hpc
          have HBO := Lib.hid hbo
          clear hra hwx hpc hbo HRA
          go_wp2_with fail
          refine (place_any rb rv (packs l) l.length wr HRX.out).mono ?_
          rintro e w' ⟨rfl, rfl⟩
          go_wp2_with fail
          refine (len_any w.heap.size v' l wr HWX.out).mono ?_
          rintro e w' ⟨rfl, rfl⟩
          go_wp2_with fail
          refine (pad_ok rb rv (packs l) l.length 8 wr HRX.out (packs_small l) hpl hle (by decide) (by decide) HPC.out).mono ?_
          rintro e wy ⟨rfl, hry⟩
          rw [HBO.out] at hry
          have HRY := Lib.hid hry
          clear hry
          go_wp2_with fail
          have hleft := left_any rb rv (packs l) (8 * (packs l).length) wy HRY.out.1 hpl (Nat.le_refl _)
          rw [show 8 * ((packs l).length : Int) - ((8 * (packs l).length : Nat) : Int) = 0 by omega] at hleft
          refine hleft.mono ?_
          clear hleft
          rintro e wz ⟨rfl, nd, hwz⟩
          have hrest : Rest (fun q => q = rb) w3 wy := HRE.out.trans HRY.out.2 (fun _ _ e => e)
          have hbz : Below w.heap.size w wz := by
            rw [hwz]
            exact below_drewN (HBASE.out.trans (hrest.toBelow w.heap.size HBASE.out.size (fun i hi e => by have := NB.out; omega))) nd
          have HBZ := Lib.hid hbz
          clear hwz hrest hbz
          go_wp2_with fail
          refine (known_any _).mono ?_
          rintro e wk ⟨rfl, hbk⟩
          have HBK := Lib.hid (HBZ.out.trans (hbk.mono HBZ.out.size))
          clear hbk
          go_wp2
          go_ret
          exact ⟨rfl, HBK.out⟩

set_option maxRecDepth 100000 in
set_option maxHeartbeats 800000 in
theorem inverts_not (GA : Option Addr) (c : Nat) (L : List ActD) (w : World) (ha : ActsAt w (.slice GA L.length c) L) (hl : L.length ≤ 9223372036854775807) (hs : smallB L = false) :
    Calls Try.prog 6 #[.slice GA L.length c] w fun e w' => e = .returned (.bool true) ∧ Below w.heap.size w w' := by
  have hfit := acts_fit _ L w ha hl
  rw [hs] at hfit
  have HF := Lib.hid hfit
  clear hfit ha hs
  go_enter Try.func6, Try.ntmps6
  go_wp2_with fail
  refine HF.out.mono ?_
  rintro e w' ⟨rfl, rfl⟩
  go_wp2_with fail
  refine (known_any _).mono ?_
  rintro e w1 ⟨rfl, hb⟩
  have HB := Lib.hid hb
  clear hb
  go_wp2
  go_ret
  exact ⟨rfl, HB.out⟩

theorem inverts_any (s : Value) (L : List ActD) (w : World) (ha : ActsAt w s L) (hl : L.length ≤ 9223372036854775807) :
    Calls Try.prog 6 #[s] w fun e w' => e = .returned (.bool true) ∧ Below w.heap.size w w' := by
  obtain ⟨GA, c, rfl⟩ : ∃ GA c, s = .slice GA L.length c := by
    rcases ha with ⟨rfl, rfl⟩ | ⟨g, o, c, rfl, _⟩
    · exact ⟨none, 0, rfl⟩
    · exact ⟨_, _, rfl⟩
  cases hs : smallB L
  · exact inverts_not GA c L w ha hl hs
  · simp [smallB] at hs
    exact inverts_fit GA c L w ha hs.2 hs.1
end Go.Proofs.Ytboiiohpkoodpaa
