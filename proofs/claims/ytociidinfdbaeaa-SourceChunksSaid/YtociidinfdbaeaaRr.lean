/- run: calls on a source and on the document's source side by side; it returns true. Conditions: both lie in memory in the same state; the calls lie below the source; at most 60 calls with at most 100 bytes each. -/
import Derived.Test.YtociidinfdbaeaaRo
import Derived.Deep.CutRange
namespace Go.Proofs.Ytociidinfdbaeaa
open Go.RowKit Go.Shelf

theorem St.Ok.run {s : St} {m : Nat} (h : s.Ok m) (L : Nat) : ∀ (l : List ActD), (∀ d ∈ l, d.B.length ≤ 100 ∧ ∀ y ∈ d.B, y < 256) → (s.run L l).Ok (m + 100 * l.length) := by
  intro l
  induction l generalizing s m with
  | nil => intro _; exact h
  | cons d r ih =>
    intro hd
    have := ih (h.next L (d.kd % 7) d.B d.V d.E (Nat.mod_lt _ (by decide)) (hd d (by simp)).1 (hd d (by simp)).2) (fun e he => hd e (by simp [he]))
    have e : m + 100 + 100 * r.length = m + 100 * (d :: r).length := by simp; omega
    rw [e] at this
    exact this

theorem take_snoc_act (l : List ActD) (k : Nat) (d : ActD) (h : l[k]? = some d) : l.take (k + 1) = l.take k ++ [d] := by
  rw [List.take_add_one, h]; rfl

/-- What want answers, by its parts. -/
def WantedX (L : Nat) (A : Option Addr) (n c : Nat) (s2 : St) (out : List Nat) (code : Int) (w : World) (e : Ending) (w' : World) : Prop :=
  ∃ A' c' a d, e = .returned (.tuple #[refV L A' s2.F.length c' s2.T s2.C, .slice a out.length d, .int .i64 code]) ∧
    SrcAt w' (.slice a out.length d) out ∧ SrcAt w' (.slice A' s2.F.length c') s2.F ∧ s2.F.length ≤ c' ∧
    (∀ j, (Value.slice A' s2.F.length c').ownBlock = some j → (Value.slice A n c).ownBlock = some j ∨ w.heap.size ≤ j) ∧ Below w.heap.size w w' ∧ ∀ j, (Value.slice a out.length d).ownBlock = some j → (Value.slice A n c).ownBlock = some j

/-- What run leaves. -/
def Ran (p L : Nat) (v : Value) (s' : St) (A : Option Addr) (n c : Nat) (w : World) (e : Ending) (w' : World) : Prop :=
  ∃ A' c' v', e = .returned (.tuple #[refV L A' s'.F.length c' s'.T s'.C, .bool true]) ∧ SAt w' p v' s'.B L s'.T s'.C ∧ SStep p v v' w w' ∧ SrcAt w' (.slice A' s'.F.length c') s'.F ∧ s'.F.length ≤ c' ∧
    (∀ k, (Value.slice A' s'.F.length c').ownBlock = some k → (Value.slice A n c).ownBlock = some k ∨ w.heap.size ≤ k) ∧ ∀ k, (Value.slice A' s'.F.length c').ownBlock = some k → ¬ Mine p v' k

set_option maxRecDepth 100000 in
set_option maxHeartbeats 8000000 in
theorem run_some (w00 w : World) (p L : Nat) (v : Value) (A : Option Addr) (c m g o cx : Nat) (s : St) (Lst : List ActD) (hM : Mid w00 w p v s.B L s.T s.C) (hF : SrcAt w (.slice A s.F.length c) s.F) (hc : s.F.length ≤ c)
    (hA : ∀ k, (Value.slice A s.F.length c).ownBlock = some k → ¬ Mine p v k) (ok : s.Ok m) (hm : m + 100 * Lst.length ≤ 500000) (hx : ∀ (i : Nat) (d : ActD), Lst[i]? = some d → d.lies w00 g (o + i * 4)) (hsm : ∀ d ∈ Lst, d.B.length ≤ 100) (hll : Lst.length ≤ 60) :
    Calls Try.prog 12 #[.pointer (some ⟨p, 0, none⟩), refV L A s.F.length c s.T s.C, .slice (some ⟨g, o, none⟩) Lst.length cx] w (Ran p L v (s.run L Lst) A s.F.length c w) := by
  have hL2 := hM.at_.max
  have HACT : ∀ wx, Rest (Mine p v) w wx → ∀ (i : Nat) (d : ActD), Lst[i]? = some d → d.lies wx g (o + i * 4) := fun wx hr i d hd => by
    have hb : Below w00.heap.size w00 wx := hM.below.trans (hr.toBelow w00.heap.size hM.below.size (fun i hi hmn => by
      rcases hmn with e | e
      · have := hM.new; omega
      · have := hM.own i e; omega))
    have h := hx i d hd
    exact h.rest (S := fun k => w00.heap.size ≤ k) ⟨hb.os, hb.tape, hb.output, hb.size, fun k hk _ => hb.block k (by omega)⟩ (by have := h.1; omega) (fun k hk _ => by omega)
  have HOK : ∀ k, k ≤ Lst.length → (s.run L (Lst.take k)).Ok 500000 := fun k hk => by
    have h := ok.run L (Lst.take k) (fun d hd => by
      have hd' := List.mem_of_mem_take hd
      obtain ⟨i, hi⟩ := List.getElem?_of_mem hd'
      exact ⟨hsm d hd', (hx i d hi).2.2.2.2.2.2.1⟩)
    refine ⟨h.le, Nat.le_trans h.few ?_, h.bytes⟩
    rw [List.length_take]; omega
  have HA := Lib.hid HACT
  have HO := Lib.hid HOK
  have HSM := Lib.hid hsm
  have HM := Lib.hid hM
  have HF := Lib.hid hF
  have HAA := Lib.hid hA
  have HC := Lib.hid hc
  clear HACT HOK hsm hM hF hA hx ok hm hc
  go_enter Try.func12, Try.ntmps12
  go_wp2_with fail
  have hq1 := (qbox_new w (.int .i64 L) (.slice A s.F.length c) (.int .i64 s.T) (.bool s.C)).alloc (.cells #[.int .i64 0, .slice none 0 0, .int .i64 0, .bool false] 31)
  have hq2 := qbox_next w (.cells #[.int .i64 L, .slice A s.F.length c, .int .i64 s.T, .bool s.C] 31) (.int .i64 0) (.slice none 0 0) (.int .i64 0) (.bool false)
  have hb0 : Below w.heap.size w ((w.alloc (.cells #[.int .i64 L, .slice A s.F.length c, .int .i64 s.T, .bool s.C] 31)).alloc (.cells #[.int .i64 0, .slice none 0 0, .int .i64 0, .bool false] 31)) := ((Below.refl _ _).alloc (Nat.le_refl _) _).alloc (by simp) _
  generalize hwb : (w.alloc (.cells #[.int .i64 L, .slice A s.F.length c, .int .i64 s.T, .bool s.C] 31)).alloc (.cells #[.int .i64 0, .slice none 0 0, .int .i64 0, .bool false] 31) = wb at *
  have hpl := HM.out.at_.lt
  have hvl := HM.out.at_.buf.lt
  have hal := HF.out.lt
  have hE : Env wb p L v s A c w.heap.size (w.heap.size + 1) := ⟨HM.out.at_.below hb0, HF.out.below hb0 HF.out.lt, HC.out, hq1, hq2, by omega, fun h => by
      rcases h with e | e
      · omega
      · have := hvl _ e; omega, fun h => by
      rcases h with e | e
      · omega
      · have := hvl _ e; omega, fun k hk => ⟨HAA.out k hk, by have := hal k hk; omega, by have := hal k hk; omega⟩⟩
  obtain ⟨q1, e1⟩ : ∃ q1, w.heap.size = q1 := ⟨_, rfl⟩
  obtain ⟨q2, e2⟩ : ∃ q2, q1 + 1 = q2 := ⟨_, rfl⟩
  simp only [e1, e2] at hE ⊢
  have E1 := Lib.hid e1
  have E2 := Lib.hid e2
  have ENV := Lib.hid hE
  have ST0 := Lib.hid (SStep.below (p := p) (v := v) hb0)
  clear hq1 hq2 hb0 hwb hE hpl hvl hal e1 e2
  go_loopw [8] (fun i wr => ∃ (k : Nat) (A' : Option Addr) (c' : Nat) (v' : Value), i = .int .i64 k ∧ k ≤ Lst.length ∧ Env wr p L v' (s.run L (Lst.take k)) A' c' q1 q2 ∧ SStep p v v' w wr ∧ ∀ j, (Value.slice A' (s.run L (Lst.take k)).F.length c').ownBlock = some j → (Value.slice A s.F.length c).ownBlock = some j ∨ w.heap.size ≤ j) (fun i _ => Lst.length - (intOf i).toNat)
  case atStart => exact ⟨0, A, c, v, rfl, Nat.zero_le _, by rw [List.take_zero]; exact ENV.out, ST0.out, fun j hj => .inl hj⟩
  case round =>
    clear ENV ST0
    obtain ⟨k, A1, c1, v1, rfl, hk, hE, hS, hO⟩ := hrel
    by_cases hlt : k < Lst.length
    · obtain ⟨d, hd⟩ : ∃ d, Lst[k]? = some d := ⟨_, List.getElem?_eq_getElem hlt⟩
      have hs2 : s.run L (Lst.take (k + 1)) = (s.run L (Lst.take k)).next L (d.kd % 7) d.B d.V d.E := by rw [take_snoc_act Lst k d hd, St.run_snoc]
      have hok := HO.out k hk
      have hok2 := HO.out (k + 1) hlt
      obtain ⟨s1, e1⟩ : ∃ s1, s.run L (Lst.take k) = s1 := ⟨_, rfl⟩
      rw [hs2] at hok2
      simp only [e1] at hE hO hs2 hok hok2
      have hl := HA.out wr hS.rest k d hd
      obtain ⟨hg, c0', c1', c2', c3', hse, hb256, hkd, hEd, _⟩ := hl
      have hl2 := HA.out (wr.alloc (.cells #[] 5)) (hS.rest.alloc _) k d hd
      have d1' := hl2.2.2.1
      have hse2 := hl2.2.2.2.2.2.1
      clear hl2
      have hdl : d.B.length ≤ 100 := HSM.out d (List.mem_of_getElem? hd)
      have HROW := Lib.hid (World.ownsRow_lit (base := wr.heap.size) (e := 5) (size := 1) wr #[] 0 (Nat.le_refl _) (Nat.zero_le _) rfl)
      have ENV := Lib.hid hE
      have STP := Lib.hid hS
      have OWN := Lib.hid hO
      have HS2 := Lib.hid hs2
      have OK1 := Lib.hid hok
      have OK2 := Lib.hid hok2
      have HSE := Lib.hid hse2
      have HB256 := Lib.hid hb256
      have HD := Lib.hid hd
      clear hE hS hO hs2 hok hok2 hse hse2 hb256 e1 hd c0' c1' c2' c3'
      go_wp2_with (at_builtin; go_must (refine wpList_append_fresh rfl _ _ rfl rfl HROW.out (by simp) rfl HSE.out (by omega) ?_))
      intro gO capO w1 hrow hb1
      have hbr1 : Below wr.heap.size wr w1 := ((Below.refl _ wr).alloc (Nat.le_refl _) _).trans hb1
      have hst1 := STP.out.trans (SStep.below hbr1)
      have hl1 := HA.out w1 hst1.rest k d HD.out
      have k0 := hl1.2.1
      have k1 := hl1.2.2.1
      have k2 := hl1.2.2.2.1
      have k3 := hl1.2.2.2.2.1
      have ENV1 := Lib.hid (ENV.out.below hbr1)
      have ST1 := Lib.hid hst1
      have HPL : ∀ wx, Below w1.heap.size w1 wx → Calls Try.prog 23 #[.pointer (some ⟨p, 0, none⟩), .agg #[.int .u8 d.kd, .slice (some ⟨gO, 0, none⟩) d.B.length capO, .int .i64 d.V, .int .u8 d.E]] wx (Played p v1 L s1 (d.kd % 7) d.B d.V d.E wx) := fun wx hx =>
        play_any p L v1 s1 d.kd d.E capO d.V (some ⟨gO, 0, none⟩) d.B wx (ENV1.out.at_.below hx) OK1.out.le (Nat.le_trans OK1.out.few (by omega)) ((SrcAt.of_row hrow).below hx (SrcAt.of_row hrow).lt) hkd
      have HPL := Lib.hid HPL
      have HR1 := Lib.hid hrow
      have HBR1 := Lib.hid hbr1
      clear hrow hb1 hbr1 hst1 hl1 d1' HROW HSE
      go_wp2_with fail
      refine (HPL.out _ ((Below.refl _ _).alloc (Nat.le_refl _) _)).mono ?_
      rintro e w3 ⟨b, rfl, hrb, hfb, v2, hs3, hst3, hap⟩
      have hst13 : SStep p v1 v2 w1 w3 := SStep.after ((Below.refl _ _).alloc (Nat.le_refl _) _) hst3
      have hrb' := Joins.ownsRow_le hrb (show w1.heap.size ≤ _ by simp)
      have hst03 := ST1.out.trans hst13
      have hl3 := HA.out w3 hst03.rest k d HD.out
      have hq1 : QBox w3 q1 (.int .i64 L) (.slice A1 s1.F.length c1) (.int .i64 s1.T) (.bool s1.C) := ⟨(hst13.rest.block q1 ENV1.out.b1.lt ENV1.out.n1).trans ENV1.out.b1.blk⟩
      have hq2 : QBox w3 q2 (.int .i64 0) (.slice none 0 0) (.int .i64 0) (.bool false) := ⟨(hst13.rest.block q2 ENV1.out.b2.lt ENV1.out.n2).trans ENV1.out.b2.blk⟩
      have hsA : SrcAt w3 (.slice A1 s1.F.length c1) s1.F := ENV1.out.src.rest hst13.rest (fun j hj => (ENV1.out.nA j hj).1)
      have hrO : w3.ownsRow wr.heap.size 5 1 (.slice (some ⟨gO, 0, none⟩) d.B.length capO) d.B.length (u8s d.B) := Rest.row hst13.rest HR1.out (fun j hj hmn => by
        have h1 := (HR1.out.lt j hj).1
        rcases hmn with e | e
        · have := ENV.out.at_.lt; omega
        · have := ENV.out.at_.buf.lt j e; omega)
      obtain ⟨s2, es2⟩ : ∃ s2, s1.next L (d.kd % 7) d.B d.V d.E = s2 := ⟨_, rfl⟩
      obtain ⟨out, eo⟩ : ∃ out, s1.out L (d.kd % 7) d.V d.E = out := ⟨_, rfl⟩
      obtain ⟨code, ec⟩ : ∃ code, s1.code L (d.kd % 7) d.B d.V d.E = code := ⟨_, rfl⟩
      have hout : (∀ y ∈ out, y < 256) ∧ out.length ≤ 500000 := by rw [← eo]; exact ⟨St.out_lt OK1.out L _ _ _, St.out_len OK1.out L _ _ _⟩
      have HWN : ∀ wx, Below w3.heap.size w3 wx → Calls Try.prog 29 #[refV L A1 s1.F.length c1 s1.T s1.C, .agg #[.int .u8 d.kd, .slice d.A d.B.length d.c, .int .i64 d.V, .int .u8 d.E]] wx (WantedX L A1 s1.F.length c1 s2 out code wx) := fun wx hx => by
        rw [← es2, ← eo, ← ec]
        exact want_any L A1 c1 s1 d.kd d.E d.c d.V d.A d.B wx (hsA.below hx hsA.lt) ENV1.out.le OK1.out.le (Nat.le_trans OK1.out.few (by omega)) hL2 (hl3.2.2.2.2.2.1.below hx) (by omega) hkd
      have KEEP : ∀ wy, Below w3.heap.size w3 wy → wy.cell? ⟨q1, 0, none⟩ = some (.int .i64 L) ∧ wy.cell? ⟨q1, 1, none⟩ = some (.slice A1 s1.F.length c1) ∧ wy.cell? ⟨q1, 2, none⟩ = some (.int .i64 s1.T) ∧ wy.cell? ⟨q1, 3, none⟩ = some (.bool s1.C) ∧ wy.cell? ⟨g, o + k * 4, none⟩ = some (.int .u8 d.kd) ∧ wy.cell? ⟨g, o + k * 4 + 1, none⟩ = some (.slice d.A d.B.length d.c) ∧ wy.cell? ⟨g, o + k * 4 + 2, none⟩ = some (.int .i64 d.V) ∧ wy.cell? ⟨g, o + k * 4 + 3, none⟩ = some (.int .u8 d.E) := fun wy hy => by
        have h := hq1.below hy hq1.lt
        have hgl := hl3.1
        exact ⟨h.c0, h.c1, h.c2, h.c3, (hy.cell (p := ⟨g, o + k * 4, none⟩) hgl).trans hl3.2.1, (hy.cell (p := ⟨g, o + k * 4 + 1, none⟩) hgl).trans hl3.2.2.1, (hy.cell (p := ⟨g, o + k * 4 + 2, none⟩) hgl).trans hl3.2.2.2.1, (hy.cell (p := ⟨g, o + k * 4 + 3, none⟩) hgl).trans hl3.2.2.2.2.1⟩
      simp only [es2] at hs3
      simp only [eo] at hrb' hfb
      rw [ec]
      have HS2' := HS2.out
      have OK2' := OK2.out
      rw [es2] at HS2' OK2'
      have HSN := Lib.hid HS2'
      have OKN := Lib.hid OK2'
      have HOUT := Lib.hid hout
      clear HS2' OK2' HS2 OK2 es2 eo ec hout
      have KEEP := Lib.hid KEEP
      have HWN := Lib.hid HWN
      have HRB := Lib.hid hrb'
      have HFB := Lib.hid hfb
      have HS3 := Lib.hid hs3
      have HST13 := Lib.hid hst13
      have HST03 := Lib.hid hst03
      have HAP := Lib.hid hap
      have HQ1 := Lib.hid hq1
      have HQ2 := Lib.hid hq2
      have HSA := Lib.hid hsA
      have HRO := Lib.hid hrO
      clear hrb hrb' hfb hs3 hst3 hst13 hst03 hap hq1 hq2 hsA hrO hl3 k0 k1 k2 k3 HPL
      have HBA : Below w3.heap.size w3 (w3.alloc (.cells #[.int .i64 0, .slice none 0 0, .int .i64 0, .bool false] 31)).drew := ((Below.refl _ _).alloc (Nat.le_refl _) _).drew
      have HBA := Lib.hid HBA
      go_upto_region 8 with fail
      go_cut [13, 14, 15] from 18 to 93 (fun x13 x14 x15 wx => ∃ A2 c2 a4 d4 b13, x13 = .pointer (some ⟨b13, 0, none⟩) ∧ x14 = .slice a4 out.length d4 ∧ x15 = .int .i64 code ∧ QBox wx b13 (.int .i64 L) (.slice A2 s2.F.length c2) (.int .i64 s2.T) (.bool s2.C) ∧ w3.heap.size ≤ b13 ∧ SrcAt wx (.slice a4 out.length d4) out ∧ SrcAt wx (.slice A2 s2.F.length c2) s2.F ∧ s2.F.length ≤ c2 ∧
        (∀ j, (Value.slice A2 s2.F.length c2).ownBlock = some j → (Value.slice A1 s1.F.length c1).ownBlock = some j ∨ w3.heap.size ≤ j) ∧ Below w3.heap.size w3 wx ∧ ∀ j, (Value.slice a4 out.length d4).ownBlock = some j → (Value.slice A1 s1.F.length c1).ownBlock = some j)
      case first =>
        go_region_held (fun w' => w'.cell? ⟨q1, 0, none⟩ = some (.int .i64 L) ∧ w'.cell? ⟨q1, 1, none⟩ = some (.slice A1 s1.F.length c1) ∧ w'.cell? ⟨q1, 2, none⟩ = some (.int .i64 s1.T) ∧ w'.cell? ⟨q1, 3, none⟩ = some (.bool s1.C) ∧ w'.cell? ⟨g, o + k * 4, none⟩ = some (.int .u8 d.kd) ∧ w'.cell? ⟨g, o + k * 4 + 1, none⟩ = some (.slice d.A d.B.length d.c) ∧ w'.cell? ⟨g, o + k * 4 + 2, none⟩ = some (.int .i64 d.V) ∧ w'.cell? ⟨g, o + k * 4 + 3, none⟩ = some (.int .u8 d.E)) (first | exact KEEP.out _ (Below.refl _ _).drew | exact KEEP.out _ HBA.out | exact KEEP.out _ HBC.out | exact KEEP.out _ (HBC.out.alloc HBC.out.size _) | exact KEEP.out _ (((((Below.setCell HBC.out (Nat.le_refl _) _).setCell (Nat.le_refl _) _).setCell (Nat.le_refl _) _).setCell (Nat.le_refl _) _)) | exact KEEP.out _ (((((HBC.out.alloc HBC.out.size _).setCell HBC.out.size _).setCell HBC.out.size _).setCell HBC.out.size _).setCell HBC.out.size _)) (first | (go_at_call 29; refine (HWN.out w3.drew (Below.refl _ _).drew).mono ?_; rintro e w4 ⟨A2, c2, a4, d4, rfl, hso, hsF, hle2, hown2, hb4, hoa⟩; have HBC := Lib.hid ((Below.refl _ _).drew.trans hb4); have HSO := Lib.hid hso; have HSF := Lib.hid hsF; have HLE2 := Lib.hid hle2; have HOWN2 := Lib.hid hown2; have HOA := Lib.hid hoa; clear hoa hso hsF hle2 hown2 hb4) | (go_at_call 29; refine (HWN.out ((w3.alloc (.cells #[.int .i64 0, .slice none 0 0, .int .i64 0, .bool false] 31)).drew) HBA.out).mono ?_; rintro e w4 ⟨A2, c2, a4, d4, rfl, hso, hsF, hle2, hown2, hb4, hoa⟩; have HBC := Lib.hid (HBA.out.trans (hb4.mono (show w3.heap.size ≤ (w3.alloc (.cells #[.int .i64 0, .slice none 0 0, .int .i64 0, .bool false] 31)).heap.size by simp))); have hqn := (QBox.mk (W := (w3.alloc (.cells #[.int .i64 0, .slice none 0 0, .int .i64 0, .bool false] 31)).drew) (qbox_new w3 (.int .i64 0) (.slice none 0 0) (.int .i64 0) (.bool false)).blk).below hb4 (show w3.heap.size < (w3.alloc (.cells #[.int .i64 0, .slice none 0 0, .int .i64 0, .bool false] 31)).heap.size by simp); have l0 := hqn.c0; have l1 := hqn.c1; have l2 := hqn.c2; have l3 := hqn.c3; have g0 := hqn.fr 0; have g1 := hqn.fr 1; have g2 := hqn.fr 2; have g3 := hqn.fr 3; have HQN := Lib.hid hqn; clear hqn; have hown3 : ∀ j, (Value.slice A2 s2.F.length c2).ownBlock = some j → (Value.slice A1 s1.F.length c1).ownBlock = some j ∨ w3.heap.size + 1 ≤ j := fun j hj => (hown2 j hj).imp id (fun h => by simpa using h); have HOWN3 := Lib.hid hown3; clear hown3; have HSO := Lib.hid hso; have HSF := Lib.hid hsF; have HLE2 := Lib.hid hle2; have HOWN2 := Lib.hid hown2; have HOA := Lib.hid hoa; clear hoa hso hsF hle2 hown2 hb4))
        · go_wp2
          go_meet
          case rel =>
            have hb : Below w4.heap.size w4 (w4.alloc (.cells #[.int .i64 L, .slice A2 s2.F.length c2, .int .i64 s2.T, .bool s2.C] 31)) := (Below.refl _ _).alloc (Nat.le_refl _) _
            exact ⟨A2, c2, a4, d4, w4.heap.size, rfl, rfl, rfl, qbox_new w4 _ _ _ _, HBC.out.size, HSO.out.below hb HSO.out.lt, HSF.out.below hb HSF.out.lt, HLE2.out, HOWN2.out, HBC.out.trans (hb.mono HBC.out.size), HOA.out⟩
        · go_wp2
          go_meet
          case rel =>
            have hr : Rest (fun j => j = w3.heap.size) w4 ((((w4.setCell ⟨w3.heap.size, 0, none⟩ (.int .i64 L)).setCell ⟨w3.heap.size, 1, none⟩ (.slice A2 s2.F.length c2)).setCell ⟨w3.heap.size, 2, none⟩ (.int .i64 s2.T)).setCell ⟨w3.heap.size, 3, none⟩ (.bool s2.C)) :=
              (((((Rest.refl (fun j => j = w3.heap.size) w4).setCell (p := ⟨w3.heap.size, 0, none⟩) (fun _ => rfl) _).setCell (p := ⟨w3.heap.size, 1, none⟩) (fun _ => rfl) _).setCell (p := ⟨w3.heap.size, 2, none⟩) (fun _ => rfl) _).setCell (p := ⟨w3.heap.size, 3, none⟩) (fun _ => rfl) _)
            refine ⟨A2, c2, a4, d4, w3.heap.size, rfl, rfl, rfl, HQN.out.set4 _ _ _ _, Nat.le_refl _, HSO.out.rest hr (fun j hj e => ?_), HSF.out.rest hr (fun j hj e => ?_), HLE2.out, fun j hj => ?_, HBC.out.trans (hr.toBelow w3.heap.size HBC.out.size (fun i hi e => by omega)), HOA.out⟩
            · have := HSA.out.lt j (HOA.out j hj); omega
            · rcases HOWN3.out j hj with e' | e'
              · have := HSA.out.lt j e'; omega
              · omega
            · exact (HOWN3.out j hj).imp id (fun e => by omega)
      case rest =>
        obtain ⟨A2, c2, a4, d4, b13, rfl, rfl, rfl, hqn, hb13, hso, hsF, hle2, hown2, hbc, hoa⟩ := hcut
        have hE2 := Env.step ENV1.out HST13.out HS3.out hbc hsF hle2 hown2
        have hq1 := HQ1.out.below hbc HQ1.out.lt
        have k0 := hq1.c0
        have k1 := hq1.c1
        have k2 := hq1.c2
        have k3 := hq1.c3
        have f0 := hq1.fr 0
        have f1 := hq1.fr 1
        have f2 := hq1.fr 2
        have f3 := hq1.fr 3
        have l0 := hqn.c0
        have l1 := hqn.c1
        have l2 := hqn.c2
        have l3 := hqn.c3
        have n13 : b13 ≠ q1 := by have := HQ1.out.lt; omega
        have ENV2 := Lib.hid hE2
        have hr6 : Rest (fun j => j = q1) wc ((((wc.setCell ⟨q1, 0, none⟩ (.int .i64 L)).setCell ⟨q1, 1, none⟩ (.slice A2 s2.F.length c2)).setCell ⟨q1, 2, none⟩ (.int .i64 s2.T)).setCell ⟨q1, 3, none⟩ (.bool s2.C)) :=
          (((((Rest.refl (fun j => j = q1) wc).setCell (p := ⟨q1, 0, none⟩) (fun _ => rfl) _).setCell (p := ⟨q1, 1, none⟩) (fun _ => rfl) _).setCell (p := ⟨q1, 2, none⟩) (fun _ => rfl) _).setCell (p := ⟨q1, 3, none⟩) (fun _ => rfl) _)
        have hso6 := hso.rest hr6 (fun j hj e => (ENV1.out.nA j (hoa j hj)).2.1 e)
        have R6 := Lib.hid hr6
        have SO6 := Lib.hid hso6
        have OWN2 := Lib.hid hown2
        have HBC := Lib.hid hbc
        clear hE2 hq1 hqn hso hsF hle2 hown2 hbc hoa hr6 hso6 HWN KEEP HBA
        go_upto_region 10 with fail
        generalize hw6 : ((((wc.setCell ⟨q1, 0, none⟩ (.int .i64 L)).setCell ⟨q1, 1, none⟩ (.slice A2 s2.F.length c2)).setCell ⟨q1, 2, none⟩ (.int .i64 s2.T)).setCell ⟨q1, 3, none⟩ (.bool s2.C)) = w6 at R6 SO6 ENV2 ⊢
        clear hw6 k0 k1 k2 k3 f0 f1 f2 f3 l0 l1 l2 l3 n13
        have hq1l := ENV1.out.b1.lt
        have hr36 : Rest (fun j => j = q1) w3 w6 := (Rest.below (S := fun j => j = q1) HBC.out).trans R6.out (fun _ _ e => e)
        obtain ⟨Ab, db, rfl⟩ := row_shape HRB.out
        have hrb6 : w6.ownsRow w1.heap.size 5 1 (.slice Ab out.length db) out.length (u8s out) := Rest.row hr36 HRB.out (fun j hj e => by have := (HRB.out.lt j hj).1; omega)
        have hro6 : w6.ownsRow wr.heap.size 5 1 (.slice (some ⟨gO, 0, none⟩) d.B.length capO) d.B.length (u8s d.B) := Rest.row hr36 HRO.out (fun j hj e => by have := (HRO.out.lt j hj).1; have := ENV.out.b1.lt; omega)
        have hcb : (convert 29 9 (.slice Ab out.length db)).run Try.prog w6 = .ok (.string (strOf out)) w6 := conv_src (.of_row hrb6) HOUT.out.1
        have hcc : (convert 29 9 (.slice a4 out.length d4)).run Try.prog w6 = .ok (.string (strOf out)) w6 := conv_src SO6.out HOUT.out.1
        have hol := HOUT.out.2
        have RB6 := Lib.hid hrb6
        have RO6 := Lib.hid hro6
        have hgO := HR1.out.lt gO rfl
        have hz0 : w.heap.size ≤ wr.heap.size := STP.out.rest.size
        have hz1 : wr.heap.size ≤ w1.heap.size := HBR1.out.size
        have hz3 : w1.heap.size ≤ w3.heap.size := HST13.out.rest.size
        have hqq := E1.out
        have hbO : ∀ i, (Value.slice Ab out.length db).ownBlock = some i → w1.heap.size ≤ i ∧ i < w3.heap.size := fun i hi => HRB.out.lt i hi
        have HZ : ∀ wy wz, Rest (fun i => (Value.slice Ab out.length db).ownBlock = some i) w6 wy → Rest (fun i => i = gO) wy wz → Env wz p L v2 s2 A2 c2 q1 q2 ∧ SStep p v v2 w wz := fun wy wz hy hzz => by
          have hmO : ¬ Mine p v2 gO := fun hmn => by
            rcases hmn with e | e
            · have := ENV.out.at_.lt; omega
            · rcases HST13.out.own gO e with e' | e'
              · have := ENV.out.at_.buf.lt gO e'; omega
              · omega
          have hA2 : ∀ j, (Value.slice A2 s2.F.length c2).ownBlock = some j → j < wr.heap.size ∨ w3.heap.size ≤ j := fun j hj => (OWN2.out j hj).imp (fun e => ENV.out.src.lt j e) id
          have l1 := ENV.out.b1.lt
          have l2 := ENV.out.b2.lt
          have e1 := ENV2.out.rest hy (fun i hi hb => by
            rcases hi with hm | hm | rfl | rfl
            · exact HAP.out i hb hm
            · have := hbO i hb; have := hA2 i hm; omega
            · have := hbO _ hb; omega
            · have := hbO _ hb; omega)
          have e2 := e1.rest hzz (fun i hi hb => by
            subst hb
            rcases hi with hm | hm | rfl | rfl
            · exact hmO hm
            · have := hA2 _ hm; omega
            · omega
            · omega)
          refine ⟨e2, ⟨((HST03.out.rest.trans hr36 (fun i hi e => by omega)).trans hy (fun i hi e => by have := hbO i e; omega)).trans hzz (fun i hi e => by omega), HST03.out.own⟩⟩
        have HZ := Lib.hid HZ
        have HBO := Lib.hid hbO
        have HGO := Lib.hid hgO
        clear hr36 hrb6 hro6 hq1l hgO hz0 hz1 hz3 hqq hbO
        go_wp2_with fail
        go_loopw [16] (fun j wx => ∃ (t : Nat) (D : List Nat), j = .int .i64 t ∧ t ≤ out.length ∧ wx.ownsRow w1.heap.size 5 1 (.slice Ab out.length db) out.length (u8s D) ∧ Rest (fun i => (Value.slice Ab out.length db).ownBlock = some i) w6 wx) (fun j _ => out.length - (intOf j).toNat)
        case atStart => exact ⟨0, out, rfl, Nat.zero_le _, RB6.out, Rest.refl _ _⟩
        case round =>
          obtain ⟨t, D, rfl, ht, hrow, hrest⟩ := hrel
          have ROW := Lib.hid hrow
          have RST := Lib.hid hrest
          clear hcb hcc
          by_cases htl : t < out.length
          · rcases Joins.ownsRow_forms hrow with ⟨e, e0⟩ | ⟨gb, cb, e⟩
            · omega
            · simp only [Value.slice.injEq] at e
              obtain ⟨rfl, _, rfl⟩ := e
              obtain ⟨y, hy, hcy, hfy⟩ := row_cell hrow htl
              clear hrow hrest
              go_wp2
              go_roundw
              case rel =>
                have e : ((y : Int) + 1) % 256 = (((y + 1) % 256 : Nat) : Int) := by omega
                rw [e]
                exact ⟨t + 1, D.set t ((y + 1) % 256), by go_num, by omega, row_write ROW.out, RST.out.setCell (S := fun i => (Value.slice (some ⟨gb, 0, none⟩) out.length db).ownBlock = some i) (p := ⟨gb, t, none⟩) (fun _ => rfl) _⟩
              case measure => simp [intOf]; omega
          · obtain rfl : t = out.length := by omega
            clear hrow hrest
            have hrO := Rest.row RST.out RO6.out (fun j hj hb => by
              have e : gO = j := by simpa [Value.ownBlock] using hj
              have := HBO.out j hb
              have := HGO.out
              omega)
            have RO := Lib.hid (Joins.ownsRow_le hrO (Nat.zero_le _))
            clear hrO ROW
            go_wp2_with fail
            go_loopw [17] (fun j wx => ∃ (t : Nat) (D : List Nat), j = .int .i64 t ∧ t ≤ d.B.length ∧ wx.ownsRow 0 5 1 (.slice (some ⟨gO, 0, none⟩) d.B.length capO) d.B.length (u8s D) ∧ Rest (fun i => i = gO) wr wx) (fun j _ => d.B.length - (intOf j).toNat)
            case atStart => exact ⟨0, d.B, rfl, Nat.zero_le _, RO.out, Rest.refl _ _⟩
            case round =>
              obtain ⟨t, D, rfl, ht2, hrow, hrest⟩ := hrel
              have ROW := Lib.hid hrow
              have RS2 := Lib.hid hrest
              by_cases htl2 : t < d.B.length
              · obtain ⟨y, hy, hcy, hfy⟩ := row_cell hrow htl2
                clear hrow hrest
                go_wp2
                go_roundw
                case rel =>
                  have e : ((y : Int) + 1) % 256 = (((y + 1) % 256 : Nat) : Int) := by omega
                  rw [e]
                  exact ⟨t + 1, D.set t ((y + 1) % 256), by go_num, by omega, row_write ROW.out, RS2.out.setCell (S := fun i => i = gO) (p := ⟨gO, t, none⟩) (fun _ => rfl) _⟩
                case measure => simp [intOf]; omega
              · obtain rfl : t = d.B.length := by omega
                clear hrow hrest
                obtain ⟨hEz, hSz⟩ := HZ.out _ _ RST.out RS2.out
                have k0 := hEz.b1.c0
                have k1 := hEz.b1.c1
                have k2 := hEz.b1.c2
                have k3 := hEz.b1.c3
                have IS := Lib.hid (is_any p L v2 A2 c2 s2 _ hEz.at_ hEz.src hEz.le OKN.out.le OKN.out.bytes (Nat.le_trans OKN.out.few (by omega)))
                have ENZ := Lib.hid hEz
                have STZ := Lib.hid hSz
                clear hEz hSz
                go_wp2_with fail
                refine IS.out.mono ?_
                rintro e wv ⟨rfl, hbv⟩
                have ENV3 := Lib.hid (ENZ.out.below hbv)
                have ST3 := Lib.hid (STZ.out.trans (SStep.below hbv))
                clear hbv k0 k1 k2 k3
                go_wp2
                go_roundw
                case rel =>
                  have hz0 : w.heap.size ≤ w3.heap.size := HST03.out.rest.size
                  refine ⟨k + 1, A2, c2, v2, by go_num, by omega, by rw [HSN.out]; exact ENV3.out, ST3.out, ?_⟩
                  rw [HSN.out]
                  intro j hj
                  rcases OWN2.out j hj with e' | e'
                  · exact OWN.out j e'
                  · exact .inr (by omega)
                case measure => simp [intOf]; omega
    · obtain rfl : k = Lst.length := by omega
      rw [List.take_length] at hE hO
      have ENV := Lib.hid hE
      have STP := Lib.hid hS
      have OWN := Lib.hid hO
      have k0 := hE.b1.c0
      have k1 := hE.b1.c1
      have k2 := hE.b1.c2
      have k3 := hE.b1.c3
      have l0 := hE.b2.c0
      have l1 := hE.b2.c1
      have l2 := hE.b2.c2
      have l3 := hE.b2.c3
      have g0 := hE.b2.fr 0
      have g1 := hE.b2.fr 1
      have g2 := hE.b2.fr 2
      have g3 := hE.b2.fr 3
      have n12 := hE.ne
      obtain ⟨s', es'⟩ : ∃ s', s.run L Lst = s' := ⟨_, rfl⟩
      simp only [es'] at *
      clear hE hS hO
      go_wp2
      (try simp only [Exit.inBlock, Exit.then]); refine bodyPost_ret (by simp [results, Try.results12, go_sem, *]; try rfl) rfl ?_
      have hr : Rest (fun j => j = q2) wr ((((wr.setCell ⟨q2, 0, none⟩ (.int .i64 L)).setCell ⟨q2, 1, none⟩ (.slice A1 s'.F.length c1)).setCell ⟨q2, 2, none⟩ (.int .i64 s'.T)).setCell ⟨q2, 3, none⟩ (.bool s'.C)) :=
        (((((Rest.refl (fun j => j = q2) wr).setCell (p := ⟨q2, 0, none⟩) (fun _ => rfl) _).setCell (p := ⟨q2, 1, none⟩) (fun _ => rfl) _).setCell (p := ⟨q2, 2, none⟩) (fun _ => rfl) _).setCell (p := ⟨q2, 3, none⟩) (fun _ => rfl) _)
      have z1 := E1.out
      have z2 := E2.out
      exact ⟨A1, c1, v1, rfl, ENV.out.at_.rest hr (fun e => ENV.out.n2 (.inl e.symm)) (fun j hj e => ENV.out.n2 (.inr (by rw [← e]; exact hj))), ⟨STP.out.rest.trans hr (fun i hi e => by omega), STP.out.own⟩,
        ENV.out.src.rest hr (fun j hj e => (ENV.out.nA j hj).2.2 e), ENV.out.le, OWN.out, fun j hj => (ENV.out.nA j hj).1⟩

set_option maxRecDepth 100000 in
set_option maxHeartbeats 1600000 in
theorem run_nil (w : World) (p L : Nat) (v : Value) (A : Option Addr) (c : Nat) (s : St) (h : SAt w p v s.B L s.T s.C) (hF : SrcAt w (.slice A s.F.length c) s.F) (hc : s.F.length ≤ c)
    (hA : ∀ k, (Value.slice A s.F.length c).ownBlock = some k → ¬ Mine p v k) :
    Calls Try.prog 12 #[.pointer (some ⟨p, 0, none⟩), refV L A s.F.length c s.T s.C, .slice none 0 0] w (Ran p L v s A s.F.length c w) := by
  have FIN : ∀ wf, Below w.heap.size w wf → Ran p L v s A s.F.length c w (.returned (.tuple #[.agg #[.int .i64 L, .slice A s.F.length c, .int .i64 s.T, .bool s.C], .bool true])) wf := fun wf hf =>
    ⟨A, c, v, rfl, h.below hf, SStep.below hf, hF.below hf hF.lt, hc, fun k hk => .inl hk, hA⟩
  have FIN := Lib.hid FIN
  clear h hF hc hA
  go_enter Try.func12, Try.ntmps12
  go_wp2_with fail
  generalize hwb : (w.alloc (.cells #[.int .i64 L, .slice A s.F.length c, .int .i64 s.T, .bool s.C] 31)).alloc (.cells #[.int .i64 0, .slice none 0 0, .int .i64 0, .bool false] 31) = wb at *
  have hq1 := (qbox_new w (.int .i64 L) (.slice A s.F.length c) (.int .i64 s.T) (.bool s.C)).alloc (.cells #[.int .i64 0, .slice none 0 0, .int .i64 0, .bool false] 31)
  have hq2 := qbox_next w (.cells #[.int .i64 L, .slice A s.F.length c, .int .i64 s.T, .bool s.C] 31) (.int .i64 0) (.slice none 0 0) (.int .i64 0) (.bool false)
  have hb0 : Below w.heap.size w ((w.alloc (.cells #[.int .i64 L, .slice A s.F.length c, .int .i64 s.T, .bool s.C] 31)).alloc (.cells #[.int .i64 0, .slice none 0 0, .int .i64 0, .bool false] 31)) := ((Below.refl _ _).alloc (Nat.le_refl _) _).alloc (by simp) _
  rw [hwb] at hq1 hq2 hb0
  have B0 := Lib.hid hb0
  have k0 := hq1.c0
  have k1 := hq1.c1
  have k2 := hq1.c2
  have k3 := hq1.c3
  have l0 := hq2.c0
  have l1 := hq2.c1
  have l2 := hq2.c2
  have l3 := hq2.c3
  have g0 := hq2.fr 0
  have g1 := hq2.fr 1
  have g2 := hq2.fr 2
  have g3 := hq2.fr 3
  clear hq1 hq2 hb0 hwb
  obtain ⟨q1, e1⟩ : ∃ q1, w.heap.size = q1 := ⟨_, rfl⟩
  obtain ⟨q2, e2⟩ : ∃ q2, q1 + 1 = q2 := ⟨_, rfl⟩
  simp only [e1, e2] at k0 k1 k2 k3 l0 l1 l2 l3 g0 g1 g2 g3 ⊢
  have E1 := Lib.hid e1
  have E2 := Lib.hid e2
  have n12 : q1 ≠ q2 := by omega
  clear e1 e2
  go_loopw [8] (fun i wr => i = .int .i64 0 ∧ wr = wb) (fun _ _ => 0)
  case atStart => exact ⟨rfl, rfl⟩
  case round =>
    obtain ⟨rfl, rfl⟩ := hrel
    go_wp2
    (try simp only [Exit.inBlock, Exit.then]); refine bodyPost_ret (by simp [results, Try.results12, go_sem, *]; try rfl) rfl ?_
    have hz : w.heap.size ≤ q2 := by have := E1.out; have := E2.out; omega
    exact FIN.out _ (((((B0.out.setCell (p := ⟨q2, 0, none⟩) hz _).setCell (p := ⟨q2, 1, none⟩) hz _).setCell (p := ⟨q2, 2, none⟩) hz _).setCell (p := ⟨q2, 3, none⟩) hz _))

/-- run on any slice of calls. -/
theorem run_any (w00 w : World) (p L : Nat) (v : Value) (A : Option Addr) (c m : Nat) (s : St) (x : Value) (Lst : List ActD) (hM : Mid w00 w p v s.B L s.T s.C) (hF : SrcAt w (.slice A s.F.length c) s.F) (hc : s.F.length ≤ c)
    (hA : ∀ k, (Value.slice A s.F.length c).ownBlock = some k → ¬ Mine p v k) (ok : s.Ok m) (hm : m + 100 * Lst.length ≤ 500000) (hx : ActsAt w00 x Lst) (hsm : smallB Lst = true) :
    Calls Try.prog 12 #[.pointer (some ⟨p, 0, none⟩), refV L A s.F.length c s.T s.C, x] w (Ran p L v (s.run L Lst) A s.F.length c w) := by
  unfold smallB at hsm
  rw [Bool.and_eq_true, List.all_eq_true, decide_eq_true_eq] at hsm
  rcases hx with ⟨rfl, rfl⟩ | ⟨g, o, cx, rfl, hx⟩
  · exact run_nil w p L v A c s hM.at_ hF hc hA
  · exact run_some w00 w p L v A c m g o cx s Lst hM hF hc hA ok hm hx (fun d hd => by simpa using hsm.1 d hd) hsm.2
end Go.Proofs.Ytociidinfdbaeaa
