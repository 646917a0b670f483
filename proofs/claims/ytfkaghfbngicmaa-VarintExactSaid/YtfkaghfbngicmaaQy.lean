/- Forms and Write of the document's own answers. No conditions. -/
import Derived.Test.YtfkaghfbngicmaaQx
namespace Go.Proofs.Ytfkaghfbngicmaa
open Go.RowKit Go.Shelf

theorem Try.infL : (Try.prog.info? 22).map (fun i => (i.zero, i.size, i.bytes)) = some (some (.slice none 0 0), 1, 24) := by kernel_rfl
theorem Try.undLL : Try.prog.underlying 40 = some (.slice 22) := by kernel_rfl

/-- A slice of slices of bytes of the call's own. -/
structure LL (w : World) (base : Nat) (s : Value) (L : List (List Nat)) (vs : List Value) : Prop where
  row : w.ownsRow base 22 1 s L.length vs
  len : vs.length = L.length
  each : ∀ (i : Nat) (v : Value) (F : List Nat), vs[i]? = some v → L[i]? = some F → w.ownsRow base 5 1 v F.length (u8s F) ∧ v ≠ .slice none 0 0
theorem LL.below {w w' : World} {base : Nat} {s : Value} {L : List (List Nat)} {vs : List Value} (h : LL w base s L vs) (hb : Below w.heap.size w w') : LL w' base s L vs :=
  ⟨Rest.row (S := fun _ => False) (Rest.below hb) h.row (fun _ _ e => e), h.len, fun i v F hv hF => ⟨Rest.row (S := fun _ => False) (Rest.below hb) (h.each i v F hv hF).1 (fun _ _ e => e), (h.each i v F hv hF).2⟩⟩

theorem own_slice {w : World} {base : Nat} {e : TypeId} {v : Value} {n : Nat} {xs : List Value} (h : w.ownsRow base e 1 v n xs) (hn : 1 ≤ n) : ∃ g c, v = .slice (some ⟨g, 0, none⟩) n c ∧ base ≤ g ∧ n ≤ c ∧ c ≤ 9223372036854775807 ∧ ∃ cur, w.heap[g]? = some (.cells cur e (0, 0)) := by
  rcases h.2 with ⟨_, h0⟩ | ⟨g, cap, cur, rfl, hb, hg, h1, h2, _⟩
  · omega
  · exact ⟨g, cap, rfl, hb, h1, h2, cur, hg⟩

theorem run_append_slice (ty : TypeId) {w : World} {base : Nat} {s : Value} {L : List (List Nat)} {vs : List Value} (h : LL w base s L vs) (hb : base ≤ w.heap.size) (x : Value) (F : List Nat) (hx : w.ownsRow base 5 1 x F.length (u8s F)) (hF : 1 ≤ F.length) (hl : (L.length + 1) * 24 ≤ 140737488355328) :
    ∃ s' w', (Builtin.append_ #[40, 40] ty #[s, .slice (some ⟨w.heap.size, 0, none⟩) 1 1]).run Try.prog (w.alloc (.cells #[x] 22)) = .ok s' w' ∧ LL w' base s' (L ++ [F]) (vs ++ [x]) ∧ Below base w w' := by
  obtain ⟨i, hi, hz, hsz, hby⟩ := info_parts Try.infL
  obtain ⟨gx, cx, rfl, hgx, _, _, curx, hcx⟩ := own_slice hx hF
  have hal := below_new w (.cells #[.slice (some ⟨gx, 0, none⟩) F.length cx] 22)
  have h' := h.below hal
  obtain ⟨s', w', hrun, r1, r2, _⟩ := run_append_own (P := Try.prog) (w.alloc (.cells #[.slice (some ⟨gx, 0, none⟩) F.length cx] 22)) base 40 ty 22 i (.slice none 0 0) 1 24 Try.undLL hi hz hsz hby rfl (by decide) s L.length vs h'.row ⟨w.heap.size, 0, none⟩ 1 1 [.slice (some ⟨gx, 0, none⟩) F.length cx] rfl (fun j u hu => by
    have hj := (List.getElem?_eq_some_iff.1 hu).1
    simp at hj
    subst hj
    simp at hu
    subst hu
    simp [Addr.add]) (by intro u hu; simp at hu; subst hu; rfl) (by unfold maxLen; omega) hl (Nat.le_trans hb hal.size)
  have hbw : Below base w w' := (hal.mono hb).trans ⟨r2.os, r2.tape, r2.output, r2.size, fun k hk => r2.block k (by have := hal.size; omega) (fun e => by have := (h.row.lt k e.symm).1; omega)⟩
  -- rows of bytes are not the row of slices
  have keep : ∀ (v : Value) (n : Nat) (xs : List Value), (w.alloc (.cells #[.slice (some ⟨gx, 0, none⟩) F.length cx] 22)).ownsRow base 5 1 v n xs → w'.ownsRow base 5 1 v n xs := fun v n xs hv => by
    have hr : Rest (fun k => some k = s.ownBlock) (w.alloc (.cells #[.slice (some ⟨gx, 0, none⟩) F.length cx] 22)) w' := ⟨r2.os, r2.tape, r2.output, r2.size, fun k hk hs => r2.block k hk hs⟩
    refine hr.row hv (fun k hk e => ?_)
    rcases h'.row.2 with ⟨rfl, _⟩ | ⟨g, cap, cur, rfl, _, hg, _⟩
    · simp [Value.ownBlock] at e
    · simp [Value.ownBlock] at e
      subst e
      rcases hv.2 with ⟨rfl, _⟩ | ⟨g2, cap2, cur2, rfl, _, hg2, _⟩
      · simp [Value.ownBlock] at hk
      · simp [Value.ownBlock] at hk
        subst hk
        rw [hg] at hg2
        simp at hg2
  refine ⟨s', w', hrun, ⟨by rw [List.length_append]; exact r1, by simp [h.len], fun j v G hv hG => ?_⟩, hbw⟩
  by_cases hj : j < L.length
  · rw [List.getElem?_append_left (by rw [h.len]; exact hj)] at hv
    rw [List.getElem?_append_left hj] at hG
    obtain ⟨e1, e2⟩ := h'.each j v G hv hG
    exact ⟨keep _ _ _ e1, e2⟩
  · have hj2 : j = L.length := by
      have := (List.getElem?_eq_some_iff.1 hG).1
      simp at this
      omega
    subst hj2
    rw [List.getElem?_append_right (by rw [h.len]; omega)] at hv
    rw [List.getElem?_append_right (by omega)] at hG
    simp [h.len] at hv hG
    subst hv hG
    exact ⟨keep _ _ _ (Rest.row (S := fun _ => False) (Rest.below hal) hx (fun _ _ e => e)), by simp⟩

theorem formsN_len (v n : Nat) : (formsN v n).length ≤ n := by
  unfold formsN
  rw [List.length_map]
  exact Nat.le_trans (List.length_filter_le _ _) (by simp)

/-- What Forms of the document hands back. -/
def FormsOf (L : List (List Nat)) (w : World) (e : Ending) (w' : World) : Prop := ∃ s vs, e = .returned s ∧ LL w' w.heap.size s L vs ∧ Below w.heap.size w w'

set_option maxRecDepth 100000 in
set_option maxHeartbeats 3200000 in
theorem rforms_ok (v : Nat) (hv : v < 34359738368) (w : World) : Calls Try.prog 17 #[.int .i64 v] w (FormsOf (formsN v 5) w) := by
  have HA := fun w => Lib.hid (allowed_any ((v : Nat) : Int) w)
  rw [(okV_iff _).2 (by omega)] at HA
  have H0 : Hid (LL w w.heap.size (.slice none 0 0) [] []) := Lib.hid ⟨World.ownsRow_nil w w.heap.size 22 1, rfl, fun i v F hv hF => by simp at hv⟩
  go_enter Try.func17, Try.ntmps17
  go_wp2
  go_loopw [3, 4] (fun x3 x4 wr => ∃ k vs, k ≤ 5 ∧ x4 = .int .i64 (((k : Nat) : Int) + 1) ∧ LL wr w.heap.size x3 (formsN v k) vs ∧ Below w.heap.size w wr) (fun _ x4 _ => 6 - (intOf x4).toNat)
  case atStart => exact ⟨0, [], by omega, by simp, by simpa [formsN] using H0.out, Below.refl _ _⟩
  case round =>
    obtain ⟨k, vs, hk, rfl, hll, hbel⟩ := hrel
    by_cases hlt : k < 5
    · have HF := fun w => Lib.hid (rform_any v (k + 1) hv (by omega) w)
      have hki : ((k : Nat) : Int) + 1 ≤ 5 := by omega
      have hsc := formsN_succ v k
      have HL := Lib.hid hll
      have HB := Lib.hid hbel
      clear hll hbel
      by_cases hfit : v < 128 ^ (k + 1)
      · rw [if_pos hfit] at hsc
        simp only [decide_eq_true hfit] at HF
        have HSC := Lib.hid hsc
        clear hfit hsc
        go_wp2_with (first | (go_at_call 27; refine (HA _).out.mono ?_; rintro e w' ⟨rfl, rfl⟩) | (go_at_call 35; fail))
        refine (HF _).out.mono ?_
        rintro e w2 ⟨x, rfl, hx, hb2⟩
        obtain ⟨gx, cx, rfl, _⟩ := own_slice hx (by omega)
        have hbase : w.heap.size ≤ wr.heap.size := HB.out.size
        obtain ⟨s', w', hrun, hll', hb'⟩ := run_append_slice 40 (HL.out.below hb2) (Nat.le_trans hbase hb2.size) (.slice (some ⟨gx, 0, none⟩) (k + 1) cx) (formV v (k + 1)) (by rw [formV_len]; exact own_mono hx hbase) (by rw [formV_len]; omega) (by have := formsN_len v k; omega)
        rw [← HSC.out] at hll'
        have HRUN := Lib.hid hrun
        have HLL := Lib.hid hll'
        have HB2 := Lib.hid ((HB.out.trans (hb2.mono hbase)).trans hb')
        clear hrun hll' hb' hx hb2 hbase
        go_wp2_with (at_builtin; refine wpList_append_eq rfl _ _ 40 rfl rfl rfl HRUN.out ?_)
        go_roundw
        case rel => exact ⟨k + 1, _, by omega, by go_num, HLL.out, HB2.out⟩
        case measure => simp [intOf]; omega
      · rw [if_neg hfit, List.append_nil] at hsc
        simp only [decide_eq_false hfit] at HF
        have HSC := Lib.hid hsc
        clear hfit hsc
        go_wp2_with (first | (go_at_call 27; refine (HA _).out.mono ?_; rintro e w' ⟨rfl, rfl⟩) | (go_at_call 35; fail))
        refine (HF _).out.mono ?_
        rintro e w2 ⟨x, rfl, hx, hb2⟩
        have HL2 := Lib.hid (HL.out.below hb2)
        have HB2 := Lib.hid (HB.out.trans (hb2.mono HB.out.size))
        clear hx hb2
        go_wp2
        go_roundw
        case rel => exact ⟨k + 1, _, by omega, by go_num, by rw [HSC.out]; exact HL2.out, HB2.out⟩
        case measure => simp [intOf]; omega
    · obtain rfl : k = 5 := by omega
      have HL := Lib.hid hll
      have HB := Lib.hid hbel
      clear hll hbel
      go_wp2
      go_ret
      exact ⟨_, _, rfl, HL.out, HB.out⟩

set_option maxRecDepth 100000 in
set_option maxHeartbeats 1600000 in
theorem rforms_bad (v : Int) (hv : okV v = false) (w : World) : Calls Try.prog 17 #[.int .i64 v] w (FormsOf [] w) := by
  have HA := fun w => Lib.hid (allowed_any v w)
  rw [hv] at HA
  clear hv
  go_enter Try.func17, Try.ntmps17
  go_wp2
  refine wp_loop_rounds 1 ?_
  rw [rounds_succ]
  go_wp2_with (go_at_call 27; refine (HA _).out.mono ?_; rintro e w' ⟨rfl, rfl⟩)
  go_ret
  exact ⟨_, [], rfl, ⟨World.ownsRow_nil w w.heap.size 22 1, rfl, fun i v F hv hF => by simp at hv⟩, Below.refl _ _⟩

theorem rforms_any (v : Int) (w : World) : Calls Try.prog 17 #[.int .i64 v] w (FormsOf (formsV v) w) := by
  unfold formsV
  cases h : okV v with
  | false => exact rforms_bad v h w
  | true =>
    have h1 := (okV_iff v).1 h
    have := rforms_ok v.toNat (by omega) w
    rw [Int.toNat_of_nonneg h1.1] at this
    exact this
end Go.Proofs.Ytfkaghfbngicmaa
