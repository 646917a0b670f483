/- The iterator of Chunks: it hands out the pieces of a copy of the buffer, one behind the other. Conditions: the body of the loop leaves the iterator's own variable and the rest behind the piece as they are. -/
import Derived.Test.YtociidinfdbaeaaRg
import Derived.Sort.QuietIn
import Derived.Sort.CutIn
namespace Go.Proofs.Ytociidinfdbaeaa
open Go.RowKit Go.Shelf

/-- The bytes from t on, in a row of which what stands ahead is anyone's. -/
def Tail (W : World) (g cap t : Nat) (B : List Nat) : Prop :=
  ∃ cur : Array Value, W.heap[g]? = some (.cells cur 5 (0, 0)) ∧ cur.size = cap ∧ B.length ≤ cap ∧ cap ≤ maxLen ∧ ∀ j y, t ≤ j → B[j]? = some y → cur[j]? = some (.int .u8 (y : Nat))

theorem Tail.of_row {w : World} {base g cap : Nat} {B : List Nat} (h : w.ownsRow base 5 1 (.slice (some ⟨g, 0, none⟩) B.length cap) B.length (u8s B)) : Tail w g cap 0 B ∧ base ≤ g := by
  rcases h.2 with ⟨e, _⟩ | ⟨g', cap', cur, e, hb, hg, h1, h2, h3, h4⟩
  · cases e
  · simp only [Value.slice.injEq, Option.some.injEq, Addr.mk.injEq, true_and, and_true] at e
    obtain ⟨rfl, rfl⟩ := e
    refine ⟨⟨cur, hg, by simpa using h3, h1, h2, fun j y _ hy => ?_⟩, hb⟩
    have hj := (List.getElem?_eq_some_iff.1 hy).1
    have : (u8s B)[j]? = some (.int .u8 (y : Nat)) := by simp [u8s, hy]
    rw [← h4, List.getElem?_take, if_pos (by omega)] at this
    simpa using this
theorem Tail.cell {W : World} {g cap t : Nat} {B : List Nat} (h : Tail W g cap t B) {j y : Nat} (hj : t ≤ j) (hy : B[j]? = some y) : W.cell? ⟨g, j, none⟩ = some (.int .u8 (y : Nat)) ∧ W.frozen? ⟨g, j, none⟩ = false := by
  obtain ⟨cur, hg, _, _, _, hc⟩ := h
  have := hc j y hj hy
  constructor
  · simp [World.cell?, hg, this]
  · simp [World.frozen?, hg]
theorem Tail.lt {W : World} {g cap t : Nat} {B : List Nat} (h : Tail W g cap t B) : g < W.heap.size := by
  obtain ⟨cur, hg, _⟩ := h
  exact (Array.getElem?_eq_some_iff.1 hg).1
theorem Tail.later {W : World} {g cap t t' : Nat} {B : List Nat} (h : Tail W g cap t B) (ht : t ≤ t') : Tail W g cap t' B := by
  obtain ⟨cur, hg, h1, h2, h3, h4⟩ := h
  exact ⟨cur, hg, h1, h2, h3, fun j y hj hy => h4 j y (by omega) hy⟩
theorem Tail.rest {W W' : World} {S : Nat → Prop} {g cap t : Nat} {B : List Nat} (h : Tail W g cap t B) (hr : Rest S W W') (hg : ¬ S g) : Tail W' g cap t B := by
  obtain ⟨cur, h0, h1⟩ := h
  exact ⟨cur, (hr.block g (Array.getElem?_eq_some_iff.1 h0).1 hg).trans h0, h1⟩
theorem Tail.write {W : World} {g cap t k : Nat} {B : List Nat} (h : Tail W g cap t B) (hk : k < t) (u : Value) : Tail (W.setCell ⟨g, k, none⟩ u) g cap t B := by
  obtain ⟨cur, h0, h1, h2, h3, h4⟩ := h
  refine ⟨cur.setIfInBounds k u, heap_setCell_same W g k cur 5 u h0, by simpa using h1, h2, h3, fun j y hj hy => ?_⟩
  rw [Array.getElem?_setIfInBounds_ne (by omega)]
  exact h4 j y hj hy

set_option maxHeartbeats 400000 in
theorem size_lit (p len cap : Nat) (ao : Option Addr) (w : World) (hc : w.cell? ⟨p, 0, none⟩ = some (.slice ao len cap)) :
    Calls Try.prog 34 #[.pointer (some ⟨p, 0, none⟩)] w fun e w' => e = .returned (.int .i64 len) ∧ w = w' := by
  go_enter Try.func34, Try.ntmps34
  go_wp2
  go_ret
  exact ⟨rfl, rfl⟩

set_option maxRecDepth 100000 in
set_option maxHeartbeats 800000 in
theorem first_lit (p len cap n : Nat) (a : Addr) (w : World) (hc : w.cell? ⟨p, 0, none⟩ = some (.slice (some a) len cap)) (hn : n ≤ len) (hl : len ≤ cap) (hm : cap ≤ 9223372036854775807) :
    Calls Try.prog 35 #[.pointer (some ⟨p, 0, none⟩), .int .i64 n] w fun e w' => e = .returned (.slice (some a) n n) ∧ w = w' := by
  go_enter Try.func35, Try.ntmps35
  go_wp2
  go_ret
  exact ⟨rfl, rfl⟩

set_option maxRecDepth 100000 in
set_option maxHeartbeats 800000 in
theorem drop_lit (p g t len cap n : Nat) (w : World) (hc : w.cell? ⟨p, 0, none⟩ = some (.slice (some ⟨g, t, none⟩) len cap)) (hf : w.frozen? ⟨p, 0, none⟩ = false) (hn : n ≤ len) (hl : len ≤ cap) (hm : cap ≤ 9223372036854775807) :
    Calls Try.prog 36 #[.pointer (some ⟨p, 0, none⟩), .int .i64 n] w fun e w' => e = .returned (.tuple #[]) ∧ ∃ v', w' = w.setCell ⟨p, 0, none⟩ v' ∧ (n < len → v' = .slice (some ⟨g, t + n, none⟩) (len - n) (cap - n)) ∧ ∃ ao c, v' = .slice ao (len - n) c := by
  by_cases h0 : n = cap
  · obtain rfl : len = n := by omega
    subst h0
    go_enter Try.func36, Try.ntmps36
    go_wp2
    go_end0
    exact ⟨rfl, _, rfl, fun h => by omega, some ⟨g, t, none⟩, 0, by simp⟩
  · go_enter Try.func36, Try.ntmps36
    go_wp2
    go_end0
    exact ⟨rfl, _, rfl, fun _ => rfl, _, _, rfl⟩

/-- The iterator's own variable at place t. -/
structure Rst (W : World) (base b : Nat) (B : List Nat) (t : Nat) (v : Value) : Prop where
  box : W.heap[b]? = some (.cells #[v] 55 (0, 0))
  form : ∃ ao cap, v = .slice ao (B.length - t) cap
  tail : t < B.length → ∃ g cap, v = .slice (some ⟨g, t, none⟩) (B.length - t) (cap - t) ∧ Tail W g cap t B ∧ base ≤ g ∧ g ≠ b
  bb : base ≤ b

theorem Rst.cell {W : World} {base b : Nat} {B : List Nat} {t : Nat} {v : Value} (h : Rst W base b B t v) : W.cell? ⟨b, 0, none⟩ = some v := by simp [World.cell?, h.box]
theorem Rst.fr {W : World} {base b : Nat} {B : List Nat} {t : Nat} {v : Value} (h : Rst W base b B t v) : W.frozen? ⟨b, 0, none⟩ = false := by simp [World.frozen?, h.box]
theorem Rst.lt {W : World} {base b : Nat} {B : List Nat} {t : Nat} {v : Value} (h : Rst W base b B t v) : b < W.heap.size := (Array.getElem?_eq_some_iff.1 h.box).1

/-- How many bytes a slice in a cell has. -/
def boxLen (b : Nat) (w : World) : Nat := match w.cell? ⟨b, 0, none⟩ with | some (.slice _ n _) => n | _ => 0
theorem Rst.len {W : World} {base b : Nat} {B : List Nat} {t : Nat} {v : Value} (h : Rst W base b B t v) : boxLen b W = B.length - t := by
  obtain ⟨ao, cap, rfl⟩ := h.form
  unfold boxLen
  rw [h.cell]

set_option maxRecDepth 100000 in
set_option maxHeartbeats 3200000 in
theorem chunks2_in (n : Nat) (hn : 1 ≤ n) (l tb sb m : Nat) (B : List Nat) (tv : Value) (J : Nat → World → Prop) (Jx : World → Prop) (hm : 1 ≤ m) (hm2 : m ≤ 9223372036854775807) (hBl : B.length ≤ 1048576) (W : World)
    (hJ : ∀ t W1 W2, J t W1 → Below W.heap.size W1 W2 → J t W2)
    (hJs : ∀ t W1, J t W1 → W1.cell? ⟨sb, 0, none⟩ = some (.int .i64 m))
    (hY : ∀ (t k b g cap : Nat) (v : Value) (W1 : World), J t W1 → t + k ≤ B.length → k = min m (B.length - t) → 1 ≤ k → W.heap.size ≤ b → W.heap.size ≤ g → g ≠ b → W1.heap[b]? = some (.cells #[v] 55 (0, 0)) → Tail W1 g cap t B →
      YieldAt Fence.wide (n - 1) Try.prog l #[.slice (some ⟨g, t, none⟩) k k] W1 fun e W' =>
        (e = .returned (.bool true) ∧ J (t + k) W' ∧ W'.heap[b]? = some (.cells #[v] 55 (0, 0)) ∧ Tail W' g cap (t + k) B) ∨ (e = .returned (.bool false) ∧ Jx W'))
    (htb : W.cell? ⟨tb, 0, none⟩ = some tv) (hbuf : Buf W tv B) (h0 : J 0 W) :
    CallsIn Fence.wide n Try.prog 33 #[.func (.yield l) #[] #[], .pointer (some ⟨tb, 0, none⟩), .pointer (some ⟨sb, 0, none⟩)] W fun e W' => (∃ v, e = .returned v) ∧ (J B.length W' ∨ Jx W') := by
  have HJ := Lib.hid hJ
  have HJS := Lib.hid hJs
  have HY := Lib.hid hY
  have H0 := Lib.hid h0
  have HCP := Lib.hid (copied_any tb tv B W htb hbuf hBl)
  clear hJ hJs hY h0 htb hbuf
  refine callsIn_of_wp Try.func33 rfl trivial ?_ rfl
  simp only [Try.ntmps33, List.size_toArray, List.length_cons, List.length_nil, Nat.reduceAdd, Nat.reduceSub, Array.replicate_succ, Array.replicate_zero, List.push_toArray, List.append_toArray, List.nil_append, List.cons_append]
  gi_wp2_with fail
  refine ⟨trivial, ?_⟩
  refine (callsIn_wide.2 HCP.out).mono ?_
  rintro e w1 ⟨v2, rfl, hrow, hb1⟩
  obtain ⟨A2, c2, rfl⟩ := row_shape hrow
  have HROW := Lib.hid hrow
  have HB1 := Lib.hid hb1
  clear hrow hb1 HCP
  gi_wp2_with fail
  have hbox : (w1.alloc (.cells #[.slice A2 B.length c2] 55)).heap[w1.heap.size]? = some (.cells #[.slice A2 B.length c2] 55 (0, 0)) := heap_alloc_new w1 _
  have hba : Below w1.heap.size w1 (w1.alloc (.cells #[.slice A2 B.length c2] 55)) := (Below.refl _ _).alloc (Nat.le_refl _) _
  obtain ⟨wa, hwa⟩ : ∃ wa, w1.alloc (.cells #[.slice A2 B.length c2] 55) = wa := ⟨_, rfl⟩
  obtain ⟨b, eb⟩ : ∃ b, w1.heap.size = b := ⟨_, rfl⟩
  rw [hwa] at hbox hba ⊢
  rw [eb] at hbox hba ⊢
  have hrow2 : wa.ownsRow W.heap.size 5 1 (.slice A2 B.length c2) B.length (u8s B) := Rest.row (S := fun _ => False) (Rest.below (by rw [eb]; exact hba)) HROW.out (fun _ _ e => e)
  have hb1b := HB1.out.size
  have hR0 : Rst wa W.heap.size b B 0 (.slice A2 B.length c2) := ⟨hbox, ⟨A2, c2, rfl⟩, fun hlt => by
    rcases Joins.ownsRow_forms hrow2 with ⟨e, h0⟩ | ⟨g, cap, e⟩
    · omega
    · simp only [Value.slice.injEq, true_and] at e
      obtain ⟨rfl, rfl⟩ := e
      have hT := Tail.of_row hrow2
      exact ⟨g, c2, rfl, hT.1, hT.2, fun e => by have := (HROW.out.lt g rfl).2; omega⟩, by omega⟩
  have R0 := Lib.hid hR0
  have J0 := Lib.hid (HJ.out 0 _ _ H0.out (HB1.out.trans (hba.mono (by omega))))
  have EB := Lib.hid (show W.heap.size ≤ b by omega)
  clear hbox hba hwa eb hrow2 hb1b hR0 HROW HB1 H0
  gi_loopw [5] (fun _ wr => ∃ (t : Nat) (v : Value), t ≤ B.length ∧ Rst wr W.heap.size b B t v ∧ J t wr) (fun _ wr => boxLen b wr)
  case atStart => exact ⟨0, _, Nat.zero_le _, R0.out, J0.out⟩
  case round =>
    obtain ⟨t, v, ht, hR, hJ⟩ := hrel
    obtain ⟨ao, cp, rfl⟩ := hR.form
    have c4 := hR.cell
    have HSZ := Lib.hid (size_lit _ _ _ _ _ c4)
    have cs := HJS.out t wr hJ
    have R := Lib.hid hR
    have HJ2 := Lib.hid hJ
    clear hR hJ
    gi_wp2_with fail
    refine ⟨trivial, ?_⟩
    refine (callsIn_wide.2 HSZ.out).mono ?_
    rintro e w' ⟨rfl, rfl⟩
    by_cases htl : t < B.length
    · obtain ⟨g, cap, e, hT, hg, hgb⟩ := R.out.tail htl
      simp only [Value.slice.injEq, true_and] at e
      obtain ⟨rfl, rfl⟩ := e
      have hcap : B.length ≤ cap ∧ cap ≤ maxLen := by obtain ⟨_, _, _, h2, h3, _⟩ := hT; exact ⟨h2, h3⟩
      have hmx : maxLen = 9223372036854775807 := rfl
      obtain ⟨k, hk⟩ : ∃ k, min m (B.length - t) = k := ⟨_, rfl⟩
      have hkk : 1 ≤ k ∧ t + k ≤ B.length := by omega
      obtain ⟨N, hN⟩ : ∃ N, B.length - t = N := ⟨_, rfl⟩
      obtain ⟨C, hC⟩ : ∃ C, cap - t = C := ⟨_, rfl⟩
      have hN1 : t + N ≤ B.length := by omega
      have hN2 : B.length ≤ t + N := by omega
      have hC1 : N ≤ C := by omega
      have hC2 : C ≤ 9223372036854775807 := by omega
      rw [hN, hC] at c4
      rw [hN] at hk ⊢
      have HT := Lib.hid hT
      have HK := Lib.hid hk
      have HN := Lib.hid hN
      have HC := Lib.hid hC
      clear hT hmx hk HSZ hN hC hcap
      gi_upto_region 2 with fail
      gi_cut [5] from 7 (fun p5 wx => p5 = .slice (some ⟨g, t, none⟩) k k ∧ ∃ nn, wx = wr.drewN nn)
      case first =>
        have HQ1 := fun nn : Nat => Lib.hid (size_lit b N C (some ⟨g, t, none⟩) (wr.drewN nn) c4)
        have HQ2 := fun nn : Nat => Lib.hid (first_lit b N C k ⟨g, t, none⟩ (wr.drewN nn) c4 (by omega) (by omega) (by omega))
        by_cases hle : m ≤ N
        · obtain rfl : k = m := by rw [← HK.out]; exact Nat.min_eq_left hle
          clear HK
          refine wpIn_wide.2 ?_
          go_quiet (first | (go_at_call 34; exact quiet_same (HQ1 _).out) | (go_at_call 35; exact quiet_same (HQ2 _).out))
          rename_i h1 h0
          refine h0 _ _ (Met.intro (h1 _ _ ?_))
          (repeat apply Exists.intro)
          refine ⟨?rel, rfl⟩
          case rel => exact ⟨rfl, _, rfl⟩
        · obtain rfl : k = N := by rw [← HK.out]; exact Nat.min_eq_right (by omega)
          clear HK
          refine wpIn_wide.2 ?_
          go_quiet (first | (go_at_call 34; exact quiet_same (HQ1 _).out) | (go_at_call 35; exact quiet_same (HQ2 _).out))
          rename_i h1 h0 _
          refine h0 _ _ (Met.intro (h1 _ _ ?_))
          (repeat apply Exists.intro)
          refine ⟨?rel, rfl⟩
          case rel => exact ⟨rfl, _, rfl⟩
      case rest =>
        obtain ⟨rfl, nn, hwc⟩ := hcut
        have hbq : Below wr.heap.size wr wc := by rw [hwc]; exact below_drewN _ _
        clear hwc
        have cq : wc.cell? ⟨b, 0, none⟩ = some (.slice (some ⟨g, t, none⟩) N C) := (hbq.cell (p := ⟨b, 0, none⟩) R.out.lt).trans c4
        have fq : wc.frozen? ⟨b, 0, none⟩ = false := (hbq.frozen (p := ⟨b, 0, none⟩) R.out.lt).trans R.out.fr
        have hkN : k ≤ N := by rw [← HK.out]; exact Nat.min_le_right _ _
        have HDR := Lib.hid (drop_lit b g t N C k wc cq fq hkN hC1 hC2)
        have HBQ := Lib.hid hbq
        clear hbq cq fq c4 cs
        gi_wp2_with fail
        refine ⟨trivial, ?_⟩
        refine (callsIn_wide.2 HDR.out).mono ?_
        rintro e w5 ⟨rfl, v', hw5, hv1, hv2⟩
        have hrs : Rest (fun i => i = b) wr w5 := by
          rw [hw5]; exact (Rest.below (S := fun i => i = b) HBQ.out).setCell (S := fun i => i = b) (p := ⟨b, 0, none⟩) (fun _ => rfl) v'
        have hb5 : Below W.heap.size wr w5 := hrs.toBelow W.heap.size (by have := R.out.lt; have := EB.out; omega) (fun i hi e => by have := EB.out; omega)
        have hbx5 : w5.heap[b]? = some (.cells #[v'] 55 (0, 0)) := by
          rw [hw5]
          exact heap_setCell_same wc b 0 #[.slice (some ⟨g, t, none⟩) (B.length - t) (cap - t)] 55 v' ((HBQ.out.block b R.out.lt).trans R.out.box)
        obtain ⟨fn, tmps, assign, body, hy, hRd⟩ := HY.out t k b g cap v' w5 (HJ.out t wr w5 HJ2.out hb5) hkk.2 (by rw [HN.out]; exact HK.out.symm) hkk.1 EB.out hg hgb hbx5 (HT.out.rest hrs hgb)
        have HRD := Lib.hid hRd
        have HV1 := Lib.hid hv1
        have HV2 := Lib.hid hv2
        clear hw5 hrs hb5 hbx5 hRd hv1 hv2 HDR
        gi_wp2
        refine HRD.out.mono ?_
        rintro e W3 (⟨rfl, hJ3, hbx3, hT3⟩ | ⟨rfl, hJx3⟩)
        · have hR3 : Rst W3 W.heap.size b B (t + k) v' := ⟨hbx3, by
              obtain ⟨ao, c, e⟩ := HV2.out
              exact ⟨ao, c, by rw [e, show N - k = B.length - (t + k) by omega]⟩, fun hlt => ⟨g, cap, by
              rw [HV1.out (by omega), show N - k = B.length - (t + k) by omega, show C - k = cap - (t + k) by have := HC.out; omega], hT3, hg, hgb⟩, EB.out⟩
          have R3 := Lib.hid hR3
          have J3 := Lib.hid hJ3
          clear hR3 hJ3 hbx3 hT3
          gi_wp2
          go_roundw
          case rel => exact ⟨t + k, v', hkk.2, R3.out, J3.out⟩
          case measure => rw [R3.out.len, R.out.len]; omega
        · have J3 := Lib.hid hJx3
          clear hJx3
          gi_wp2
          refine bodyPost_ret (results_none rfl _ _ _) rfl ?_
          exact ⟨⟨_, rfl⟩, .inr J3.out⟩
    · have hN0 : B.length - t = 0 := by omega
      obtain rfl : t = B.length := by omega
      rw [hN0]
      clear hN0 R c4 HSZ cs
      gi_wp2
      go_end0
      exact ⟨⟨_, rfl⟩, .inl HJ2.out⟩
end Go.Proofs.Ytociidinfdbaeaa
