/- The walk of VarintGoes. Conditions: the bytes lie in memory. -/
import Derived.Test.YtfkaghfbngicmaaQ3
import Derived.Test.YtfkaghfbngicmaaQo
import Derived.Test.YtfkaghfbngicmaaQx
import Derived.Test.YtfkaghfbngicmaaRs
import Derived.Test.YtfkaghfbngicmaaRa
namespace Go.Proofs.Ytfkaghfbngicmaa
open Go.RowKit Go.Shelf

/-- Whether a byte below n goes on. -/
def goesN (B : List Nat) (loose : Bool) (lo hi : Int) (n : Nat) : Bool := (List.range n).any fun y => beginsB (B ++ [y]) loose lo hi
theorem goesN_succ (B : List Nat) (loose : Bool) (lo hi : Int) (n : Nat) : goesN B loose lo hi (n + 1) = (goesN B loose lo hi n || beginsB (B ++ [n]) loose lo hi) := by
  unfold goesN; rw [List.range_succ, List.any_append]; simp
theorem goesN_iff (B : List Nat) (loose : Bool) (lo hi : Int) (n : Nat) : goesN B loose lo hi n = true ↔ ∃ x, x < n ∧ beginsB (B ++ [x]) loose lo hi = true := by
  unfold goesN; simp [List.any_eq_true]

theorem goes_bools {B : List Nat} {loose : Bool} {lo hi : Int} (hr : rangeV lo hi = true) :
    beginsB B loose lo hi = (wholeB B loose lo hi || goesN B loose lo hi 256) ∧ (wholeB B loose lo hi && goesN B loose lo hi 256) = false := by
  obtain ⟨h1, h2⟩ := goes_iff (B := B) (loose := loose) hr
  rw [← goesN_iff] at h1 h2
  constructor
  · rw [Bool.eq_iff_iff, h1]; simp
  · rw [Bool.eq_false_iff]
    intro h
    rw [Bool.and_eq_true] at h
    exact h2 h

/-- What is said of the values of the region that tries a further byte. -/
def GR (b N C : Nat) (A : Option Addr) (B : List Nat) (x : Nat) (loose : Bool) (lo hi : Int) (on : Bool) (i : Nat) (v : Value) (w : World) : Prop :=
  match i with
  | 0 => ∃ g, v = .slice (some ⟨g, 0, none⟩) 0 0 ∧ w.heap[g]? = some (.cells #[] 5 (0, 0)) ∧ b ≤ g
  | 1 => v = .slice A N C
  | 2 => ∃ A' c, v = .slice A' N c ∧ w.ownsRow b 5 1 (.slice A' N c) N (u8s B)
  | 3 => v = .int .i64 x
  | 4 => v = .int .u8 x
  | 5 => ∃ g, v = .slice (some ⟨g, 0, none⟩) 1 1 ∧ g < w.heap.size ∧ w.cell? ⟨g, 0, none⟩ = some (.int .u8 x)
  | 6 => ∃ A' c, v = .slice A' (N + 1) c ∧ SrcAt w (.slice A' (N + 1) c) (B ++ [x]) ∧ N + 1 ≤ c ∧ c ≤ 9223372036854775807
  | 7 => v = .bool loose
  | 8 => v = .agg #[.int .i64 lo, .int .i64 hi]
  | 9 => v = .tuple #[.bool on, .int .i64 0]
  | 10 => v = .tuple #[.bool on, .int .i64 0]
  | 11 => v = .bool on
  | 12 => v = .int .i64 0
  | 13 => v = .bool on
  | _ => v = .int .i64 0
/-- When what is said ceases. -/
def GK (i : Nat) : Nat := match i with | 0 => 2 | 2 => 6 | 5 => 6 | _ => 15

/-- What need not be kept. -/
def GL (i j : Nat) : Bool := !(i == 6 && j == 0)
theorem GR.below {b N C : Nat} {A : Option Addr} {B : List Nat} {x : Nat} {loose : Bool} {lo hi : Int} {on : Bool} {w w' : World} (hb : Below w.heap.size w w') (j : Nat) (u : Value) (h : GR b N C A B x loose lo hi on j u w) : GR b N C A B x loose lo hi on j u w' := by
  unfold GR at h ⊢
  match j, h with
  | 0, ⟨g, e, hg, hbg⟩ => exact ⟨g, e, (hb.block g (Array.getElem?_eq_some_iff.1 hg).1).trans hg, hbg⟩
  | 1, h => exact h
  | 2, ⟨A', c, e, hr⟩ => exact ⟨A', c, e, Rest.row (S := fun _ => False) (Rest.below hb) hr (fun _ _ e => e)⟩
  | 3, h => exact h
  | 4, h => exact h
  | 5, ⟨g, e, hl, hc⟩ => exact ⟨g, e, Nat.lt_of_lt_of_le hl hb.size, (hb.cell (p := ⟨g, 0, none⟩) hl).trans hc⟩
  | 6, ⟨A', c, e, hs, h1, h2⟩ => exact ⟨A', c, e, hs.below hb hs.lt, h1, h2⟩
  | 7, h => exact h
  | 8, h => exact h
  | 9, h => exact h
  | 10, h => exact h
  | 11, h => exact h
  | 12, h => exact h
  | 13, h => exact h
  | j + 14, h => exact h

theorem GR.pure {b N C : Nat} {A : Option Addr} {B : List Nat} {x : Nat} {loose : Bool} {lo hi : Int} {on : Bool} {w w' : World} {j : Nat} {u : Value} (h1 : j ≠ 6) (h2 : GK j ≠ 6) (h3 : GL 6 j = true) (h : GR b N C A B x loose lo hi on j u w) : GR b N C A B x loose lo hi on j u w' := by
  unfold GR at h ⊢
  match j, h with
  | 0, _ => simp [GL] at h3
  | 1, h => exact h
  | 2, _ => simp [GK] at h2
  | 3, h => exact h
  | 4, h => exact h
  | 5, _ => simp [GK] at h2
  | 6, _ => exact absurd rfl h1
  | 7, h => exact h
  | 8, h => exact h
  | 9, h => exact h
  | 10, h => exact h
  | 11, h => exact h
  | 12, h => exact h
  | 13, h => exact h
  | j + 14, h => exact h

set_option maxRecDepth 100000 in
set_option maxHeartbeats 12800000 in
theorem goes_ok (A : Option Addr) (N C : Nat) (loose : Bool) (B : List Nat) (lo hi : Int) (w : World) (hs : SrcAt w (.slice A N C) B) (hN : N = B.length) (hl : N ≤ 6) (hC : N ≤ C) (hC2 : C ≤ 9223372036854775807) (h256 : ∀ x ∈ B, x < 256) (hr : rangeV lo hi = true) :
    Calls Try.prog 9 #[.slice A N C, .bool loose, .agg #[.int .i64 lo, .int .i64 hi]] w fun e w' => e = .returned (.bool true) ∧ Below w.heap.size w w' := by
  have KN := fun w => Lib.hid (known9_any w)
  obtain ⟨hr1, hr2, hr3⟩ := range_cells w lo hi
  have HS := Lib.hid (hs.below hr1 hs.lt)
  have hB := fun w hs => begins_any A N C loose B lo hi w hs hN hC hC2 h256
  have hX := fun A' c (x : Nat) (hx : x < 256) w hs hc hc2 => begins_any A' (N + 1) c loose (B ++ [x]) lo hi w hs (by rw [List.length_append, hN]; rfl) hc hc2 (fun y hy => by
    rcases List.mem_append.1 hy with h | h
    · exact h256 y h
    · simp at h; omega)
  have HRD := fun w hs => Lib.hid (read_any A N C loose B w hs hN hC hC2 h256)
  unfold BeginsOf beginsC at hB hX
  simp only [hr, if_true] at hB hX
  have HB := fun w hs => Lib.hid (hB w hs)
  have HX := Lib.hid hX
  unfold ReadOf at HRD
  obtain ⟨hbool1, hbool2⟩ := goes_bools (B := B) (loose := loose) hr
  have hWd : wholeB B loose lo hi = (decide ((readC B loose).2.2 = 0) && decide ((readC B loose).2.1 = N) && decide (lo ≤ ((readC B loose).1 : Nat)) && decide ((((readC B loose).1 : Nat) : Int) ≤ hi)) := by rw [hN]; rfl
  obtain ⟨⟨r1, r2, r3⟩, hrd⟩ : ∃ r, readC B loose = r := ⟨_, rfl⟩
  simp only [hrd] at HRD
  rw [hrd] at hWd
  dsimp only at HRD hWd
  obtain ⟨isB, hisB⟩ : ∃ q, beginsB B loose lo hi = q := ⟨_, rfl⟩
  obtain ⟨W, hW⟩ : ∃ q, wholeB B loose lo hi = q := ⟨_, rfl⟩
  rw [hisB, hW] at hbool1
  simp only [hisB] at HB
  rw [hW] at hbool2 hWd
  obtain ⟨w0, hw0⟩ : ∃ w0, w.alloc (.cells #[.int .i64 lo, .int .i64 hi] 44) = w0 := ⟨_, rfl⟩
  rw [hw0] at hr1 hr2 hr3 HS
  have HW0 := Lib.hid hw0
  have HR1 := Lib.hid hr1
  have C0 := Lib.hid hr2
  have C1 := Lib.hid hr3
  have HB1 := Lib.hid hbool1
  have HB2 := Lib.hid hbool2
  have HWD := Lib.hid hWd
  have HN := Lib.hid hN
  have H256 := Lib.hid h256
  clear hs hN h256 hr hr1 hr2 hr3 hw0 hB hX hbool1 hbool2 hWd hrd hisB hW
  go_enter Try.func9, Try.ntmps9
  go_wp2_with fail
  rw [HW0.out]
  refine (HB _ HS.out).out.mono ?_
  rintro e w1 ⟨rfl, hb1⟩
  have HBE1 := Lib.hid (HR1.out.trans (hb1.mono HR1.out.size))
  have HS1 := Lib.hid (HS.out.below hb1 HS.out.lt)
  have C01 := Lib.hid ((hb1.cell (p := ⟨w.heap.size, 0, none⟩) (block_lt_of_cell C0.out)).trans C0.out)
  have C11 := Lib.hid ((hb1.cell (p := ⟨w.heap.size, 1, none⟩) (block_lt_of_cell C1.out)).trans C1.out)
  clear hb1
  go_wp2_with fail
  refine (HRD _ HS1.out).out.mono ?_
  rintro e w2 ⟨rfl, hb2⟩
  have HBE2 := Lib.hid (HBE1.out.trans (hb2.mono HBE1.out.size))
  have HS2 := Lib.hid (HS1.out.below hb2 HS1.out.lt)
  have C02 := Lib.hid ((hb2.cell (p := ⟨w.heap.size, 0, none⟩) (block_lt_of_cell C01.out)).trans C01.out)
  have C12 := Lib.hid ((hb2.cell (p := ⟨w.heap.size, 1, none⟩) (block_lt_of_cell C11.out)).trans C11.out)
  clear hb2
  go_upto_region 7 with fail
  go_cut [9, 10, 11, 12] from 39 (fun x9 x10 x11 x12 wx => x12 = .bool W ∧ wx = w2)
  case first =>
    have c0 := C02.out
    have c1 := C12.out
    have e2 : (((r2 : Nat) : Int) == ((N : Nat) : Int)) = decide (r2 = N) := by rw [Bool.eq_iff_iff]; simp; omega
    have e3 : (((r3 : Nat) : Int) == 0) = decide (r3 = 0) := by rw [Bool.eq_iff_iff]; simp
    go_wp2_with fail
    all_goals
      go_meet
      case rel =>
        refine ⟨?_, rfl⟩
        have h := HWD.out
        rw [h]
        simp [*]
        try omega
  case rest =>
    obtain ⟨rfl, hwc⟩ := hcut
    rw [hwc]
    clear hwc
    go_wp2_with fail
    go_loopw [13, 14] (fun x13 x14 wr => ∃ x : Nat, x ≤ 256 ∧ x14 = .int .i64 ((x : Nat) : Int) ∧ x13 = .bool (goesN B loose lo hi x) ∧ Below w2.heap.size w2 wr) (fun _ x14 _ => 256 - (intOf x14).toNat)
    case atStart => exact ⟨0, by omega, rfl, by simp [goesN], Below.refl _ _⟩
    case round =>
      obtain ⟨x, hx, rfl, rfl, hbel⟩ := hrel
      have HBW := Lib.hid hbel
      clear hbel
      by_cases hlt : x < 256
      · have hxi : ((x : Nat) : Int) < 256 := by omega
        have hgs := goesN_succ B loose lo hi x
        have HXX := fun A' c w hs hc hc2 => Lib.hid (HX.out A' c x hlt w hs hc hc2)
        obtain ⟨on, hon⟩ : ∃ q, beginsB (B ++ [x]) loose lo hi = q := ⟨_, rfl⟩
        simp only [hon] at HXX
        rw [hon] at hgs
        have HGS := Lib.hid hgs
        have HSR := Lib.hid (HS2.out.below HBW.out HS2.out.lt)
        have C0R := Lib.hid ((HBW.out.cell (p := ⟨w.heap.size, 0, none⟩) (block_lt_of_cell C02.out)).trans C02.out)
        have C1R := Lib.hid ((HBW.out.cell (p := ⟨w.heap.size, 1, none⟩) (block_lt_of_cell C12.out)).trans C12.out)
        clear hgs hon
        go_wp2_with fail
        refine (wpIn_wide (n := 6)).1 ?_
        refine rel_region (GR wr.heap.size N C A B x loose lo hi on) GK GL [71, 72, 73, 74, 75, 76, 77, 78, 79, 80, 70, 81, 82, 15, 16] rfl (by decide) (by simp) (by kernel_rfl) (fun _ => trivial) (by decide) (topoB (by kernel_rfl)) (by decide) (by kernel_rfl) ?step ?fin
        case fin =>
          intro V w3 hb3 hV
          have v1 : V 1 = .slice A N C := hV 1 (by decide) (by decide)
          have v3 : V 3 = .int .i64 x := hV 3 (by decide) (by decide)
          have v4 : V 4 = .int .u8 x := hV 4 (by decide) (by decide)
          have v7 : V 7 = .bool loose := hV 7 (by decide) (by decide)
          have v8 : V 8 = .agg #[.int .i64 lo, .int .i64 hi] := hV 8 (by decide) (by decide)
          have v9 : V 9 = .tuple #[.bool on, .int .i64 0] := hV 9 (by decide) (by decide)
          have v10 : V 10 = .tuple #[.bool on, .int .i64 0] := hV 10 (by decide) (by decide)
          have v11 : V 11 = .bool on := hV 11 (by decide) (by decide)
          have v12 : V 12 = .int .i64 0 := hV 12 (by decide) (by decide)
          have v13 : V 13 = .bool on := hV 13 (by decide) (by decide)
          have v14 : V 14 = .int .i64 0 := hV 14 (by decide) (by decide)
          clear hV
          simp only [putFrom, Act.put, List.setIfInBounds_toArray, List.set_cons_zero, List.set_cons_succ, Nat.zero_add, Nat.reduceAdd, v1, v3, v4, v7, v8, v9, v10, v11, v12, v13, v14]
          generalize V 0 = x71
          generalize V 2 = x73
          generalize V 5 = x76
          generalize V 6 = x77
          clear v1 v3 v4 v7 v8 v9 v10 v11 v12 v13 v14 V
          have HB3 := Lib.hid (HBW.out.trans (hb3.mono HBW.out.size))
          clear hb3
          obtain ⟨G, hG⟩ : ∃ q, goesN B loose lo hi x = q := ⟨_, rfl⟩
          rw [hG] at HGS ⊢
          clear hG
          cases G
          all_goals
            go_wp2_with fail
            go_roundw
            case rel => exact ⟨x + 1, by omega, by go_num, by rw [HGS.out]; rfl, HB3.out⟩
            case measure => simp [intOf]; omega
        case step =>
          intro i o d ho hd
          rcases i with _ | _ | _ | _ | _ | _ | _ | _ | _ | _ | _ | _ | _ | _ | _ | i
          · cases ho
            cases hd
            refine ⟨rfl, rfl, (by intro c h; cases h), ?_⟩
            simp only [List.getElem_toArray, List.getElem_cons_zero, List.getElem_cons_succ]
            intro a' w' hf hb ha
            refine .inl ⟨.slice (some ⟨w'.heap.size, 0, none⟩) 0 0, w'.alloc (.cells #[] 5), by simp [execOp, go_sem], ⟨⟨w'.heap.size, rfl, heap_alloc_new _ _, hb.size⟩, hb.alloc hb.size _, fun j u _ _ _ h => GR.below (below_new w' _) j u h⟩⟩
          · cases ho
            cases hd
            refine ⟨rfl, rfl, (by intro c h; cases h), ?_⟩
            simp only [List.getElem_toArray, List.getElem_cons_zero, List.getElem_cons_succ]
            intro a' w' hf hb ha
            have h : a'.eval (.tmp 0) = .slice A N C := (eval_low hf (j := 0) (by decide)).trans rfl
            refine .inl ⟨.slice A N C, w', ?_, RNext.same rfl hb⟩
            unfold execOp
            simp only
            rw [h]
            rfl
          · cases ho
            cases hd
            refine ⟨rfl, rfl, (by intro c h; cases h), ?_⟩
            simp only [List.getElem_toArray, List.getElem_cons_zero, List.getElem_cons_succ]
            intro a' w' hf hb ha
            obtain ⟨v0, hv0, hR0⟩ := ha { on := 0, ground := .data } (by simp) (by decide) 71 rfl
            obtain ⟨v1, hv1, hR1⟩ := ha { on := 1, ground := .data } (by simp) (by decide) 72 rfl
            obtain ⟨g0, rfl, hg0, hbg⟩ := hR0 (.inl rfl)
            have e1 : v1 = .slice A N C := hR1 (.inr (by decide))
            subst e1
            obtain ⟨v', w2', hrun, hrow, hbw⟩ := run_append_zero 22 (base := wr.heap.size) hg0 hbg hb.size (HSR.out.below hb HSR.out.lt) (by have := HN.out; omega)
            have hrow2 := hrow
            rw [← HN.out] at hrow2
            obtain ⟨A', c, rfl, _, _⟩ := own_form hrow2
            refine .inl ⟨_, w2', ?_, ⟨⟨A', c, rfl, hrow2⟩, hb.trans (hbw.mono hb.size), fun j u _ _ _ h => GR.below hbw j u h⟩⟩
            have h0 := eval_got hv0
            have h1 := eval_got hv1
            simp [execOp, resolve, invoke, builtin, h0, h1, hrun, Result.andThen]
          · cases ho
            cases hd
            refine ⟨rfl, rfl, (by intro c h; cases h), ?_⟩
            simp only [List.getElem_toArray, List.getElem_cons_zero, List.getElem_cons_succ]
            intro a' w' hf hb ha
            have h : a'.eval (.tmp 14) = .int .i64 ((x : Nat) : Int) := (eval_low hf (j := 14) (by decide)).trans rfl
            refine .inl ⟨.int .i64 ((x : Nat) : Int), w', ?_, RNext.same rfl hb⟩
            unfold execOp
            simp only
            rw [h]
            rfl
          · cases ho
            cases hd
            refine ⟨rfl, rfl, (by intro c h; cases h), ?_⟩
            simp only [List.getElem_toArray, List.getElem_cons_zero, List.getElem_cons_succ]
            intro a' w' hf hb ha
            obtain ⟨v0, hv0, hR0⟩ := ha { on := 3, ground := .data } (by simp) (by decide) 74 rfl
            have e0 : v0 = .int .i64 ((x : Nat) : Int) := hR0 (.inr (by decide))
            subst e0
            have h0 := eval_got hv0
            refine .inl ⟨.int .u8 ((x : Nat) : Int), w', ?_, RNext.same rfl hb⟩
            have hc8 := conv_u8 x hlt w'
            simp [execOp, h0, hc8, Result.andThen]
          · cases ho
            cases hd
            refine ⟨rfl, rfl, (by intro c h; cases h), ?_⟩
            simp only [List.getElem_toArray, List.getElem_cons_zero, List.getElem_cons_succ]
            intro a' w' hf hb ha
            obtain ⟨v0, hv0, hR0⟩ := ha { on := 4, ground := .data } (by simp) (by decide) 75 rfl
            have e0 : v0 = .int .u8 ((x : Nat) : Int) := hR0 (.inr (by decide))
            subst e0
            have h0 := eval_got hv0
            refine .inl ⟨.slice (some ⟨w'.heap.size, 0, none⟩) 1 1, w'.alloc (.cells #[.int .u8 ((x : Nat) : Int)] 5), by simp [execOp, hv0, go_sem], ⟨⟨w'.heap.size, rfl, by simp, ?_⟩, hb.alloc hb.size _, fun j u _ _ _ h => GR.below (below_new w' _) j u h⟩⟩
            rw [World.cell?_alloc_new]; rfl
          · cases ho
            cases hd
            refine ⟨rfl, rfl, (by intro c h; cases h), ?_⟩
            simp only [List.getElem_toArray, List.getElem_cons_zero, List.getElem_cons_succ]
            intro a' w' hf hb ha
            obtain ⟨v0, hv0, hR0⟩ := ha { on := 2, ground := .data } (by simp) (by decide) 73 rfl
            obtain ⟨v1, hv1, hR1⟩ := ha { on := 5, ground := .data } (by simp) (by decide) 76 rfl
            obtain ⟨A1, c1, rfl, hrow1⟩ := hR0 (.inl rfl)
            obtain ⟨g1, rfl, hg1, hc1⟩ := hR1 (.inl rfl)
            have hsx : SrcAt w' (.slice (some ⟨g1, 0, none⟩) 1 1) [x] := .inr ⟨⟨g1, 0, none⟩, 1, rfl, hg1, fun j u hu => by
              have hj := (List.getElem?_eq_some_iff.1 hu).1
              simp [u8s] at hj
              subst hj
              simp [u8s] at hu
              subst hu
              simpa [Addr.add] using hc1⟩
            obtain ⟨v', w2', hrun, hrow2, hg2⟩ := run_append_ownS 22 hrow1 hb.size hsx (by simp; omega)
            simp only [List.length_cons, List.length_nil, Nat.zero_add] at hrow2
            obtain ⟨A2, c2, rfl, hc21, hc22⟩ := own_form hrow2
            have hbw : Below wr.heap.size wr w2' := hb.grown hg2 hb.size (fun k e => (hrow1.lt k e).1)
            refine .inl ⟨_, w2', ?_, ⟨⟨A2, c2, rfl, SrcAt.of_row hrow2, hc21, hc22⟩, hbw, fun j u hj1 hj2 hj3 h => ?_⟩⟩
            · have h0 := eval_got hv0
              have h1 := eval_got hv1
              simp [execOp, resolve, invoke, builtin, h0, h1, hrun, Result.andThen]
            · exact GR.pure hj1 hj2 hj3 h
          · cases ho
            cases hd
            refine ⟨rfl, rfl, (by intro c h; cases h), ?_⟩
            simp only [List.getElem_toArray, List.getElem_cons_zero, List.getElem_cons_succ]
            intro a' w' hf hb ha
            have h : a'.eval (.tmp 1) = .bool loose := (eval_low hf (j := 1) (by decide)).trans rfl
            refine .inl ⟨.bool loose, w', ?_, RNext.same rfl hb⟩
            unfold execOp
            simp only
            rw [h]
            rfl
          · cases ho
            cases hd
            refine ⟨rfl, rfl, (by intro c h; cases h), ?_⟩
            simp only [List.getElem_toArray, List.getElem_cons_zero, List.getElem_cons_succ]
            intro a' w' hf hb ha
            have h : a'.tmps[5]? = some (.pointer (some ⟨w.heap.size, 0, none⟩)) := (hf.low 5 (by decide)).trans rfl
            have k0 := (hb.cell (p := ⟨w.heap.size, 0, none⟩) (block_lt_of_cell C0R.out)).trans C0R.out
            have k1 := (hb.cell (p := ⟨w.heap.size, 1, none⟩) (block_lt_of_cell C1R.out)).trans C1R.out
            refine .inl ⟨.agg #[.int .i64 lo, .int .i64 hi], w', ?_, RNext.same rfl hb⟩
            simp [execOp, h, go_sem, k0, k1]
          · cases ho
            cases hd
            refine ⟨rfl, rfl, (by intro c h; cases h), ?_⟩
            simp only [List.getElem_toArray, List.getElem_cons_zero, List.getElem_cons_succ]
            intro a' w' hf hb ha
            obtain ⟨v0, hv0, hR0⟩ := ha { on := 6, ground := .data } (by simp) (by decide) 77 rfl
            obtain ⟨v1, hv1, hR1⟩ := ha { on := 7, ground := .data } (by simp) (by decide) 78 rfl
            obtain ⟨v2, hv2, hR2⟩ := ha { on := 8, ground := .data } (by simp) (by decide) 79 rfl
            obtain ⟨A1, c1, rfl, hs1, hc1, hc2⟩ := hR0 (.inr (by decide))
            have e1 : v1 = .bool loose := hR1 (.inr (by decide))
            have e2 : v2 = .agg #[.int .i64 lo, .int .i64 hi] := hR2 (.inr (by decide))
            subst e1 e2
            refine .inr ⟨18, #[.slice A1 (N + 1) c1, .bool loose, .agg #[.int .i64 lo, .int .i64 hi]], ?_, ?_⟩
            · have h0 := eval_got hv0
              have h1 := eval_got hv1
              have h2 := eval_got hv2
              simp [execOp, resolve, invoke, hv0, hv1, hv2, go_sem, Result.andThen]
            · refine (callsIn_wide.2 (HXX A1 c1 w' hs1 hc1 hc2).out).mono ?_
              rintro e w2' ⟨rfl, hbw⟩
              exact ⟨_, rfl, rfl, hb.trans (hbw.mono hb.size), fun j u _ _ _ h => GR.below hbw j u h⟩
          · cases ho
            cases hd
            refine ⟨rfl, rfl, (by intro c h; cases h), ?_⟩
            simp only [List.getElem_toArray, List.getElem_cons_zero, List.getElem_cons_succ]
            intro a' w' hf hb ha
            obtain ⟨v0, hv0, hR0⟩ := ha { on := 9, ground := .data } (by simp) (by decide) 80 rfl
            have e0 : v0 = .tuple #[.bool on, .int .i64 0] := hR0 (.inr (by decide))
            subst e0
            have h0 := eval_got hv0
            refine .inl ⟨.tuple #[.bool on, .int .i64 0], w', ?_, RNext.same rfl hb⟩
            unfold execOp
            simp only
            rw [h0]
            rfl
          · cases ho
            cases hd
            refine ⟨rfl, rfl, (by intro c h; cases h), ?_⟩
            simp only [List.getElem_toArray, List.getElem_cons_zero, List.getElem_cons_succ]
            intro a' w' hf hb ha
            obtain ⟨v0, hv0, hR0⟩ := ha { on := 10, ground := .data } (by simp) (by decide) 70 rfl
            have e0 : v0 = .tuple #[.bool on, .int .i64 0] := hR0 (.inr (by decide))
            subst e0
            have h0 := eval_got hv0
            refine .inl ⟨.bool on, w', ?_, RNext.same rfl hb⟩
            unfold execOp
            simp only
            rw [h0]
            rfl
          · cases ho
            cases hd
            refine ⟨rfl, rfl, (by intro c h; cases h), ?_⟩
            simp only [List.getElem_toArray, List.getElem_cons_zero, List.getElem_cons_succ]
            intro a' w' hf hb ha
            obtain ⟨v0, hv0, hR0⟩ := ha { on := 10, ground := .data } (by simp) (by decide) 70 rfl
            have e0 : v0 = .tuple #[.bool on, .int .i64 0] := hR0 (.inr (by decide))
            subst e0
            have h0 := eval_got hv0
            refine .inl ⟨.int .i64 0, w', ?_, RNext.same rfl hb⟩
            unfold execOp
            simp only
            rw [h0]
            rfl
          · cases ho
            cases hd
            refine ⟨rfl, rfl, (by intro c h; cases h), ?_⟩
            simp only [List.getElem_toArray, List.getElem_cons_zero, List.getElem_cons_succ]
            intro a' w' hf hb ha
            obtain ⟨v0, hv0, hR0⟩ := ha { on := 11, ground := .data } (by simp) (by decide) 81 rfl
            have e0 : v0 = .bool on := hR0 (.inr (by decide))
            subst e0
            have h0 := eval_got hv0
            refine .inl ⟨.bool on, w', ?_, RNext.same rfl hb⟩
            unfold execOp
            simp only
            rw [h0]
            rfl
          · cases ho
            cases hd
            refine ⟨rfl, rfl, (by intro c h; cases h), ?_⟩
            simp only [List.getElem_toArray, List.getElem_cons_zero, List.getElem_cons_succ]
            intro a' w' hf hb ha
            obtain ⟨v0, hv0, hR0⟩ := ha { on := 12, ground := .data } (by simp) (by decide) 82 rfl
            have e0 : v0 = .int .i64 0 := hR0 (.inr (by decide))
            subst e0
            have h0 := eval_got hv0
            refine .inl ⟨.int .i64 0, w', ?_, RNext.same rfl hb⟩
            unfold execOp
            simp only
            rw [h0]
            rfl
          · cases ho
      · obtain rfl : x = 256 := by omega
        have hb1 := HB1.out
        have hb2 := HB2.out
        obtain ⟨G, hG⟩ : ∃ q, goesN B loose lo hi 256 = q := ⟨_, rfl⟩
        rw [hG] at hb1 hb2 ⊢
        have hb12 := And.intro hb1 hb2
        have HB12 := Lib.hid hb12
        clear hb1 hb2 hG hb12
        cases W <;> cases G
        all_goals
          first
          | (exfalso; have := HB12.out.2; simp at this; done)
          | (have e1 := HB12.out.1
             simp only [Bool.or_true, Bool.true_or, Bool.or_false] at e1
             subst e1
             go_wp2_with fail
             refine (KN _).out.mono ?_
             rintro e w5 ⟨rfl, hb5⟩
             go_wp2
             go_ret
             exact ⟨rfl, HBE2.out.trans ((HBW.out.trans (hb5.mono HBW.out.size)).mono HBE2.out.size)⟩)
end Go.Proofs.Ytfkaghfbngicmaa
