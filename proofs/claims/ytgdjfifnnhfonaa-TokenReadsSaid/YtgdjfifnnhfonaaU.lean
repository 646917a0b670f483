/- Join: the texts of tokens with spaces between them. Conditions: the tokens lie in memory; at most 1000 of them, with texts of at most 1000 bytes. -/
import Derived.Test.YtgdjfifnnhfonaaT
namespace Go.Proofs.Ytgdjfifnnhfonaa
open Go.RowKit Go.Shelf

/-- Any token. -/
structure TokI where
  k : Int
  t : List UInt8
  v : Int
  ln : Int
  cn : Int
def TokI.cells (d : TokI) : List Value := [.int .i64 d.k, .string (strL d.t), .int .i64 d.v, .int .i64 d.ln, .int .i64 d.cn]
def TokI.ok (d : TokI) : Bool := validB d.k d.t d.v
def TokI.whole (d : TokI) : List UInt8 := wholeOf d.k d.t

/-- Tokens in a slice. -/
def ToksAt (w : World) (v : Value) (L : List TokI) : Prop :=
  (L = [] ∧ ∃ ao c, v = .slice ao 0 c) ∨ ∃ g o c, v = .slice (some ⟨g, o, none⟩) L.length c ∧ L.length ≤ c ∧ c ≤ maxLen ∧ ∀ (i : Nat) (d : TokI), L[i]? = some d → ∀ j u, d.cells[j]? = some u → w.cell? ⟨g, o + i * 5 + j, none⟩ = some u

theorem ToksAt.below {w w' : World} {v : Value} {L : List TokI} (h : ToksAt w v L) (hb : Below w.heap.size w w') : ToksAt w' v L := by
  rcases h with h | ⟨g, o, c, rfl, h1, h2, h3⟩
  · exact .inl h
  · refine .inr ⟨g, o, c, rfl, h1, h2, fun i d hi j u hj => ?_⟩
    have := h3 i d hi j u hj
    exact (hb.cell (p := ⟨g, o + i * 5 + j, none⟩) (World.block_lt_of_cell? _ _ this)).trans this

/-- The joined text of tokens. -/
def joinT (L : List TokI) : List UInt8 := match L with | [] => [] | d :: L => d.whole ++ L.flatMap fun d => 32 :: d.whole
theorem joinT_snoc (L : List TokI) (d : TokI) : joinT (L ++ [d]) = if L = [] then d.whole else joinT L ++ 32 :: d.whole := by
  cases L with
  | nil => simp [joinT]
  | cons a L => simp [joinT]
theorem joinT_length (L : List TokI) (h : ∀ d ∈ L, d.t.length ≤ 1000) : (joinT L).length ≤ L.length * 1003 := by
  have hw : ∀ d : TokI, d.t.length ≤ 1000 → d.whole.length ≤ 1002 := fun d hd => by
    have := wholeOf_length d.k d.t
    unfold TokI.whole
    omega
  have hf : ∀ L : List TokI, (∀ d ∈ L, d.t.length ≤ 1000) → (L.flatMap fun d => 32 :: d.whole).length ≤ L.length * 1003 := by
    intro L
    induction L with
    | nil => intro _; simp
    | cons d L ih =>
      intro h
      have h1 := ih (fun d hd => h d (List.mem_cons_of_mem _ hd))
      have h2 := hw d (h d List.mem_cons_self)
      simp only [List.flatMap_cons, List.length_append, List.length_cons]
      omega
  cases L with
  | nil => simp [joinT]
  | cons d L =>
    have h1 := hf L (fun d hd => h d (List.mem_cons_of_mem _ hd))
    have h2 := hw d (h d List.mem_cons_self)
    simp only [joinT, List.length_append, List.length_cons]
    omega

/-- What Join answers. -/
def joinR (L : List TokI) : List UInt8 × Nat := if L.all TokI.ok then (joinT L, 0) else ([], 2)

theorem builder_later {B b : Nat} {bs : List Value} {w w' : World} (h : Lib.IsBuilder 80 5 B b bs w) (hb : Below w.heap.size w w') : Lib.IsBuilder 80 5 B b bs w' := by
  have key : ∀ p, Lib.BuilderAt 80 5 B b p bs w → Lib.BuilderAt 80 5 B b p bs w' := by
    rintro p ⟨h1, v, h2, h3, h4⟩
    exact ⟨h1, v, (hb.block b (Array.getElem?_eq_some_iff.1 h2).1).trans h2, Rest.row (S := fun _ => False) (Rest.below hb) h3 (fun _ _ e => e), h4⟩
  exact h.elim (fun h => .inl (key _ h)) (fun h => .inr (key _ h))

set_option maxRecDepth 100000 in
set_option maxHeartbeats 3200000 in
theorem join_any (v : Value) (L : List TokI) (w : World) (h : ToksAt w v L) (hL : L.length ≤ 1000) (ht : ∀ d ∈ L, d.t.length ≤ 1000) :
    Calls Try.prog 14 #[v] w fun e w' => e = .returned (.tuple #[.string (strL (joinR L).1), .int .i64 ((joinR L).2 : Nat)]) ∧ Below w.heap.size w w' := by
  obtain ⟨ao, c, rfl⟩ : ∃ ao c, v = .slice ao L.length c := by
    rcases h with ⟨rfl, ao, c, e⟩ | ⟨g, o, c, e, _⟩
    · exact ⟨ao, c, e⟩
    · exact ⟨_, _, e⟩
  have hel : ∀ (i : Nat) (d : TokI), L[i]? = some d → ∃ g o, ao = some ⟨g, o, none⟩ ∧ L.length ≤ c ∧ c ≤ maxLen ∧ ∀ wr, Below w.heap.size w wr → ∀ j u, d.cells[j]? = some u → wr.cell? ⟨g, o + i * 5 + j, none⟩ = some u := by
    intro i d hi
    rcases h with ⟨rfl, _⟩ | ⟨g, o, c', e, h1, h2, h3⟩
    · simp at hi
    · simp only [Value.slice.injEq, true_and] at e
      obtain ⟨rfl, rfl⟩ := e
      refine ⟨g, o, rfl, h1, h2, fun wr hb j u hj => ?_⟩
      have := h3 i d hi j u hj
      exact (hb.cell (p := ⟨g, o + i * 5 + j, none⟩) (World.block_lt_of_cell? _ _ this)).trans this
  have HEL := Lib.hid hel
  have hal := (Below.refl w.heap.size w).alloc (Nat.le_refl _) (.cells #[.pointer none, .slice none 0 0] 80)
  obtain ⟨bb, ebb⟩ : ∃ bb, w.heap.size = bb := ⟨_, rfl⟩
  have hB0 : Lib.IsBuilder 80 5 bb bb (Lib.byteCells []) (w.alloc (.cells #[.pointer none, .slice none 0 0] 80)) := by
    refine .inl ⟨Nat.le_refl _, .slice none 0 0, ?_, ⟨by simp [Lib.byteCells], .inl ⟨rfl, rfl⟩⟩, by simp [Value.ownBlock]⟩
    rw [← ebb]
    exact heap_alloc_new w _
  obtain ⟨w1, hw1⟩ : ∃ w1, w.alloc (.cells #[.pointer none, .slice none 0 0] 80) = w1 := ⟨_, rfl⟩
  rw [hw1] at hal hB0
  have HB0 := Lib.hid hB0
  have HAL := Lib.hid hal
  have W1 := Lib.hid hw1
  have EBB := Lib.hid ebb
  have HT := Lib.hid ht
  clear h hel hal hB0 hw1 ebb ht
  obtain ⟨R, hR⟩ : ∃ R, joinR L = R := ⟨_, rfl⟩
  rw [hR]
  have HR := Lib.hid hR
  clear hR
  go_enter Try.func14, Try.ntmps14
  go_wp2_with fail
  rw [W1.out, EBB.out]
  go_loopw [9] (fun x wr => ∃ k : Nat, k ≤ L.length ∧ x = .int .i64 k ∧ Lib.IsBuilder 80 5 bb bb (Lib.byteCells (joinT (L.take k))) wr ∧ (L.take k).all TokI.ok = true ∧ Below bb w wr) (fun x _ => L.length - (intOf x).toNat)
  case atStart => exact ⟨0, Nat.zero_le _, rfl, HB0.out, by simp, by have := HAL.out; rw [EBB.out] at this; exact this⟩
  case round =>
    obtain ⟨k, hk, rfl, hB, hall, hbw⟩ := hrel
    have BW := Lib.hid hbw
    have BB := Lib.hid hB
    have ALL := Lib.hid hall
    clear hB hall hbw
    by_cases hlt : k < L.length
    · obtain ⟨d, hd⟩ : ∃ d, L[k]? = some d := ⟨_, List.getElem?_eq_getElem hlt⟩
      have htk : L.take (k + 1) = L.take k ++ [d] := by
        obtain ⟨hk', rfl⟩ := List.getElem?_eq_some_iff.1 hd
        exact List.take_succ_eq_append_getElem hk'
      have hdt : d.t.length ≤ 1000 := HT.out d (List.mem_of_getElem? hd)
      have hdm : d ∈ L := List.mem_of_getElem? hd
      obtain ⟨g, o, rfl, hc1, hc2, hx⟩ := HEL.out k d hd
      have hx := hx wr (by have := BW.out; rw [← EBB.out] at this; exact this)
      have x0 := hx 0 _ rfl
      have x1 := hx 1 _ rfl
      have x2 := hx 2 _ rfl
      have x3 := hx 3 _ rfl
      have x4 := hx 4 _ rfl
      rw [Nat.add_zero] at x0
      have hal := (Below.refl wr.heap.size wr).alloc (Nat.le_refl _) (.cells #[.int .i64 d.k, .string (strL d.t), .int .i64 d.v, .int .i64 d.ln, .int .i64 d.cn] 36)
      have htb := tbox_new wr (.int .i64 d.k) (.string (strL d.t)) (.int .i64 d.v) (.int .i64 d.ln) (.int .i64 d.cn)
      obtain ⟨tb, etb⟩ : ∃ tb, wr.heap.size = tb := ⟨_, rfl⟩
      obtain ⟨w2, hw2⟩ : ∃ w2, wr.alloc (.cells #[.int .i64 d.k, .string (strL d.t), .int .i64 d.v, .int .i64 d.ln, .int .i64 d.cn] 36) = w2 := ⟨_, rfl⟩
      rw [hw2] at hal htb
      rw [etb] at htb
      have HTB := Lib.hid htb
      have HA2 := Lib.hid hal
      have W2 := Lib.hid hw2
      have ETB := Lib.hid etb
      have HTK := Lib.hid htk
      have HDT := Lib.hid hdt
      have HDM := Lib.hid hdm
      have hmx : c ≤ 9223372036854775807 := hc2
      clear htk hd hx hal htb hw2 etb hdt hdm hc2
      go_upto_region 5 with fail
      rw [W2.out, ETB.out]
      have VAL := Lib.hid (valid_any d.k d.v d.ln d.cn d.t w2 (by have := HDT.out; omega))
      have BW2 := Lib.hid (BW.out.trans (HA2.out.mono (by have := BW.out.size; have := EBB.out; omega)))
      have hBB2 : Lib.IsBuilder 80 5 bb bb (Lib.byteCells (joinT (L.take k))) w2 := builder_later BB.out HA2.out
      have BB2 := Lib.hid hBB2
      have y0 := HTB.out.c0
      have y1 := HTB.out.c1
      have y2 := HTB.out.c2
      have y3 := HTB.out.c3
      have y4 := HTB.out.c4
      clear hBB2 x0 x1 x2 x3 x4
      go_wp2_with fail
      refine VAL.out.mono ?_
      rintro e w3 ⟨rfl, hb3⟩
      have HT3 := HTB.out.below hb3 HTB.out.lt
      have T3 := Lib.hid HT3
      have BW3 := Lib.hid (BW2.out.trans (hb3.mono (by have := BW2.out.size; have := EBB.out; omega)))
      have BB3 := Lib.hid (builder_later BB2.out hb3)
      clear hb3 y0 y1 y2 y3 y4 VAL HT3
      have hWl : (joinT (L.take k)).length ≤ 1003000 := by
        have := joinT_length (L.take k) (fun d hd => HT.out d (List.mem_of_mem_take hd))
        rw [List.length_take] at this
        omega
      have HWL := Lib.hid hWl
      have hwh : d.whole.length ≤ 1002 := by have := wholeOf_length d.k d.t; have := HDT.out; unfold TokI.whole; omega
      have HWH := Lib.hid hwh
      clear hWl hwh
      cases hv : validB d.k d.t d.v with
      | false =>
        have hfin : R = ([], 2) := by
          rw [← HR.out]
          unfold joinR
          rw [if_neg]
          intro h
          have h2 : validB d.k d.t d.v = true := List.all_eq_true.1 h d HDM.out
          rw [hv] at h2
          cases h2
        have HFIN := Lib.hid hfin
        clear hv hfin
        go_wp2_with fail
        go_ret2
        rw [HFIN.out]
        exact ⟨rfl, by have := BW3.out; rw [← EBB.out] at this; exact this⟩
      | true =>
        have HV := Lib.hid hv
        clear hv
        have z0 := T3.out.c0
        have z1 := T3.out.c1
        have z2 := T3.out.c2
        have z3 := T3.out.c3
        have z4 := T3.out.c4
        have hlen1 : (Lib.byteCells (joinT (L.take k))).length ≤ 1048576 := by rw [Lib.byteCells_length]; have := HWL.out; omega
        by_cases hk0 : k = 0
        · have hd0 : decide ((0 : Int) < ((k : Nat) : Int)) = false := decide_eq_false (by omega)
          have hd1 : decide (0 < k) = false := decide_eq_false (by omega)
          have HK0 := Lib.hid hk0
          clear hk0 hlen1
          go_upto_region 9 with fail
          clear hd0 hd1 z0 z1 z2 z3 z4
          have WR := Lib.hid (written_any d.k d.v d.ln d.cn d.t w3 (by have := HDT.out; omega))
          have T5 := T3.out
          have y0 := T5.c0
          have y1 := T5.c1
          have y2 := T5.c2
          have y3 := T5.c3
          have y4 := T5.c4
          clear T5
          go_wp2_with fail
          refine WR.out.mono ?_
          rintro e w6 ⟨rfl, hb6⟩
          have WS6 := Lib.hid (wstring_any bb bb (Lib.byteCells (joinT (L.take k))) (strL d.whole) w6 (builder_later BB3.out hb6) (by rw [Lib.byteCells_length]; have := HWL.out; simp; omega) (by rw [strL_size]; have := HWH.out; omega) (by have := hb6.size; have := BW3.out.size; have := EBB.out; omega))
          have BW6 := Lib.hid (BW3.out.trans (hb6.mono (by have := BW3.out.size; have := EBB.out; omega)))
          clear hb6 y0 y1 y2 y3 y4 WR
          change Hid (Calls Try.prog 37 #[.pointer (some ⟨bb, 0, none⟩), .string (strL (wholeOf d.k d.t))] _ _) at WS6
          go_wp2_with fail
          refine WS6.out.mono ?_
          rintro e w7 ⟨rfl, hB7, hb7⟩
          have B7 := Lib.hid hB7
          have BW7 := Lib.hid (BW6.out.trans hb7)
          clear hB7 hb7 WS6
          go_wp2_with fail
          go_roundw
          case rel =>
            refine ⟨k + 1, hlt, by go_num, .inr ?_, ?_, BW7.out⟩
            · have e : Lib.byteCells (joinT (L.take (k + 1))) = Lib.byteCells (joinT (L.take k)) ++ Lib.strCells (strL d.whole) := by
                rw [cells_str, ← cells_app, HTK.out, joinT_snoc]
                rw [if_pos (by rw [HK0.out]; rfl), HK0.out]; rfl
              rw [e]
              exact B7.out
            · rw [HTK.out, List.all_append, ALL.out]
              simp only [List.all_cons, List.all_nil, Bool.and_true, Bool.true_and]
              exact HV.out
          case measure => simp [intOf]; omega
        · have hd0 : decide ((0 : Int) < ((k : Nat) : Int)) = true := decide_eq_true (by omega)
          have hd1 : decide (0 < k) = true := decide_eq_true (by omega)
          have WB := Lib.hid (wbyte_any bb bb (Lib.byteCells (joinT (L.take k))) 32 w3 BB3.out hlen1 (by have := BW3.out.size; have := EBB.out; omega))
          have HK0 := Lib.hid hk0
          clear hk0 hlen1
          go_wp2_with fail
          refine WB.out.mono ?_
          rintro e w5 ⟨rfl, hB5, hb5, hap5⟩
          have hB5' : Lib.BuilderAt 80 5 bb bb (.pointer (some ⟨bb, 0, none⟩)) (Lib.byteCells (joinT (L.take k) ++ [32])) w5 := by rw [cells_app]; exact hB5
          have B5 := Lib.hid hB5'
          have BW5 := Lib.hid (BW3.out.trans hb5)
          have T4 := Lib.hid hap5
          clear hB5 hB5' hb5 hap5 WB hd0 hd1 z0 z1 z2 z3 z4
          go_upto_region 9 with fail
          have WR := Lib.hid (written_any d.k d.v d.ln d.cn d.t w5 (by have := HDT.out; omega))
          have T5 := (TBox.mk ((T4.out _ _ _ T3.out.blk (by decide) (by decide)).trans T3.out.blk))
          have y0 := T5.c0
          have y1 := T5.c1
          have y2 := T5.c2
          have y3 := T5.c3
          have y4 := T5.c4
          clear T5
          go_wp2_with fail
          refine WR.out.mono ?_
          rintro e w6 ⟨rfl, hb6⟩
          have WS6 := Lib.hid (wstring_any bb bb (Lib.byteCells (joinT (L.take k) ++ [32])) (strL d.whole) w6 (builder_later (.inr B5.out) hb6) (by rw [Lib.byteCells_length]; have := HWL.out; simp; omega) (by rw [strL_size]; have := HWH.out; omega) (by have := hb6.size; have := BW5.out.size; have := EBB.out; omega))
          have BW6 := Lib.hid (BW5.out.trans (hb6.mono (by have := BW5.out.size; have := EBB.out; omega)))
          clear hb6 y0 y1 y2 y3 y4 WR
          change Hid (Calls Try.prog 37 #[.pointer (some ⟨bb, 0, none⟩), .string (strL (wholeOf d.k d.t))] _ _) at WS6
          go_wp2_with fail
          refine WS6.out.mono ?_
          rintro e w7 ⟨rfl, hB7, hb7⟩
          have B7 := Lib.hid hB7
          have BW7 := Lib.hid (BW6.out.trans hb7)
          clear hB7 hb7 WS6
          go_wp2_with fail
          go_roundw
          case rel =>
            refine ⟨k + 1, hlt, by go_num, .inr ?_, ?_, BW7.out⟩
            · have e : Lib.byteCells (joinT (L.take (k + 1))) = Lib.byteCells (joinT (L.take k) ++ [32]) ++ Lib.strCells (strL d.whole) := by
                rw [cells_str, ← cells_app, HTK.out, joinT_snoc]
                rw [if_neg (by intro h; rw [List.take_eq_nil_iff] at h; rcases h with h | h; exact HK0.out h; rw [h] at hlt; simp at hlt)]; simp
              rw [e]
              exact B7.out
            · rw [HTK.out, List.all_append, ALL.out]
              simp only [List.all_cons, List.all_nil, Bool.and_true, Bool.true_and]
              exact HV.out
          case measure => simp [intOf]; omega
    · obtain rfl : k = L.length := by omega
      rw [List.take_length] at BB ALL
      have hfin : R = (joinT L, 0) := by rw [← HR.out]; unfold joinR; rw [if_pos ALL.out]
      have HFIN := Lib.hid hfin
      have SA := Lib.hid (Try.Builder_String_any bb bb (joinT L) wr BB.out (by have := BW.out.size; have := EBB.out; omega))
      clear hfin hlt hk
      go_wp2_with fail
      refine SA.out.mono ?_
      rintro e w3 ⟨rfl, hb3⟩
      have HB3 := Lib.hid (BW.out.trans hb3)
      clear hb3 SA
      go_wp2_with fail
      go_ret2
      rw [HFIN.out]
      exact ⟨rfl, by have := HB3.out; rw [← EBB.out] at this; exact this⟩
end Go.Proofs.Ytgdjfifnnhfonaa
