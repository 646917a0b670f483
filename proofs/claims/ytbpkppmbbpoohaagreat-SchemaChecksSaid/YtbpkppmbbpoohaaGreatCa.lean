/- slices.Clone of terms and of cases. Conditions: the elements lie in memory, few enough. A field is copied. Conditions: its terms and cases lie in memory, few enough. -/
import Derived.Test.YtbpkppmbbpoohaaGreatGa
import Derived.Maps.AppendAt
import Derived.Lib.SliceRun
import Derived.Deep.CutRange
namespace Go.Proofs.YtbpkppmbbpoohaaGreat
open Go.RowKit Go.Shelf

theorem flat_get {α : Type} (cf : α → List Value) (s : Nat) (hlen : ∀ d, (cf d).length = s) : ∀ (D : List α) (j : Nat) (u : Value), (D.flatMap cf)[j]? = some u → ∃ i d k, D[i]? = some d ∧ j = i * s + k ∧ (cf d)[k]? = some u
  | [], j, u, h => by simp at h
  | d :: D, j, u, h => by
    rw [List.flatMap_cons] at h
    by_cases hj : j < s
    · rw [List.getElem?_append_left (by rw [hlen]; exact hj)] at h
      exact ⟨0, d, j, rfl, by omega, h⟩
    · rw [List.getElem?_append_right (by rw [hlen]; omega), hlen] at h
      obtain ⟨i, d', k, h1, h2, h3⟩ := flat_get cf s hlen D (j - s) u h
      exact ⟨i + 1, d', k, by simpa using h1, by rw [Nat.add_mul]; omega, h3⟩
theorem flat_at {α : Type} (cf : α → List Value) (s : Nat) (hlen : ∀ d, (cf d).length = s) : ∀ (D : List α) (i : Nat) (d : α), D[i]? = some d → ∀ k, k < s → (D.flatMap cf)[i * s + k]? = (cf d)[k]?
  | [], i, d, h, _, _ => by simp at h
  | e :: D, 0, d, h, k, hk => by
    simp only [List.getElem?_cons_zero, Option.some.injEq] at h
    subst h
    rw [List.flatMap_cons, Nat.zero_mul, Nat.zero_add, List.getElem?_append_left (by rw [hlen]; exact hk)]
  | e :: D, i + 1, d, h, k, hk => by
    rw [List.flatMap_cons, List.getElem?_append_right (by rw [hlen, Nat.add_mul]; omega), hlen, show (i + 1) * s + k - s = i * s + k by rw [Nat.add_mul]; omega]
    exact flat_at cf s hlen D i d (by simpa using h) k hk
theorem flat_len {α : Type} (cf : α → List Value) (s : Nat) (hlen : ∀ d, (cf d).length = s) : ∀ D : List α, (D.flatMap cf).length = D.length * s
  | [] => by simp
  | d :: D => by rw [List.flatMap_cons, List.length_append, hlen, flat_len cf s hlen D, List.length_cons, Nat.add_mul]; omega
/-- A row of the call's own, as a slice. -/
theorem slAt_own {α : Type} {cf : α → List Value} {s lo c : Nat} {W : World} {A : Option Addr} {D : List α} {t : TypeId} (hlen : ∀ d, (cf d).length = s) (h : W.ownsRow lo t s (.slice A D.length c) D.length (D.flatMap cf)) : SlAt cf s (fun k => k < lo) W A c D :=
  slAt_row h rfl (fun i d hd j hj => flat_at cf s hlen D i d hd j hj) hlen (fun k hk => by
    rcases h.2 with ⟨e, _⟩ | ⟨g, cap, cur, e, hg, _⟩
    · simp only [Value.slice.injEq] at e
      rw [e.1] at hk
      cases hk
    · simp only [Value.slice.injEq] at e
      rw [e.1] at hk
      simp only [Option.map_some, Option.some.injEq] at hk
      show ¬ k < lo
      omega)
theorem one_flat {α : Type} (cf : α → List Value) (h1 : ∀ d, ∀ u ∈ cf d, u.oneCell' = true) (D : List α) : ∀ u ∈ D.flatMap cf, u.oneCell' = true := fun u hu => by
  rw [List.mem_flatMap] at hu
  obtain ⟨d, _, hu⟩ := hu
  exact h1 d u hu
/-- The empty row. -/
theorem own_empty (w : World) (t s : Nat) (hs : s = s) : (w.alloc (.cells #[] t)).ownsRow w.heap.size t s (.slice (some ⟨w.heap.size, 0, none⟩) 0 0) 0 [] := by
  have := hs
  exact ⟨by simp, .inr ⟨w.heap.size, 0, #[], rfl, Nat.le_refl _, heap_alloc_new w _, Nat.le_refl _, by decide, by simp, by simp⟩⟩

theorem Tryz.infoTermD : (Tryz.prog.info? 67).map (fun i => (i.zero, i.size, i.bytes)) = some (some (.agg #[.string ⟨#[]⟩, .int .i64 0]), 2, 24) := by kernel_rfl
set_option maxRecDepth 100000 in
set_option maxHeartbeats 1600000 in
theorem cloneT (A : Option Addr) (c : Nat) (D : List TermD) (S : Nat → Prop) (w : World) (h : SlAt TermD.cells 2 S w A c D) (hn : D.length ≤ 1000000) :
    Calls Tryz.prog 46 #[.slice A D.length c] w fun e w' => ∃ A' c', e = .returned (.slice A' D.length c') ∧ w'.ownsRow w.heap.size 67 2 (.slice A' D.length c') D.length (D.flatMap TermD.cells) ∧ Below w.heap.size w w' := by
  cases A with
  | none =>
    have hD : D = [] := by
      cases D with
      | nil => rfl
      | cons d D =>
        obtain ⟨g, o, e, _⟩ := h.2.2 0 d rfl
        cases e
    subst hD
    clear h hn
    have heq := Lib.run_eql_slice_nil (P := Tryz.prog) w 50 67 none 0 c 0 0 Tryz.underlying50
    go_enter Tryz.func46, Tryz.ntmps46
    go_wp2_with fail
    go_ret
    exact ⟨none, 0, rfl, ⟨rfl, .inl ⟨rfl, rfl⟩⟩, Below.refl _ _⟩
  | some ad =>
    obtain ⟨i0, hi0, hz0, hz1, hz2⟩ := info_parts Tryz.infoTermD
    have hnews : ∀ j u, (D.flatMap TermD.cells)[j]? = some u → w.cell? (ad.add j) = some u := fun j u hu => by
      obtain ⟨i, d, k, h1, h2, h3⟩ := flat_get TermD.cells 2 (fun _ => rfl) D j u hu
      obtain ⟨g, o, e, _, hx⟩ := h.2.2 i d h1
      simp only [Option.some.injEq] at e
      subst e
      rw [add_at, h2, ← Nat.add_assoc]
      exact hx k u h3
    have hal := below_alloc w (.cells #[] 67)
    have HOW := Lib.hid (own_empty w 67 2 rfl)
    obtain ⟨n0, en0⟩ : ∃ n, w.heap.size = n := ⟨_, rfl⟩
    have HNW : Hid (∀ j u, (D.flatMap TermD.cells)[j]? = some u → (w.alloc (.cells #[] 67)).cell? (ad.add j) = some u) := Lib.hid (fun j u hu => (hal.cell (p := ad.add j) (World.block_lt_of_cell? _ _ (hnews j u hu))).trans (hnews j u hu))
    have INF := Lib.hid (And.intro hi0 (And.intro hz0 (And.intro hz1 hz2)))
    have HL := Lib.hid (flat_len TermD.cells 2 (fun _ => rfl) D)
    have HO := Lib.hid (one_flat TermD.cells (fun d u hu => by simp only [TermD.cells, List.mem_cons, List.not_mem_nil, or_false] at hu; rcases hu with rfl | rfl <;> rfl) D)
    have HAL := Lib.hid hal
    have EN := Lib.hid en0
    obtain ⟨w1, hw1⟩ : ∃ w1, w.alloc (.cells #[] 67) = w1 := ⟨_, rfl⟩
    rw [hw1] at HOW HNW HAL
    rw [en0] at HOW
    have HW := Lib.hid hw1
    have hlen := hn
    clear h hi0 hz0 hz1 hz2 hnews hal en0 hw1
    have heq := Lib.run_eql_slice_nil (P := Tryz.prog) w 50 67 (some ad) D.length c 0 0 Tryz.underlying50
    go_enter Tryz.func46, Tryz.ntmps46
    go_wp2_with (at_builtin; (try rw [HW.out, EN.out]); go_must (refine wpList_append_own_at _ rfl _ _ 50 rfl n0 67 i0 _ 2 24 Tryz.underlying50 INF.out.1 INF.out.2.1 INF.out.2.2.1 INF.out.2.2.2 rfl (by decide) _ _ _ rfl HOW.out ad D.length c (D.flatMap TermD.cells) rfl HL.out HNW.out HO.out (by unfold maxLen; omega) (by omega) (by have := HAL.out.size; have := EN.out; omega) ?_); go_must (intro v1 w2 hown1 hgrow1 _ _); have HWN := Lib.hid hown1; have HG := Lib.hid hgrow1; clear hown1 hgrow1)
    have ho := HWN.out
    rw [Nat.zero_add, List.nil_append] at ho
    obtain ⟨A', c', rfl⟩ := row_shape ho
    have hb : Below w.heap.size w w2 := HAL.out.grown HG.out HAL.out.size (fun k hk => by have e : some n0 = some k := hk; simp only [Option.some.injEq] at e; have := EN.out; omega)
    go_ret
    rw [EN.out]
    rw [EN.out] at hb
    exact ⟨A', c', rfl, ho, hb⟩

theorem Tryz.infoCaseD : (Tryz.prog.info? 65).map (fun i => (i.zero, i.size, i.bytes)) = some (some (.agg #[.int .i64 0, .int .i64 0, .string ⟨#[]⟩]), 3, 32) := by kernel_rfl
set_option maxRecDepth 100000 in
set_option maxHeartbeats 1600000 in
theorem cloneC (A : Option Addr) (c : Nat) (D : List CaseD) (S : Nat → Prop) (w : World) (h : SlAt CaseD.cells 3 S w A c D) (hn : D.length ≤ 1000000) :
    Calls Tryz.prog 47 #[.slice A D.length c] w fun e w' => ∃ A' c', e = .returned (.slice A' D.length c') ∧ w'.ownsRow w.heap.size 65 3 (.slice A' D.length c') D.length (D.flatMap CaseD.cells) ∧ Below w.heap.size w w' := by
  cases A with
  | none =>
    have hD : D = [] := by
      cases D with
      | nil => rfl
      | cons d D =>
        obtain ⟨g, o, e, _⟩ := h.2.2 0 d rfl
        cases e
    subst hD
    clear h hn
    have heq := Lib.run_eql_slice_nil (P := Tryz.prog) w 53 65 none 0 c 0 0 Tryz.underlying53
    go_enter Tryz.func47, Tryz.ntmps47
    go_wp2_with fail
    go_ret
    exact ⟨none, 0, rfl, ⟨rfl, .inl ⟨rfl, rfl⟩⟩, Below.refl _ _⟩
  | some ad =>
    obtain ⟨i0, hi0, hz0, hz1, hz2⟩ := info_parts Tryz.infoCaseD
    have hnews : ∀ j u, (D.flatMap CaseD.cells)[j]? = some u → w.cell? (ad.add j) = some u := fun j u hu => by
      obtain ⟨i, d, k, h1, h2, h3⟩ := flat_get CaseD.cells 3 (fun _ => rfl) D j u hu
      obtain ⟨g, o, e, _, hx⟩ := h.2.2 i d h1
      simp only [Option.some.injEq] at e
      subst e
      rw [add_at, h2, ← Nat.add_assoc]
      exact hx k u h3
    have hal := below_alloc w (.cells #[] 65)
    have HOW := Lib.hid (own_empty w 65 3 rfl)
    obtain ⟨n0, en0⟩ : ∃ n, w.heap.size = n := ⟨_, rfl⟩
    have HNW : Hid (∀ j u, (D.flatMap CaseD.cells)[j]? = some u → (w.alloc (.cells #[] 65)).cell? (ad.add j) = some u) := Lib.hid (fun j u hu => (hal.cell (p := ad.add j) (World.block_lt_of_cell? _ _ (hnews j u hu))).trans (hnews j u hu))
    have INF := Lib.hid (And.intro hi0 (And.intro hz0 (And.intro hz1 hz2)))
    have HL := Lib.hid (flat_len CaseD.cells 3 (fun _ => rfl) D)
    have HO := Lib.hid (one_flat CaseD.cells (fun d u hu => by simp only [CaseD.cells, List.mem_cons, List.not_mem_nil, or_false] at hu; rcases hu with rfl | rfl | rfl <;> rfl) D)
    have HAL := Lib.hid hal
    have EN := Lib.hid en0
    obtain ⟨w1, hw1⟩ : ∃ w1, w.alloc (.cells #[] 65) = w1 := ⟨_, rfl⟩
    rw [hw1] at HOW HNW HAL
    rw [en0] at HOW
    have HW := Lib.hid hw1
    have hlen := hn
    clear h hi0 hz0 hz1 hz2 hnews hal en0 hw1
    have heq := Lib.run_eql_slice_nil (P := Tryz.prog) w 53 65 (some ad) D.length c 0 0 Tryz.underlying53
    go_enter Tryz.func47, Tryz.ntmps47
    go_wp2_with (at_builtin; (try rw [HW.out, EN.out]); go_must (refine wpList_append_own_at _ rfl _ _ 53 rfl n0 65 i0 _ 3 32 Tryz.underlying53 INF.out.1 INF.out.2.1 INF.out.2.2.1 INF.out.2.2.2 rfl (by decide) _ _ _ rfl HOW.out ad D.length c (D.flatMap CaseD.cells) rfl HL.out HNW.out HO.out (by unfold maxLen; omega) (by omega) (by have := HAL.out.size; have := EN.out; omega) ?_); go_must (intro v1 w2 hown1 hgrow1 _ _); have HWN := Lib.hid hown1; have HG := Lib.hid hgrow1; clear hown1 hgrow1)
    have ho := HWN.out
    rw [Nat.zero_add, List.nil_append] at ho
    obtain ⟨A', c', rfl⟩ := row_shape ho
    have hb : Below w.heap.size w w2 := HAL.out.grown HG.out HAL.out.size (fun k hk => by have e : some n0 = some k := hk; simp only [Option.some.injEq] at e; have := EN.out; omega)
    go_ret
    rw [EN.out]
    rw [EN.out] at hb
    exact ⟨A', c', rfl, ho, hb⟩
end Go.Proofs.YtbpkppmbbpoohaaGreat

namespace Go.Proofs.YtbpkppmbbpoohaaGreat
open Go.RowKit Go.Shelf

theorem own_mono {W : World} {lo lo' : Nat} {t : TypeId} {s : Nat} {v : Value} {n : Nat} {xs : List Value} (h : W.ownsRow lo t s v n xs) (hl : lo' ≤ lo) : W.ownsRow lo' t s v n xs := by
  refine ⟨h.1, ?_⟩
  rcases h.2 with e | ⟨g, cap, cur, e, hg, r⟩
  · exact .inl e
  · exact .inr ⟨g, cap, cur, e, Nat.le_trans hl hg, r⟩
theorem own_below {W W' : World} {lo : Nat} {t : TypeId} {s : Nat} {v : Value} {n : Nat} {xs : List Value} (h : W.ownsRow lo t s v n xs) (hb : Below W.heap.size W W') : W'.ownsRow lo t s v n xs :=
  (Rest.below (S := fun _ => False) hb).row h (fun _ _ e => e)
theorem own_ge {W : World} {lo : Nat} {t : TypeId} {s : Nat} {v : Value} {n : Nat} {xs : List Value} (h : W.ownsRow lo t s v n xs) : ∀ k, v.ownBlock = some k → lo ≤ k ∧ k < W.heap.size := fun k hk => by
  rcases h.2 with ⟨e, _⟩ | ⟨g, cap, cur, e, hg, hh, _⟩
  · rw [e] at hk; cases hk
  · rw [e] at hk
    have e2 : some g = some k := hk
    simp only [Option.some.injEq] at e2
    subst e2
    exact ⟨hg, (Array.getElem?_eq_some_iff.1 hh).1⟩
/-- What lies in memory lies below its end. -/
theorem slAt_old {α : Type} {cf : α → List Value} {s c N : Nat} {S : Nat → Prop} {W : World} {A : Option Addr} {D : List α} (h : SlAt cf s S W A c D) (h0 : ∀ d, ∃ u, (cf d)[0]? = some u) (hN : W.heap.size ≤ N) : SlAt cf s (fun k => N ≤ k) W A c D :=
  ⟨h.1, h.2.1, fun i d hd => by
    obtain ⟨g, o, e, _, hx⟩ := h.2.2 i d hd
    obtain ⟨u, hu⟩ := h0 d
    have := World.block_lt_of_cell? _ _ (hx 0 u hu)
    exact ⟨g, o, e, by show ¬ N ≤ g; have h2 : g < W.heap.size := this; omega, hx⟩⟩
theorem FieldOk.old {S : Nat → Prop} {W : World} {d : FieldD} {N : Nat} (h : FieldOk S W d) (hN : W.heap.size ≤ N) : FieldOk (fun k => N ≤ k) W d := ⟨slAt_old h.1 (fun _ => ⟨_, rfl⟩) hN, slAt_old h.2 (fun _ => ⟨_, rfl⟩) hN⟩
theorem FieldsAt.old {S : Nat → Prop} {W : World} {A : Option Addr} {c N : Nat} {D : List FieldD} (h : FieldsAt S W A c D) (hN : W.heap.size ≤ N) : FieldsAt (fun k => N ≤ k) W A c D := ⟨slAt_old h.1 (fun _ => ⟨_, rfl⟩) hN, fun d hd => (h.2 d hd).old hN⟩
theorem MsgsAt.old {S : Nat → Prop} {W : World} {A : Option Addr} {c N : Nat} {D : List MsgD} (h : MsgsAt S W A c D) (hN : W.heap.size ≤ N) : MsgsAt (fun k => N ≤ k) W A c D := ⟨slAt_old h.1 (fun _ => ⟨_, rfl⟩) hN, fun d hd => FieldsAt.old (h.2 d hd) hN⟩

/-- A field and its copy, whose terms and cases lie in rows of its own. -/
structure CopF (lo : Nat) (W : World) (d d' : FieldD) : Prop where
  same : d' = { d with ta := d'.ta, tc := d'.tc, ca := d'.ca, cc := d'.cc }
  terms : W.ownsRow lo 67 2 (.slice d'.ta d'.terms.length d'.tc) d'.terms.length (d'.terms.flatMap TermD.cells)
  cases : W.ownsRow lo 65 3 (.slice d'.ca d'.cases.length d'.cc) d'.cases.length (d'.cases.flatMap CaseD.cells)
theorem CopF.rest {lo : Nat} {S : Nat → Prop} {W W' : World} {d d' : FieldD} (h : CopF lo W d d') (hr : Rest S W W') (hs : ∀ k, lo ≤ k → k < W.heap.size → ¬ S k) : CopF lo W' d d' :=
  ⟨h.same, hr.row h.terms (fun k hk => hs k (own_ge h.terms k hk).1 (own_ge h.terms k hk).2), hr.row h.cases (fun k hk => hs k (own_ge h.cases k hk).1 (own_ge h.cases k hk).2)⟩
theorem CopF.below {lo : Nat} {W W' : World} {d d' : FieldD} (h : CopF lo W d d') (hb : Below W.heap.size W W') : CopF lo W' d d' := ⟨h.same, own_below h.terms hb, own_below h.cases hb⟩
theorem CopF.mono {lo lo' : Nat} {W : World} {d d' : FieldD} (h : CopF lo W d d') (hl : lo' ≤ lo) : CopF lo' W d d' := ⟨h.same, own_mono h.terms hl, own_mono h.cases hl⟩
theorem CopF.ok {lo : Nat} {W : World} {d d' : FieldD} (h : CopF lo W d d') : FieldOk (fun k => k < lo) W d' := ⟨slAt_own (fun _ => rfl) h.terms, slAt_own (fun _ => rfl) h.cases⟩

set_option maxHeartbeats 1600000 in
theorem set15 (W : World) (b : Nat) (e d : FieldD) (h : FBox W b e) : FBox (((((((((((((((W.setCell ⟨b, 0, none⟩ (.string (strL d.name))).setCell ⟨b, 1, none⟩ (.int .i64 d.kind)).setCell ⟨b, 2, none⟩ (.int .i64 d.bits)).setCell ⟨b, 3, none⟩ (.bool d.little)).setCell ⟨b, 4, none⟩ (.bool d.loose)).setCell ⟨b, 5, none⟩ (.int .i64 d.low)).setCell ⟨b, 6, none⟩ (.int .i64 d.high)).setCell ⟨b, 7, none⟩ (.int .i64 d.base)).setCell ⟨b, 8, none⟩ (.slice d.ta d.terms.length d.tc)).setCell ⟨b, 9, none⟩ (.string (strL d.of_))).setCell ⟨b, 10, none⟩ (.string (strL d.tag))).setCell ⟨b, 11, none⟩ (.string (strL d.from_))).setCell ⟨b, 12, none⟩ (.slice d.ca d.cases.length d.cc)).setCell ⟨b, 13, none⟩ (.int .i64 d.check)).setCell ⟨b, 14, none⟩ (.int .i64 d.key)) b d ∧ Rest (fun k => k = b) W (((((((((((((((W.setCell ⟨b, 0, none⟩ (.string (strL d.name))).setCell ⟨b, 1, none⟩ (.int .i64 d.kind)).setCell ⟨b, 2, none⟩ (.int .i64 d.bits)).setCell ⟨b, 3, none⟩ (.bool d.little)).setCell ⟨b, 4, none⟩ (.bool d.loose)).setCell ⟨b, 5, none⟩ (.int .i64 d.low)).setCell ⟨b, 6, none⟩ (.int .i64 d.high)).setCell ⟨b, 7, none⟩ (.int .i64 d.base)).setCell ⟨b, 8, none⟩ (.slice d.ta d.terms.length d.tc)).setCell ⟨b, 9, none⟩ (.string (strL d.of_))).setCell ⟨b, 10, none⟩ (.string (strL d.tag))).setCell ⟨b, 11, none⟩ (.string (strL d.from_))).setCell ⟨b, 12, none⟩ (.slice d.ca d.cases.length d.cc)).setCell ⟨b, 13, none⟩ (.int .i64 d.check)).setCell ⟨b, 14, none⟩ (.int .i64 d.key)) := by
  have hb := h.blk
  have hh := (heap_setCell_same _ b 14 _ 55 (.int .i64 d.key) (heap_setCell_same _ b 13 _ 55 (.int .i64 d.check) (heap_setCell_same _ b 12 _ 55 (.slice d.ca d.cases.length d.cc) (heap_setCell_same _ b 11 _ 55 (.string (strL d.from_)) (heap_setCell_same _ b 10 _ 55 (.string (strL d.tag)) (heap_setCell_same _ b 9 _ 55 (.string (strL d.of_)) (heap_setCell_same _ b 8 _ 55 (.slice d.ta d.terms.length d.tc) (heap_setCell_same _ b 7 _ 55 (.int .i64 d.base) (heap_setCell_same _ b 6 _ 55 (.int .i64 d.high) (heap_setCell_same _ b 5 _ 55 (.int .i64 d.low) (heap_setCell_same _ b 4 _ 55 (.bool d.loose) (heap_setCell_same _ b 3 _ 55 (.bool d.little) (heap_setCell_same _ b 2 _ 55 (.int .i64 d.bits) (heap_setCell_same _ b 1 _ 55 (.int .i64 d.kind) (heap_setCell_same _ b 0 _ 55 (.string (strL d.name)) hb)))))))))))))))
  simp only [List.setIfInBounds_toArray, List.set_cons_zero, List.set_cons_succ] at hh
  exact ⟨⟨hh⟩, ((((((((((((((((Rest.refl (fun k => k = b) W).setCell (S := fun k => k = b) (p := ⟨b, 0, none⟩) (fun _ => rfl) _).setCell (S := fun k => k = b) (p := ⟨b, 1, none⟩) (fun _ => rfl) _).setCell (S := fun k => k = b) (p := ⟨b, 2, none⟩) (fun _ => rfl) _).setCell (S := fun k => k = b) (p := ⟨b, 3, none⟩) (fun _ => rfl) _).setCell (S := fun k => k = b) (p := ⟨b, 4, none⟩) (fun _ => rfl) _).setCell (S := fun k => k = b) (p := ⟨b, 5, none⟩) (fun _ => rfl) _).setCell (S := fun k => k = b) (p := ⟨b, 6, none⟩) (fun _ => rfl) _).setCell (S := fun k => k = b) (p := ⟨b, 7, none⟩) (fun _ => rfl) _).setCell (S := fun k => k = b) (p := ⟨b, 8, none⟩) (fun _ => rfl) _).setCell (S := fun k => k = b) (p := ⟨b, 9, none⟩) (fun _ => rfl) _).setCell (S := fun k => k = b) (p := ⟨b, 10, none⟩) (fun _ => rfl) _).setCell (S := fun k => k = b) (p := ⟨b, 11, none⟩) (fun _ => rfl) _).setCell (S := fun k => k = b) (p := ⟨b, 12, none⟩) (fun _ => rfl) _).setCell (S := fun k => k = b) (p := ⟨b, 13, none⟩) (fun _ => rfl) _).setCell (S := fun k => k = b) (p := ⟨b, 14, none⟩) (fun _ => rfl) _)⟩

set_option maxRecDepth 100000 in
set_option maxHeartbeats 6400000 in
theorem copyField (d : FieldD) (S : Nat → Prop) (w : World) (h0 : FieldOk S w d) (h1 : d.terms.length ≤ 1000000) (h2 : d.cases.length ≤ 1000000) :
    Calls Tryz.prog 45 #[d.agg] w fun e w' => ∃ d', e = .returned d'.agg ∧ CopF w.heap.size w' d d' ∧ Below w.heap.size w w' := by
  have h := h0.old (Nat.le_refl _)
  unfold FieldD.agg
  obtain ⟨wa, hwa⟩ : ∃ wa, w.alloc (.cells #[.string (strL d.name), .int .i64 d.kind, .int .i64 d.bits, .bool d.little, .bool d.loose, .int .i64 d.low, .int .i64 d.high, .int .i64 d.base, .slice d.ta d.terms.length d.tc, .string (strL d.of_), .string (strL d.tag), .string (strL d.from_), .slice d.ca d.cases.length d.cc, .int .i64 d.check, .int .i64 d.key] 55) = wa := ⟨_, rfl⟩
  obtain ⟨w1, hw1⟩ : ∃ w1, wa.alloc (.cells #[.string ⟨#[]⟩, .int .i64 0, .int .i64 0, .bool false, .bool false, .int .i64 0, .int .i64 0, .int .i64 0, .slice none 0 0, .string ⟨#[]⟩, .string ⟨#[]⟩, .string ⟨#[]⟩, .slice none 0 0, .int .i64 0, .int .i64 0] 55) = w1 := ⟨_, rfl⟩
  have hw : (w.alloc (.cells #[.string (strL d.name), .int .i64 d.kind, .int .i64 d.bits, .bool d.little, .bool d.loose, .int .i64 d.low, .int .i64 d.high, .int .i64 d.base, .slice d.ta d.terms.length d.tc, .string (strL d.of_), .string (strL d.tag), .string (strL d.from_), .slice d.ca d.cases.length d.cc, .int .i64 d.check, .int .i64 d.key] 55)).alloc (.cells #[.string ⟨#[]⟩, .int .i64 0, .int .i64 0, .bool false, .bool false, .int .i64 0, .int .i64 0, .int .i64 0, .slice none 0 0, .string ⟨#[]⟩, .string ⟨#[]⟩, .string ⟨#[]⟩, .slice none 0 0, .int .i64 0, .int .i64 0] 55) = w1 := by rw [hwa, hw1]
  have ba : Below w.heap.size w wa := by rw [← hwa]; exact below_alloc _ _
  have b1 : Below wa.heap.size wa w1 := by rw [← hw1]; exact below_alloc _ _
  have sa : wa.heap.size = w.heap.size + 1 := by rw [← hwa]; simp
  have s1 : w1.heap.size = w.heap.size + 2 := by rw [← hw1]; simp; omega
  have hb1 : Below w.heap.size w w1 := ba.trans (b1.mono (by omega))
  have x1 : FBox w1 w.heap.size d := (by rw [← hwa]; exact FBox.new w d : FBox wa w.heap.size d).below b1 (by omega)
  have x2 : FBox w1 (w.heap.size + 1) ⟨[], 0, 0, false, false, 0, 0, 0, none, 0, [], [], [], [], none, 0, [], 0, 0⟩ := ⟨by rw [← hw1, ← sa]; exact heap_alloc_new wa _⟩
  have k1 := h.rest (Rest.below hb1) (fun _ _ e => e)
  obtain ⟨b, eb⟩ : ∃ b, w.heap.size = b := ⟨_, rfl⟩
  rw [eb] at x1 x2 s1 k1
  have HW := Lib.hid hw
  have EB := Lib.hid eb
  have HB1 := Lib.hid hb1
  have X1 := Lib.hid x1
  have X2 := Lib.hid x2
  have S1 := Lib.hid s1
  have K1 := Lib.hid k1
  have H1 := Lib.hid h1
  have H2 := Lib.hid h2
  have q8 := x1.c8
  clear h h0 h1 h2 hwa hw1 hw ba b1 sa s1 hb1 x1 x2 k1 eb
  go_enter Tryz.func45, Tryz.ntmps45
  go_upto_region 1 with fail
  rw [HW.out, EB.out]
  go_wp2_with fail
  refine (cloneT d.ta d.tc d.terms _ w1 K1.out.1 H1.out).mono ?_
  rintro e w2 ⟨A', c', rfl, ho2, hb2⟩
  have x2b := X1.out.below hb2 X1.out.lt
  have f8 := x2b.fr 8
  have c8 := x2b.c8
  have hr3 := (Rest.refl (fun k => k = b) w2).setCell (S := fun k => k = b) (p := ⟨b, 8, none⟩) (fun _ => rfl) (.slice A' d.terms.length c')
  have hx3 : FBox (w2.setCell ⟨b, 8, none⟩ (.slice A' d.terms.length c')) b { d with ta := A', tc := c' } := ⟨heap_setCell_same w2 b 8 _ 55 (.slice A' d.terms.length c') x2b.blk⟩
  have hy3 := (X2.out.below hb2 X2.out.lt).rest hr3 (show ¬ b + 1 = b by omega)
  have ho3 := hr3.row ho2 (fun k hk => by have := (own_ge ho2 k hk).1; have := S1.out; omega)
  have hk3 := (K1.out.rest (Rest.below hb2) (fun _ _ e => e)).2.rest (T := fun k => k = b) hr3 (fun k _ e => by show b ≤ k; omega)
  have hbb := (HB1.out.trans (hb2.mono HB1.out.size)).trans (hr3.toBelow w.heap.size (by have := HB1.out.size; have := hb2.size; omega) (fun k hk e => by have := EB.out; omega))
  obtain ⟨w3, hw3⟩ : ∃ w3, w2.setCell ⟨b, 8, none⟩ (.slice A' d.terms.length c') = w3 := ⟨_, rfl⟩
  rw [hw3] at hr3 hx3 hy3 ho3 hk3 hbb
  have W3 := Lib.hid hw3
  have X3 := Lib.hid hx3
  have Y3 := Lib.hid hy3
  have O3 := Lib.hid ho3
  have K3 := Lib.hid hk3
  have BB3 := Lib.hid hbb
  have SZ3 := Lib.hid (show b + 2 ≤ w3.heap.size by have := hr3.size; have := hb2.size; have := S1.out; omega)
  clear q8 ho2 hb2 x2b hr3 hx3 hy3 ho3 hk3 hbb hw3
  go_upto_region 2 with fail
  rw [W3.out]
  clear f8 c8
  have q12 : w3.cell? ⟨b, 12, none⟩ = some (.slice d.ca d.cases.length d.cc) := X3.out.c12
  go_wp2_with fail
  refine (cloneC d.ca d.cc d.cases _ w3 K3.out H2.out).mono ?_
  rintro e w4 ⟨A2, c2, rfl, ho4, hb4⟩
  obtain ⟨d', hd'⟩ : ∃ d', ({ d with ta := A', tc := c', ca := A2, cc := c2 } : FieldD) = d' := ⟨_, rfl⟩
  have x4b := X3.out.below hb4 X3.out.lt
  have f12 := x4b.fr 12
  have c12 : w4.cell? ⟨b, 12, none⟩ = some (.slice d.ca d.cases.length d.cc) := x4b.c12
  have hr5 := (Rest.refl (fun k => k = b) w4).setCell (S := fun k => k = b) (p := ⟨b, 12, none⟩) (fun _ => rfl) (.slice A2 d.cases.length c2)
  have hx5 : FBox (w4.setCell ⟨b, 12, none⟩ (.slice A2 d.cases.length c2)) b d' := by
    rw [← hd']
    exact ⟨heap_setCell_same w4 b 12 _ 55 (.slice A2 d.cases.length c2) x4b.blk⟩
  have hy5 := (Y3.out.below hb4 Y3.out.lt).rest hr5 (show ¬ b + 1 = b by omega)
  have ho5 := hr5.row (own_below O3.out hb4) (fun k hk => by have := (own_ge (own_below O3.out hb4) k hk).1; have := S1.out; omega)
  have hp5 := hr5.row ho4 (fun k hk => by have := (own_ge ho4 k hk).1; have := SZ3.out; omega)
  have hbb := (BB3.out.trans (hb4.mono BB3.out.size)).trans (hr5.toBelow w.heap.size (by have := BB3.out.size; have := hb4.size; omega) (fun k hk e => by have := EB.out; omega))
  obtain ⟨w5, hw5⟩ : ∃ w5, w4.setCell ⟨b, 12, none⟩ (.slice A2 d.cases.length c2) = w5 := ⟨_, rfl⟩
  rw [hw5] at hr5 hx5 hy5 ho5 hp5 hbb
  have W5 := Lib.hid hw5
  have X5 := Lib.hid hx5
  have Y5 := Lib.hid hy5
  have CF : Hid (CopF (b + 2) w5 d d') := Lib.hid (by
    have e1 := EB.out
    have e2 := S1.out
    have e3 := SZ3.out
    rw [← hd']
    exact ⟨rfl, own_mono ho5 (by omega), own_mono hp5 (by omega)⟩)
  have BB5 := Lib.hid hbb
  have SZ5 := Lib.hid (show b + 2 ≤ w5.heap.size by have := hr5.size; have := hb4.size; have := SZ3.out; omega)
  clear q12 ho4 hb4 x4b hr5 hx5 hy5 ho5 hp5 hbb hw5 hd'
  go_upto_region 3 with fail
  rw [W5.out]
  clear f12 c12
  have q0 := X5.out.c0
  have q1 := X5.out.c1
  have q2 := X5.out.c2
  have q3 := X5.out.c3
  have q4 := X5.out.c4
  have q5 := X5.out.c5
  have q6 := X5.out.c6
  have q7 := X5.out.c7
  have q8 := X5.out.c8
  have q9 := X5.out.c9
  have q10 := X5.out.c10
  have q11 := X5.out.c11
  have q12 := X5.out.c12
  have q13 := X5.out.c13
  have q14 := X5.out.c14
  have v15 := Y5.out.fr
  have v0 := Y5.out.c0
  have v1 := Y5.out.c1
  have v2 := Y5.out.c2
  have v3 := Y5.out.c3
  have v4 := Y5.out.c4
  have v5 := Y5.out.c5
  have v6 := Y5.out.c6
  have v7 := Y5.out.c7
  have v8 := Y5.out.c8
  have v9 := Y5.out.c9
  have v10 := Y5.out.c10
  have v11 := Y5.out.c11
  have v12 := Y5.out.c12
  have v13 := Y5.out.c13
  have v14 := Y5.out.c14
  go_wp2_with fail
  obtain ⟨h6, h7⟩ := set15 w5 (b + 1) _ d' Y5.out
  obtain ⟨w6, hw6⟩ : ∃ w6, (((((((((((((((w5.setCell ⟨b + 1, 0, none⟩ (.string (strL d'.name))).setCell ⟨b + 1, 1, none⟩ (.int .i64 d'.kind)).setCell ⟨b + 1, 2, none⟩ (.int .i64 d'.bits)).setCell ⟨b + 1, 3, none⟩ (.bool d'.little)).setCell ⟨b + 1, 4, none⟩ (.bool d'.loose)).setCell ⟨b + 1, 5, none⟩ (.int .i64 d'.low)).setCell ⟨b + 1, 6, none⟩ (.int .i64 d'.high)).setCell ⟨b + 1, 7, none⟩ (.int .i64 d'.base)).setCell ⟨b + 1, 8, none⟩ (.slice d'.ta d'.terms.length d'.tc)).setCell ⟨b + 1, 9, none⟩ (.string (strL d'.of_))).setCell ⟨b + 1, 10, none⟩ (.string (strL d'.tag))).setCell ⟨b + 1, 11, none⟩ (.string (strL d'.from_))).setCell ⟨b + 1, 12, none⟩ (.slice d'.ca d'.cases.length d'.cc)).setCell ⟨b + 1, 13, none⟩ (.int .i64 d'.check)).setCell ⟨b + 1, 14, none⟩ (.int .i64 d'.key)) = w6 := ⟨_, rfl⟩
  rw [hw6] at h6 h7 ⊢
  have p0 := h6.c0
  have p1 := h6.c1
  have p2 := h6.c2
  have p3 := h6.c3
  have p4 := h6.c4
  have p5 := h6.c5
  have p6 := h6.c6
  have p7 := h6.c7
  have p8 := h6.c8
  have p9 := h6.c9
  have p10 := h6.c10
  have p11 := h6.c11
  have p12 := h6.c12
  have p13 := h6.c13
  have p14 := h6.c14
  have hb6 := BB5.out.trans (h7.toBelow w.heap.size (by have := BB5.out.size; omega) (fun k hk e => by have := EB.out; omega))
  have C6 := Lib.hid ((CF.out.rest h7 (fun k h1 h2 e => by omega)).mono (show w.heap.size ≤ b + 2 by have := EB.out; omega))
  have HB6 := Lib.hid hb6
  refine bodyPost_ret (by simp [results, Tryz.results45, go_sem, p0, p1, p2, p3, p4, p5, p6, p7, p8, p9, p10, p11, p12, p13, p14]; try rfl) rfl ?_
  exact ⟨d', rfl, C6.out, HB6.out⟩
end Go.Proofs.YtbpkppmbbpoohaaGreat
