/- slices.Clone of terms and of cases. Conditions: the elements lie in memory, few enough. -/
import Derived.Test.YtbpkppmbbpoohaaGa
import Derived.Maps.AppendAt
import Derived.Lib.SliceRun
namespace Go.Proofs.Ytbpkppmbbpoohaa
open Go.RowKit Go.Shelf

theorem flat_get {α : Type} (cf : α → List Value) (s : Nat) (hlen : ∀ d, (cf d).length = s) : ∀ (D : List α) (j : Nat) (u : Value), (D.flatMap cf)[j]? = some u → ∃ i d k, D[i]? = some d ∧ j = i * s + k ∧ (cf d)[k]? = some u
  | [], j, u, h => by simp at h
  | d :: D, j, u, h => by
    rw [List.flatMap_cons] at h
    by_cases hj : j < s
    · rw [List.getElem?_append_left (by rw [hlen]; exact hj)] at h
      exact ⟨0, d, j, rfl, by omega, h⟩
    · rw [List.getElem?_append_right (by rw [hlen]; omega), hlen] at h
      obtain ⟨i, d', k, h1, h2, h3⟩ := flat_get cf s hlen D (j - s) u h
      exact ⟨i + 1, d', k, by simpa using h1, by rw [Nat.add_mul]; omega, h3⟩
theorem flat_at {α : Type} (cf : α → List Value) (s : Nat) (hlen : ∀ d, (cf d).length = s) : ∀ (D : List α) (i : Nat) (d : α), D[i]? = some d → ∀ k, k < s → (D.flatMap cf)[i * s + k]? = (cf d)[k]?
  | [], i, d, h, _, _ => by simp at h
  | e :: D, 0, d, h, k, hk => by
    simp only [List.getElem?_cons_zero, Option.some.injEq] at h
    subst h
    rw [List.flatMap_cons, Nat.zero_mul, Nat.zero_add, List.getElem?_append_left (by rw [hlen]; exact hk)]
  | e :: D, i + 1, d, h, k, hk => by
    rw [List.flatMap_cons, List.getElem?_append_right (by rw [hlen, Nat.add_mul]; omega), hlen, show (i + 1) * s + k - s = i * s + k by rw [Nat.add_mul]; omega]
    exact flat_at cf s hlen D i d (by simpa using h) k hk
theorem flat_len {α : Type} (cf : α → List Value) (s : Nat) (hlen : ∀ d, (cf d).length = s) : ∀ D : List α, (D.flatMap cf).length = D.length * s
  | [] => by simp
  | d :: D => by rw [List.flatMap_cons, List.length_append, hlen, flat_len cf s hlen D, List.length_cons, Nat.add_mul]; omega
/-- A row of the call's own, as a slice. -/
theorem slAt_own {α : Type} {cf : α → List Value} {s lo c : Nat} {W : World} {A : Option Addr} {D : List α} {t : TypeId} (hlen : ∀ d, (cf d).length = s) (h : W.ownsRow lo t s (.slice A D.length c) D.length (D.flatMap cf)) : SlAt cf s (fun k => k < lo) W A c D :=
  slAt_row h rfl (fun i d hd j hj => flat_at cf s hlen D i d hd j hj) hlen (fun k hk => by
    rcases h.2 with ⟨e, _⟩ | ⟨g, cap, cur, e, hg, _⟩
    · simp only [Value.slice.injEq] at e
      rw [e.1] at hk
      cases hk
    · simp only [Value.slice.injEq] at e
      rw [e.1] at hk
      simp only [Option.map_some, Option.some.injEq] at hk
      show ¬ k < lo
      omega)
theorem one_flat {α : Type} (cf : α → List Value) (h1 : ∀ d, ∀ u ∈ cf d, u.oneCell' = true) (D : List α) : ∀ u ∈ D.flatMap cf, u.oneCell' = true := fun u hu => by
  rw [List.mem_flatMap] at hu
  obtain ⟨d, _, hu⟩ := hu
  exact h1 d u hu
/-- The empty row. -/
theorem own_empty (w : World) (t s : Nat) (hs : s = s) : (w.alloc (.cells #[] t)).ownsRow w.heap.size t s (.slice (some ⟨w.heap.size, 0, none⟩) 0 0) 0 [] := by
  have := hs
  exact ⟨by simp, .inr ⟨w.heap.size, 0, #[], rfl, Nat.le_refl _, heap_alloc_new w _, Nat.le_refl _, by decide, by simp, by simp⟩⟩

theorem Try.infoTermD : (Try.prog.info? 76).map (fun i => (i.zero, i.size, i.bytes)) = some (some (.agg #[.string ⟨#[]⟩, .int .i64 0]), 2, 24) := by kernel_rfl
set_option maxRecDepth 100000 in
set_option maxHeartbeats 1600000 in
theorem cloneT (A : Option Addr) (c : Nat) (D : List TermD) (S : Nat → Prop) (w : World) (h : SlAt TermD.cells 2 S w A c D) (hn : D.length ≤ 1000000) :
    Calls Try.prog 50 #[.slice A D.length c] w fun e w' => ∃ A' c', e = .returned (.slice A' D.length c') ∧ w'.ownsRow w.heap.size 76 2 (.slice A' D.length c') D.length (D.flatMap TermD.cells) ∧ Below w.heap.size w w' := by
  cases A with
  | none =>
    have hD : D = [] := by
      cases D with
      | nil => rfl
      | cons d D =>
        obtain ⟨g, o, e, _⟩ := h.2.2 0 d rfl
        cases e
    subst hD
    clear h hn
    have heq := Lib.run_eql_slice_nil (P := Try.prog) w 23 76 none 0 c 0 0 Try.underlying23
    go_enter Try.func50, Try.ntmps50
    go_wp2_with fail
    go_ret
    exact ⟨none, 0, rfl, ⟨rfl, .inl ⟨rfl, rfl⟩⟩, Below.refl _ _⟩
  | some ad =>
    obtain ⟨i0, hi0, hz0, hz1, hz2⟩ := info_parts Try.infoTermD
    have hnews : ∀ j u, (D.flatMap TermD.cells)[j]? = some u → w.cell? (ad.add j) = some u := fun j u hu => by
      obtain ⟨i, d, k, h1, h2, h3⟩ := flat_get TermD.cells 2 (fun _ => rfl) D j u hu
      obtain ⟨g, o, e, _, hx⟩ := h.2.2 i d h1
      simp only [Option.some.injEq] at e
      subst e
      rw [add_at, h2, ← Nat.add_assoc]
      exact hx k u h3
    have hal := below_alloc w (.cells #[] 76)
    have HOW := Lib.hid (own_empty w 76 2 rfl)
    obtain ⟨n0, en0⟩ : ∃ n, w.heap.size = n := ⟨_, rfl⟩
    have HNW : Hid (∀ j u, (D.flatMap TermD.cells)[j]? = some u → (w.alloc (.cells #[] 76)).cell? (ad.add j) = some u) := Lib.hid (fun j u hu => (hal.cell (p := ad.add j) (World.block_lt_of_cell? _ _ (hnews j u hu))).trans (hnews j u hu))
    have INF := Lib.hid (And.intro hi0 (And.intro hz0 (And.intro hz1 hz2)))
    have HL := Lib.hid (flat_len TermD.cells 2 (fun _ => rfl) D)
    have HO := Lib.hid (one_flat TermD.cells (fun d u hu => by simp only [TermD.cells, List.mem_cons, List.not_mem_nil, or_false] at hu; rcases hu with rfl | rfl <;> rfl) D)
    have HAL := Lib.hid hal
    have EN := Lib.hid en0
    obtain ⟨w1, hw1⟩ : ∃ w1, w.alloc (.cells #[] 76) = w1 := ⟨_, rfl⟩
    rw [hw1] at HOW HNW HAL
    rw [en0] at HOW
    have HW := Lib.hid hw1
    have hlen := hn
    clear h hi0 hz0 hz1 hz2 hnews hal en0 hw1
    have heq := Lib.run_eql_slice_nil (P := Try.prog) w 23 76 (some ad) D.length c 0 0 Try.underlying23
    go_enter Try.func50, Try.ntmps50
    go_wp2_with (at_builtin; (try rw [HW.out, EN.out]); go_must (refine wpList_append_own_at _ rfl _ _ 23 rfl n0 76 i0 _ 2 24 Try.underlying23 INF.out.1 INF.out.2.1 INF.out.2.2.1 INF.out.2.2.2 rfl (by decide) _ _ _ rfl HOW.out ad D.length c (D.flatMap TermD.cells) rfl HL.out HNW.out HO.out (by unfold maxLen; omega) (by omega) (by have := HAL.out.size; have := EN.out; omega) ?_); go_must (intro v1 w2 hown1 hgrow1 _ _); have HWN := Lib.hid hown1; have HG := Lib.hid hgrow1; clear hown1 hgrow1)
    have ho := HWN.out
    rw [Nat.zero_add, List.nil_append] at ho
    obtain ⟨A', c', rfl⟩ := row_shape ho
    have hb : Below w.heap.size w w2 := HAL.out.grown HG.out HAL.out.size (fun k hk => by have e : some n0 = some k := hk; simp only [Option.some.injEq] at e; have := EN.out; omega)
    go_ret
    rw [EN.out]
    rw [EN.out] at hb
    exact ⟨A', c', rfl, ho, hb⟩

theorem Try.infoCaseD : (Try.prog.info? 62).map (fun i => (i.zero, i.size, i.bytes)) = some (some (.agg #[.int .i64 0, .int .i64 0, .string ⟨#[]⟩]), 3, 32) := by kernel_rfl
set_option maxRecDepth 100000 in
set_option maxHeartbeats 1600000 in
theorem cloneC (A : Option Addr) (c : Nat) (D : List CaseD) (S : Nat → Prop) (w : World) (h : SlAt CaseD.cells 3 S w A c D) (hn : D.length ≤ 1000000) :
    Calls Try.prog 51 #[.slice A D.length c] w fun e w' => ∃ A' c', e = .returned (.slice A' D.length c') ∧ w'.ownsRow w.heap.size 62 3 (.slice A' D.length c') D.length (D.flatMap CaseD.cells) ∧ Below w.heap.size w w' := by
  cases A with
  | none =>
    have hD : D = [] := by
      cases D with
      | nil => rfl
      | cons d D =>
        obtain ⟨g, o, e, _⟩ := h.2.2 0 d rfl
        cases e
    subst hD
    clear h hn
    have heq := Lib.run_eql_slice_nil (P := Try.prog) w 26 62 none 0 c 0 0 Try.underlying26
    go_enter Try.func51, Try.ntmps51
    go_wp2_with fail
    go_ret
    exact ⟨none, 0, rfl, ⟨rfl, .inl ⟨rfl, rfl⟩⟩, Below.refl _ _⟩
  | some ad =>
    obtain ⟨i0, hi0, hz0, hz1, hz2⟩ := info_parts Try.infoCaseD
    have hnews : ∀ j u, (D.flatMap CaseD.cells)[j]? = some u → w.cell? (ad.add j) = some u := fun j u hu => by
      obtain ⟨i, d, k, h1, h2, h3⟩ := flat_get CaseD.cells 3 (fun _ => rfl) D j u hu
      obtain ⟨g, o, e, _, hx⟩ := h.2.2 i d h1
      simp only [Option.some.injEq] at e
      subst e
      rw [add_at, h2, ← Nat.add_assoc]
      exact hx k u h3
    have hal := below_alloc w (.cells #[] 62)
    have HOW := Lib.hid (own_empty w 62 3 rfl)
    obtain ⟨n0, en0⟩ : ∃ n, w.heap.size = n := ⟨_, rfl⟩
    have HNW : Hid (∀ j u, (D.flatMap CaseD.cells)[j]? = some u → (w.alloc (.cells #[] 62)).cell? (ad.add j) = some u) := Lib.hid (fun j u hu => (hal.cell (p := ad.add j) (World.block_lt_of_cell? _ _ (hnews j u hu))).trans (hnews j u hu))
    have INF := Lib.hid (And.intro hi0 (And.intro hz0 (And.intro hz1 hz2)))
    have HL := Lib.hid (flat_len CaseD.cells 3 (fun _ => rfl) D)
    have HO := Lib.hid (one_flat CaseD.cells (fun d u hu => by simp only [CaseD.cells, List.mem_cons, List.not_mem_nil, or_false] at hu; rcases hu with rfl | rfl | rfl <;> rfl) D)
    have HAL := Lib.hid hal
    have EN := Lib.hid en0
    obtain ⟨w1, hw1⟩ : ∃ w1, w.alloc (.cells #[] 62) = w1 := ⟨_, rfl⟩
    rw [hw1] at HOW HNW HAL
    rw [en0] at HOW
    have HW := Lib.hid hw1
    have hlen := hn
    clear h hi0 hz0 hz1 hz2 hnews hal en0 hw1
    have heq := Lib.run_eql_slice_nil (P := Try.prog) w 26 62 (some ad) D.length c 0 0 Try.underlying26
    go_enter Try.func51, Try.ntmps51
    go_wp2_with (at_builtin; (try rw [HW.out, EN.out]); go_must (refine wpList_append_own_at _ rfl _ _ 26 rfl n0 62 i0 _ 3 32 Try.underlying26 INF.out.1 INF.out.2.1 INF.out.2.2.1 INF.out.2.2.2 rfl (by decide) _ _ _ rfl HOW.out ad D.length c (D.flatMap CaseD.cells) rfl HL.out HNW.out HO.out (by unfold maxLen; omega) (by omega) (by have := HAL.out.size; have := EN.out; omega) ?_); go_must (intro v1 w2 hown1 hgrow1 _ _); have HWN := Lib.hid hown1; have HG := Lib.hid hgrow1; clear hown1 hgrow1)
    have ho := HWN.out
    rw [Nat.zero_add, List.nil_append] at ho
    obtain ⟨A', c', rfl⟩ := row_shape ho
    have hb : Below w.heap.size w w2 := HAL.out.grown HG.out HAL.out.size (fun k hk => by have e : some n0 = some k := hk; simp only [Option.some.injEq] at e; have := EN.out; omega)
    go_ret
    rw [EN.out]
    rw [EN.out] at hb
    exact ⟨A', c', rfl, ho, hb⟩
end Go.Proofs.Ytbpkppmbbpoohaa
