/- Fields, messages and a definition are copied. Conditions: they lie in memory, few enough. -/
import Derived.Test.YtbpkppmbbpoohaaGreatCa
import Derived.OwnWalk
namespace Go.Proofs.YtbpkppmbbpoohaaGreat
open Go.RowKit Go.Shelf

/-- Cells stored one behind the other. -/
def setsAt (W : World) (g : Nat) : Nat → List Value → World
  | _, [] => W
  | o, v :: vs => setsAt (W.setCell ⟨g, o, none⟩ v) g (o + 1) vs
theorem setsAt_spec (g : Nat) (T : TypeId) : ∀ (vs : List Value) (W : World) (o : Nat) (cur : Array Value), W.heap[g]? = some (.cells cur T (0, 0)) →
    ∃ cur', (setsAt W g o vs).heap[g]? = some (.cells cur' T (0, 0)) ∧ cur'.size = cur.size ∧ (∀ k, k < o ∨ o + vs.length ≤ k → cur'[k]? = cur[k]?) ∧ (∀ j u, vs[j]? = some u → o + j < cur.size → cur'[o + j]? = some u) ∧ Rest (fun k => k = g) W (setsAt W g o vs)
  | [], W, o, cur, h => ⟨cur, h, rfl, fun _ _ => rfl, fun j u hu => by simp at hu, Rest.refl _ _⟩
  | v :: vs, W, o, cur, h => by
    have h1 := heap_setCell_same W g o cur T v h
    obtain ⟨cur', a1, a2, a3, a4, a5⟩ := setsAt_spec g T vs (W.setCell ⟨g, o, none⟩ v) (o + 1) _ h1
    have hr : Rest (fun k => k = g) W (W.setCell ⟨g, o, none⟩ v) := (Rest.refl (fun k => k = g) W).setCell (S := fun k => k = g) (p := ⟨g, o, none⟩) (fun _ => rfl) v
    rw [Array.size_setIfInBounds] at a2 a4
    refine ⟨cur', a1, a2, fun k hk => ?_, fun j u hu hj => ?_, hr.trans a5 (fun _ _ e => e)⟩
    · simp only [List.length_cons] at hk
      rw [a3 k (by omega), Array.getElem?_setIfInBounds_ne (by omega)]
    · match j, hu with
      | 0, hu =>
        simp only [List.getElem?_cons_zero, Option.some.injEq] at hu
        subst hu
        rw [a3 (o + 0) (by omega), Nat.add_zero, Array.getElem?_setIfInBounds_self_of_lt (by omega)]
      | j + 1, hu =>
        have := a4 j u (by simpa using hu) (by omega)
        rw [show o + (j + 1) = o + 1 + j by omega]
        exact this
theorem row_of {α : Type} (cf : α → List Value) (s : Nat) (hlen : ∀ d, (cf d).length = s) {n : Nat} {cur : Array Value} {D : List α} (h1 : cur.size = n * s) (h2 : D.length = n) (h3 : ∀ (j : Nat) (d : α), D[j]? = some d → ∀ k u, (cf d)[k]? = some u → cur[j * s + k]? = some u) : cur.toList.take (n * s) = D.flatMap cf := by
  apply List.ext_getElem?
  intro k
  by_cases hk : k < n * s
  · rw [List.getElem?_take_of_lt hk, Array.getElem?_toList]
    have hl := flat_len cf s hlen D
    obtain ⟨u, hu⟩ : ∃ u, (D.flatMap cf)[k]? = some u := ⟨_, List.getElem?_eq_getElem (by rw [hl, h2]; exact hk)⟩
    obtain ⟨i, d, k', a1, a2, a3⟩ := flat_get cf s hlen D k u hu
    rw [hu, a2]
    exact h3 i d a1 k' u a3
  · rw [List.getElem?_eq_none (by simp; omega), List.getElem?_eq_none (by rw [flat_len cf s hlen D, h2]; omega)]

/-- Half a row copied. -/
structure Half {α : Type} (cf : α → List Value) (s : Nat) (T : TypeId) (R : World → α → α → Prop) (w wr : World) (g n : Nat) (D D' : List α) : Prop where
  row : ∃ cur, wr.heap[g]? = some (.cells cur T (0, 0)) ∧ cur.size = n * s ∧ ∀ (j : Nat) (d : α), D'[j]? = some d → ∀ k u, (cf d)[k]? = some u → cur[j * s + k]? = some u
  cop : ∀ (j : Nat) (d d' : α), D[j]? = some d → D'[j]? = some d' → R wr d d'
  bel : Below g w wr
section
variable {α : Type} {cf : α → List Value} {s : Nat} {T : TypeId} {R : World → α → α → Prop} {w wr wx : World} {g n : Nat} {D D' : List α}
theorem Half.lt (h : Half cf s T R w wr g n D D') : g < wr.heap.size := by
  obtain ⟨cur, h1, _⟩ := h.row
  exact (Array.getElem?_eq_some_iff.1 h1).1
theorem Half.later (h : Half cf s T R w wr g n D D') (hR : ∀ d d', R wr d d' → R wx d d') (hb : Below wr.heap.size wr wx) : Half cf s T R w wx g n D D' := by
  have hl := h.lt
  obtain ⟨cur, h1, h2, h3⟩ := h.row
  exact ⟨⟨cur, (hb.block g hl).trans h1, h2, h3⟩, fun j d d' a b => hR _ _ (h.cop j d d' a b), h.bel.trans (hb.mono (by omega))⟩
theorem Half.store (h : Half cf s T R w wr g n D D') (hlen : ∀ d, (cf d).length = s) (d d' : α) (hd : D[D'.length]? = some d) (hn : D'.length < n) (hr : R wr d d') (hR : ∀ a b, R wr a b → R (setsAt wr g (D'.length * s) (cf d')) a b) :
    Half cf s T R w (setsAt wr g (D'.length * s) (cf d')) g n D (D' ++ [d']) := by
  have hl := h.lt
  obtain ⟨cur, h1, h2, h3⟩ := h.row
  obtain ⟨cur', a1, a2, a3, a4, a5⟩ := setsAt_spec g T (cf d') wr (D'.length * s) cur h1
  have hms : (D'.length + 1) * s ≤ n * s := Nat.mul_le_mul_right s (by omega)
  rw [Nat.add_mul, Nat.one_mul] at hms
  refine ⟨⟨cur', a1, a2.trans h2, fun j e he k u hu => ?_⟩, fun j e e' he he' => ?_, h.bel.trans (a5.toBelow g (by omega) (fun k hk e => by omega))⟩
  · have hk : k < s := by
      have := (List.getElem?_eq_some_iff.1 hu).1
      rwa [hlen] at this
    by_cases hj : j < D'.length
    · rw [List.getElem?_append_left hj] at he
      have hjs : (j + 1) * s ≤ D'.length * s := Nat.mul_le_mul_right s (by omega)
      rw [Nat.add_mul, Nat.one_mul] at hjs
      rw [a3 (j * s + k) (by omega)]
      exact h3 j e he k u hu
    · have hj2 : j = D'.length := by
        have := (List.getElem?_eq_some_iff.1 he).1
        simp at this
        omega
      subst hj2
      rw [List.getElem?_append_right (Nat.le_refl _), Nat.sub_self, List.getElem?_cons_zero, Option.some.injEq] at he
      subst he
      exact a4 k u hu (by omega)
  · by_cases hj : j < D'.length
    · rw [List.getElem?_append_left hj] at he'
      exact hR _ _ (h.cop j e e' he he')
    · have hj2 : j = D'.length := by
        have := (List.getElem?_eq_some_iff.1 he').1
        simp at this
        omega
      subst hj2
      rw [List.getElem?_append_right (Nat.le_refl _), Nat.sub_self, List.getElem?_cons_zero, Option.some.injEq] at he'
      subst he'
      rw [hd, Option.some.injEq] at he
      subst he
      exact hR _ _ hr
theorem Half.own (h : Half cf s T R w wr g n D D') (hlen : ∀ d, (cf d).length = s) (hn : D'.length = n) (hm : n ≤ 1000000) : wr.ownsRow g T s (.slice (some ⟨g, 0, none⟩) n n) n (D'.flatMap cf) := by
  obtain ⟨cur, h1, h2, h3⟩ := h.row
  exact ⟨by rw [flat_len cf s hlen, hn], .inr ⟨g, n, cur, rfl, Nat.le_refl _, h1, Nat.le_refl _, by unfold maxLen; omega, h2, row_of cf s hlen h2 hn h3⟩⟩
theorem Half.cellAt (h : Half cf s T R w wr g n D D') (j k : Nat) (hj : j < n) (hk : k < s) : (∃ u, wr.cell? ⟨g, j * s + k, none⟩ = some u) ∧ ∀ o, wr.frozen? ⟨g, o, none⟩ = false := by
  obtain ⟨cur, h1, h2, h3⟩ := h.row
  have hms : (j + 1) * s ≤ n * s := Nat.mul_le_mul_right s (by omega)
  rw [Nat.add_mul, Nat.one_mul] at hms
  refine ⟨⟨cur[j * s + k]'(by omega), ?_⟩, fun o => by simp [World.frozen?, h1]⟩
  simp only [World.cell?, h1]
  simp [Array.getElem?_eq_getElem (show j * s + k < cur.size by omega)]
end

theorem Tryz.infoFieldD : (Tryz.prog.info? 55).map (fun i => (i.zero, i.size, i.bytes)) = some (some (.agg #[.string ⟨#[]⟩, .int .i64 0, .int .i64 0, .bool false, .bool false, .int .i64 0, .int .i64 0, .int .i64 0, .slice none 0 0, .string ⟨#[]⟩, .string ⟨#[]⟩, .string ⟨#[]⟩, .slice none 0 0, .int .i64 0, .int .i64 0]), 15, 176) := by kernel_rfl
theorem Tryz.infoMsgD : (Tryz.prog.info? 36).map (fun i => (i.zero, i.size, i.bytes)) = some (some (.agg #[.string ⟨#[]⟩, .slice none 0 0]), 2, 40) := by kernel_rfl
theorem Tryz.entCopyF : ∀ args w, (callFunc 45 args).run Tryz.prog w = .ok (.enter 45 args) w := enters_of Tryz.func45 (by kernel_rfl) rfl
theorem Tryz.entCopyM : ∀ args w, (callFunc 43 args).run Tryz.prog w = .ok (.enter 43 args) w := enters_of Tryz.func43 (by kernel_rfl) rfl
/-- Few enough to be copied. -/
def FewF (d : FieldD) : Prop := d.terms.length ≤ 1000000 ∧ d.cases.length ≤ 1000000

set_option maxRecDepth 100000 in
set_option maxHeartbeats 6400000 in
theorem replacedF (A : Option Addr) (c : Nat) (D : List FieldD) (S : Nat → Prop) (w : World) (h : FieldsAt S w A c D) (hn : D.length ≤ 1000000) (hk : ∀ d ∈ D, FewF d) :
    Calls Tryz.prog 44 #[.slice A D.length c, .func (.func 45) #[] #[]] w fun e w' => ∃ D' : List FieldD, e = .returned (.slice (some ⟨w.heap.size, 0, none⟩) D.length D.length) ∧ D'.length = D.length ∧ w'.ownsRow w.heap.size 55 15 (.slice (some ⟨w.heap.size, 0, none⟩) D.length D.length) D.length (D'.flatMap FieldD.cells) ∧ (∀ (j : Nat) (d d' : FieldD), D[j]? = some d → D'[j]? = some d' → CopF (w.heap.size + 1) w' d d') ∧ Below w.heap.size w w' := by
  obtain ⟨i0, hi0, hz0, hz1, hz2⟩ := info_parts Tryz.infoFieldD
  have INF := Lib.hid (And.intro hi0 (And.intro hz0 (And.intro hz1 hz2)))
  have HBY := Lib.hid (show i0.bytes * D.length ≤ 281474976710656 by rw [hz2]; omega)
  have H := Lib.hid h
  have HK := Lib.hid hk
  obtain ⟨g0, eg0⟩ : ∃ g0, w.heap.size = g0 := ⟨_, rfl⟩
  rw [eg0]
  have EG := Lib.hid eg0
  clear hi0 hz0 hz1 hz2 h hk eg0
  go_enter Tryz.func44, Tryz.ntmps44
  go_upto_region 1 with fail
  go_wp2_with (refine wpList_make_full w rfl _ _ 34 rfl w.heap.size 55 i0 _ 15 Tryz.underlying34 INF.out.1 INF.out.2.1 INF.out.2.2.1 .i64 .i64 ((D.length : Nat) : Int) ((D.length : Nat) : Int) D.length rfl rfl rfl rfl HBY.out (by unfold maxLen; omega) (Nat.le_refl _) ?_; intro w1 hown hgrow; have HO1 := Lib.hid hown; have HG1 := Lib.hid hgrow; clear hown hgrow)
  rw [EG.out]
  go_loopw [13] (fun x13 wr => ∃ i : Nat, i ≤ D.length ∧ x13 = .int .i64 ((i : Nat) : Int) ∧ ∃ D' : List FieldD, D'.length = i ∧ Half FieldD.cells 15 55 (CopF (g0 + 1)) w wr g0 D.length D D') (fun x13 _ => D.length - (intOf x13).toNat)
  case atStart =>
    have ho := HO1.out
    refine ⟨0, Nat.zero_le _, rfl, [], rfl, ?_, fun j d d' _ hd' => by simp at hd', ?_⟩
    · rcases ho.2 with ⟨e, _⟩ | ⟨g, cap, cur, e, _, hh, _, _, hs, _⟩
      · cases e
      · simp only [Value.slice.injEq, Option.some.injEq, Addr.mk.injEq, and_true, true_and] at e
        obtain ⟨e1, e2⟩ := e
        rw [← e1, EG.out] at hh
        rw [← e2] at hs
        exact ⟨cur, hh, hs, fun j d hd => by simp at hd⟩
    · have hb : Below w.heap.size w w1 := (Below.refl _ _).grown HG1.out (Nat.le_refl _) (fun k e => by cases e)
      rw [EG.out] at hb
      exact hb
  case round =>
    obtain ⟨i, hi, rfl, D', hD', hf⟩ := hrel
    have HF := Lib.hid hf
    have LD := Lib.hid hD'
    clear hf hD' HO1 HG1
    by_cases hlt : i < D.length
    · obtain ⟨d, hd⟩ : ∃ d, D[i]? = some d := ⟨_, List.getElem?_eq_getElem hlt⟩
      have hbw : Below w.heap.size w wr := by rw [EG.out]; exact HF.out.bel
      obtain ⟨g, o, rfl, hx⟩ := (H.out.1.rest (Rest.below hbw) (fun _ _ e => e)).at_ hd
      have x0 : wr.cell? ⟨g, o + i * 15, none⟩ = some (.string (strL d.name)) := hx 0 _ rfl
      have x1 : wr.cell? ⟨g, o + i * 15 + 1, none⟩ = some (.int .i64 d.kind) := hx 1 _ rfl
      have x2 : wr.cell? ⟨g, o + i * 15 + 2, none⟩ = some (.int .i64 d.bits) := hx 2 _ rfl
      have x3 : wr.cell? ⟨g, o + i * 15 + 3, none⟩ = some (.bool d.little) := hx 3 _ rfl
      have x4 : wr.cell? ⟨g, o + i * 15 + 4, none⟩ = some (.bool d.loose) := hx 4 _ rfl
      have x5 : wr.cell? ⟨g, o + i * 15 + 5, none⟩ = some (.int .i64 d.low) := hx 5 _ rfl
      have x6 : wr.cell? ⟨g, o + i * 15 + 6, none⟩ = some (.int .i64 d.high) := hx 6 _ rfl
      have x7 : wr.cell? ⟨g, o + i * 15 + 7, none⟩ = some (.int .i64 d.base) := hx 7 _ rfl
      have x8 : wr.cell? ⟨g, o + i * 15 + 8, none⟩ = some (.slice d.ta d.terms.length d.tc) := hx 8 _ rfl
      have x9 : wr.cell? ⟨g, o + i * 15 + 9, none⟩ = some (.string (strL d.of_)) := hx 9 _ rfl
      have x10 : wr.cell? ⟨g, o + i * 15 + 10, none⟩ = some (.string (strL d.tag)) := hx 10 _ rfl
      have x11 : wr.cell? ⟨g, o + i * 15 + 11, none⟩ = some (.string (strL d.from_)) := hx 11 _ rfl
      have x12 : wr.cell? ⟨g, o + i * 15 + 12, none⟩ = some (.slice d.ca d.cases.length d.cc) := hx 12 _ rfl
      have x13 : wr.cell? ⟨g, o + i * 15 + 13, none⟩ = some (.int .i64 d.check) := hx 13 _ rfl
      have x14 : wr.cell? ⟨g, o + i * 15 + 14, none⟩ = some (.int .i64 d.key) := hx 14 _ rfl
      have hal := below_alloc wr (.cells #[.string (strL d.name), .int .i64 d.kind, .int .i64 d.bits, .bool d.little, .bool d.loose, .int .i64 d.low, .int .i64 d.high, .int .i64 d.base, .slice d.ta d.terms.length d.tc, .string (strL d.of_), .string (strL d.tag), .string (strL d.from_), .slice d.ca d.cases.length d.cc, .int .i64 d.check, .int .i64 d.key] 55)
      have hbx : (wr.alloc (.cells #[.string (strL d.name), .int .i64 d.kind, .int .i64 d.bits, .bool d.little, .bool d.loose, .int .i64 d.low, .int .i64 d.high, .int .i64 d.base, .slice d.ta d.terms.length d.tc, .string (strL d.of_), .string (strL d.tag), .string (strL d.from_), .slice d.ca d.cases.length d.cc, .int .i64 d.check, .int .i64 d.key] 55)).heap[wr.heap.size]? = some (.cells #[.string (strL d.name), .int .i64 d.kind, .int .i64 d.bits, .bool d.little, .bool d.loose, .int .i64 d.low, .int .i64 d.high, .int .i64 d.base, .slice d.ta d.terms.length d.tc, .string (strL d.of_), .string (strL d.tag), .string (strL d.from_), .slice d.ca d.cases.length d.cc, .int .i64 d.check, .int .i64 d.key] 55 (0, 0)) := heap_alloc_new wr _
      obtain ⟨tb, etb⟩ : ∃ tb, wr.heap.size = tb := ⟨_, rfl⟩
      obtain ⟨w2, hw2⟩ : ∃ w2, wr.alloc (.cells #[.string (strL d.name), .int .i64 d.kind, .int .i64 d.bits, .bool d.little, .bool d.loose, .int .i64 d.low, .int .i64 d.high, .int .i64 d.base, .slice d.ta d.terms.length d.tc, .string (strL d.of_), .string (strL d.tag), .string (strL d.from_), .slice d.ca d.cases.length d.cc, .int .i64 d.check, .int .i64 d.key] 55) = w2 := ⟨_, rfl⟩
      rw [hw2] at hal hbx
      rw [etb] at hbx
      have q0 : w2.cell? ⟨tb, 0, none⟩ = some (.string (strL d.name)) := by simp [World.cell?, hbx]
      have q1 : w2.cell? ⟨tb, 1, none⟩ = some (.int .i64 d.kind) := by simp [World.cell?, hbx]
      have q2 : w2.cell? ⟨tb, 2, none⟩ = some (.int .i64 d.bits) := by simp [World.cell?, hbx]
      have q3 : w2.cell? ⟨tb, 3, none⟩ = some (.bool d.little) := by simp [World.cell?, hbx]
      have q4 : w2.cell? ⟨tb, 4, none⟩ = some (.bool d.loose) := by simp [World.cell?, hbx]
      have q5 : w2.cell? ⟨tb, 5, none⟩ = some (.int .i64 d.low) := by simp [World.cell?, hbx]
      have q6 : w2.cell? ⟨tb, 6, none⟩ = some (.int .i64 d.high) := by simp [World.cell?, hbx]
      have q7 : w2.cell? ⟨tb, 7, none⟩ = some (.int .i64 d.base) := by simp [World.cell?, hbx]
      have q8 : w2.cell? ⟨tb, 8, none⟩ = some (.slice d.ta d.terms.length d.tc) := by simp [World.cell?, hbx]
      have q9 : w2.cell? ⟨tb, 9, none⟩ = some (.string (strL d.of_)) := by simp [World.cell?, hbx]
      have q10 : w2.cell? ⟨tb, 10, none⟩ = some (.string (strL d.tag)) := by simp [World.cell?, hbx]
      have q11 : w2.cell? ⟨tb, 11, none⟩ = some (.string (strL d.from_)) := by simp [World.cell?, hbx]
      have q12 : w2.cell? ⟨tb, 12, none⟩ = some (.slice d.ca d.cases.length d.cc) := by simp [World.cell?, hbx]
      have q13 : w2.cell? ⟨tb, 13, none⟩ = some (.int .i64 d.check) := by simp [World.cell?, hbx]
      have q14 : w2.cell? ⟨tb, 14, none⟩ = some (.int .i64 d.key) := by simp [World.cell?, hbx]
      have hok := (H.out.2 d (List.mem_of_getElem? hd)).rest (Rest.below (hbw.trans (hal.mono hbw.size))) (fun _ _ e => e)
      have HC := Lib.hid (copyField d S w2 hok (HK.out d (List.mem_of_getElem? hd)).1 (HK.out d (List.mem_of_getElem? hd)).2)
      have eg := Tryz.entCopyF
      unfold FieldD.agg at HC
      have W2 := Lib.hid hw2
      have ETB := Lib.hid etb
      have HAL := Lib.hid hal
      have HD := Lib.hid hd
      clear hx hbx hal hok hw2 etb hd hbw
      go_upto_region 5 with fail
      rw [W2.out, ETB.out]
      clear x0 x1 x2 x3 x4 x5 x6 x7 x8 x9 x10 x11 x12 x13 x14
      go_wp2_with fail
      refine HC.out.mono ?_
      rintro e w3 ⟨d', rfl, hcf, hb3⟩
      clear HC q0 q1 q2 q3 q4 q5 q6 q7 q8 q9 q10 q11 q12 q13 q14
      have hb03 := HAL.out.trans (hb3.mono HAL.out.size)
      have hf3 := HF.out.later (wx := w3) (fun a b hab => CopF.below hab hb03) hb03
      have HF3 := Lib.hid hf3
      have CF := Lib.hid (CopF.mono hcf (show g0 + 1 ≤ w2.heap.size by have := HF.out.lt; have := HAL.out.size; omega))
      clear hcf hb3 hb03 hf3
      obtain ⟨u0, hu0⟩ := (HF3.out.cellAt i 0 hlt (by omega)).1
      obtain ⟨u1, hu1⟩ := (HF3.out.cellAt i 1 hlt (by omega)).1
      obtain ⟨u2, hu2⟩ := (HF3.out.cellAt i 2 hlt (by omega)).1
      obtain ⟨u3, hu3⟩ := (HF3.out.cellAt i 3 hlt (by omega)).1
      obtain ⟨u4, hu4⟩ := (HF3.out.cellAt i 4 hlt (by omega)).1
      obtain ⟨u5, hu5⟩ := (HF3.out.cellAt i 5 hlt (by omega)).1
      obtain ⟨u6, hu6⟩ := (HF3.out.cellAt i 6 hlt (by omega)).1
      obtain ⟨u7, hu7⟩ := (HF3.out.cellAt i 7 hlt (by omega)).1
      obtain ⟨u8, hu8⟩ := (HF3.out.cellAt i 8 hlt (by omega)).1
      obtain ⟨u9, hu9⟩ := (HF3.out.cellAt i 9 hlt (by omega)).1
      obtain ⟨u10, hu10⟩ := (HF3.out.cellAt i 10 hlt (by omega)).1
      obtain ⟨u11, hu11⟩ := (HF3.out.cellAt i 11 hlt (by omega)).1
      obtain ⟨u12, hu12⟩ := (HF3.out.cellAt i 12 hlt (by omega)).1
      obtain ⟨u13, hu13⟩ := (HF3.out.cellAt i 13 hlt (by omega)).1
      obtain ⟨u14, hu14⟩ := (HF3.out.cellAt i 14 hlt (by omega)).1
      rw [Nat.add_zero] at hu0
      have hfr := (HF3.out.cellAt i 0 hlt (by omega)).2
      dsimp only
      go_wp2_with fail
      have hst := HF3.out.store (fun _ => rfl) d d' (by rw [LD.out]; exact HD.out) (by rw [LD.out]; exact hlt) CF.out (fun a b hab => CopF.rest hab (setsAt_spec g0 55 (FieldD.cells d') w3 _ _ HF3.out.row.choose_spec.1).choose_spec.2.2.2.2 (fun k h1 _ e => by omega))
      rw [LD.out] at hst
      obtain ⟨w4, hw4⟩ : ∃ w4, (((((((((((((((w3.setCell ⟨g0, i * 15, none⟩ (.string (strL d'.name))).setCell ⟨g0, i * 15 + 1, none⟩ (.int .i64 d'.kind)).setCell ⟨g0, i * 15 + 2, none⟩ (.int .i64 d'.bits)).setCell ⟨g0, i * 15 + 3, none⟩ (.bool d'.little)).setCell ⟨g0, i * 15 + 4, none⟩ (.bool d'.loose)).setCell ⟨g0, i * 15 + 5, none⟩ (.int .i64 d'.low)).setCell ⟨g0, i * 15 + 6, none⟩ (.int .i64 d'.high)).setCell ⟨g0, i * 15 + 7, none⟩ (.int .i64 d'.base)).setCell ⟨g0, i * 15 + 8, none⟩ (.slice d'.ta d'.terms.length d'.tc)).setCell ⟨g0, i * 15 + 9, none⟩ (.string (strL d'.of_))).setCell ⟨g0, i * 15 + 10, none⟩ (.string (strL d'.tag))).setCell ⟨g0, i * 15 + 11, none⟩ (.string (strL d'.from_))).setCell ⟨g0, i * 15 + 12, none⟩ (.slice d'.ca d'.cases.length d'.cc)).setCell ⟨g0, i * 15 + 13, none⟩ (.int .i64 d'.check)).setCell ⟨g0, i * 15 + 14, none⟩ (.int .i64 d'.key)) = w4 := ⟨_, rfl⟩
      have he : setsAt w3 g0 (i * 15) (FieldD.cells d') = w4 := hw4
      rw [he] at hst
      rw [hw4]
      have HS4 := Lib.hid hst
      have LD4 := Lib.hid (show (D' ++ [d']).length = i + 1 by rw [List.length_append, LD.out]; rfl)
      clear hst he hw4 hfr hu0 hu1 hu2 hu3 hu4 hu5 hu6 hu7 hu8 hu9 hu10 hu11 hu12 hu13 hu14
      go_roundw
      case rel => exact ⟨i + 1, by omega, by go_num, D' ++ [d'], LD4.out, HS4.out⟩
      case measure => simp [intOf]; omega
    · obtain rfl : i = D.length := by omega
      go_wp2_with fail
      go_ret
      exact ⟨D', rfl, LD.out, HF.out.own (fun _ => rfl) LD.out hn, HF.out.cop, HF.out.bel⟩

/-- A message and its copy, whose fields lie in rows of its own. -/
structure CopM (lo : Nat) (W : World) (m m' : MsgD) : Prop where
  name : m'.name = m.name
  len : m'.fields.length = m.fields.length
  row : W.ownsRow lo 55 15 (.slice m'.fa m'.fields.length m'.fc) m'.fields.length (m'.fields.flatMap FieldD.cells)
  cop : ∀ (j : Nat) (d d' : FieldD), m.fields[j]? = some d → m'.fields[j]? = some d' → CopF lo W d d'
theorem CopM.rest {lo : Nat} {S : Nat → Prop} {W W' : World} {m m' : MsgD} (h : CopM lo W m m') (hr : Rest S W W') (hs : ∀ k, lo ≤ k → k < W.heap.size → ¬ S k) : CopM lo W' m m' :=
  ⟨h.name, h.len, hr.row h.row (fun k hk => hs k (own_ge h.row k hk).1 (own_ge h.row k hk).2), fun j d d' a b => (h.cop j d d' a b).rest hr hs⟩
theorem CopM.below {lo : Nat} {W W' : World} {m m' : MsgD} (h : CopM lo W m m') (hb : Below W.heap.size W W') : CopM lo W' m m' := ⟨h.name, h.len, own_below h.row hb, fun j d d' a b => (h.cop j d d' a b).below hb⟩
theorem CopM.mono {lo lo' : Nat} {W : World} {m m' : MsgD} (h : CopM lo W m m') (hl : lo' ≤ lo) : CopM lo' W m m' := ⟨h.name, h.len, own_mono h.row hl, fun j d d' a b => (h.cop j d d' a b).mono hl⟩
theorem CopM.ok {lo : Nat} {W : World} {m m' : MsgD} (h : CopM lo W m m') : MsgOk (fun k => k < lo) W m' := ⟨slAt_own (fun _ => rfl) h.row, fun d' hd' => by
  obtain ⟨j, hj, e⟩ := List.getElem_of_mem hd'
  have hj' : m'.fields[j]? = some d' := by rw [List.getElem?_eq_getElem hj, e]
  exact (h.cop j _ d' (List.getElem?_eq_getElem (by rw [← h.len]; exact hj)) hj').ok⟩
theorem MsgOk.rest {S T : Nat → Prop} {W W' : World} {m : MsgD} (h : MsgOk S W m) (hr : Rest T W W') (hT : ∀ i, i < W.heap.size → T i → S i) : MsgOk S W' m := FieldsAt.rest h hr hT
def FewM (m : MsgD) : Prop := m.fields.length ≤ 1000000 ∧ ∀ d ∈ m.fields, FewF d

set_option maxRecDepth 100000 in
set_option maxHeartbeats 3200000 in
theorem copyMsg (m : MsgD) (S : Nat → Prop) (w : World) (h : MsgOk S w m) (hk : FewM m) :
    Calls Tryz.prog 43 #[m.agg] w fun e w' => ∃ m', e = .returned m'.agg ∧ CopM w.heap.size w' m m' ∧ Below w.heap.size w w' := by
  obtain ⟨nm, fa, fc, D⟩ := m
  unfold MsgD.agg
  dsimp only
  obtain ⟨wa, hwa⟩ : ∃ wa, w.alloc (.cells #[.string (strL nm), .slice fa D.length fc] 36) = wa := ⟨_, rfl⟩
  obtain ⟨w1, hw1⟩ : ∃ w1, wa.alloc (.cells #[.string ⟨#[]⟩, .slice none 0 0] 36) = w1 := ⟨_, rfl⟩
  have hw : (w.alloc (.cells #[.string (strL nm), .slice fa D.length fc] 36)).alloc (.cells #[.string ⟨#[]⟩, .slice none 0 0] 36) = w1 := by rw [hwa, hw1]
  have ba : Below w.heap.size w wa := by rw [← hwa]; exact below_alloc _ _
  have b1 : Below wa.heap.size wa w1 := by rw [← hw1]; exact below_alloc _ _
  have sa : wa.heap.size = w.heap.size + 1 := by rw [← hwa]; simp
  have s1 : w1.heap.size = w.heap.size + 2 := by rw [← hw1]; simp; omega
  have hb1 : Below w.heap.size w w1 := ba.trans (b1.mono (by omega))
  have x1 : w1.heap[w.heap.size]? = some (.cells #[.string (strL nm), .slice fa D.length fc] 36 (0, 0)) := (b1.block _ (by omega)).trans (by rw [← hwa]; exact heap_alloc_new w _)
  have x2 : w1.heap[w.heap.size + 1]? = some (.cells #[.string ⟨#[]⟩, .slice none 0 0] 36 (0, 0)) := by rw [← hw1, ← sa]; exact heap_alloc_new wa _
  have k1 : FieldsAt S w1 fa fc D := FieldsAt.rest h (Rest.below hb1) (fun _ _ e => e)
  obtain ⟨b, eb⟩ : ∃ b, w.heap.size = b := ⟨_, rfl⟩
  rw [eb] at x1 x2 s1
  have HRP := replacedF fa fc D S w1 k1 hk.1 hk.2
  have HW := Lib.hid hw
  have EB := Lib.hid eb
  have HB1 := Lib.hid hb1
  have X1 := Lib.hid x1
  have X2 := Lib.hid x2
  have S1 := Lib.hid s1
  have HRP := Lib.hid HRP
  have q1 : w1.cell? ⟨b, 1, none⟩ = some (.slice fa D.length fc) := by simp [World.cell?, x1]
  clear h hk hwa hw1 hw ba b1 sa s1 hb1 x1 x2 k1 eb
  go_enter Tryz.func43, Tryz.ntmps43
  go_upto_region 1 with fail
  rw [HW.out, EB.out]
  go_wp2_with fail
  refine HRP.out.mono ?_
  rintro e w2 ⟨D', rfl, hl2, ho2, hc2, hb2⟩
  obtain ⟨g0, eg0⟩ : ∃ g0, w1.heap.size = g0 := ⟨_, rfl⟩
  rw [eg0] at ho2 hc2 ⊢
  have hx2 := (hb2.block b (by have := S1.out; omega)).trans X1.out
  have hy2 := (hb2.block (b + 1) (by have := S1.out; omega)).trans X2.out
  have f1 : w2.frozen? ⟨b, 1, none⟩ = false := by simp [World.frozen?, hx2]
  have c1 : w2.cell? ⟨b, 1, none⟩ = some (.slice fa D.length fc) := by simp [World.cell?, hx2]
  have hr3 := (Rest.refl (fun k => k = b) w2).setCell (S := fun k => k = b) (p := ⟨b, 1, none⟩) (fun _ => rfl) (.slice (some ⟨g0, 0, none⟩) D.length D.length)
  have hx3 := heap_setCell_same w2 b 1 _ 36 (.slice (some ⟨g0, 0, none⟩) D.length D.length) hx2
  simp only [List.setIfInBounds_toArray, List.set_cons_zero, List.set_cons_succ] at hx3
  have hy3 := (hr3.block (b + 1) (Array.getElem?_eq_some_iff.1 hy2).1 (show ¬ b + 1 = b by omega)).trans hy2
  have ho3 := hr3.row ho2 (fun k hk => by have := (own_ge ho2 k hk).1; have := S1.out; omega)
  have hc3 : ∀ (j : Nat) (d d' : FieldD), D[j]? = some d → D'[j]? = some d' → CopF (b + 2) (w2.setCell ⟨b, 1, none⟩ (.slice (some ⟨g0, 0, none⟩) D.length D.length)) d d' := fun j d d' a c => ((hc2 j d d' a c).rest hr3 (fun k h1 h2 e => by have := S1.out; omega)).mono (by have := S1.out; omega)
  have hbb := (HB1.out.trans (hb2.mono HB1.out.size)).trans (hr3.toBelow w.heap.size (by have := HB1.out.size; have := hb2.size; omega) (fun k hk e => by have := EB.out; omega))
  obtain ⟨w3, hw3⟩ : ∃ w3, w2.setCell ⟨b, 1, none⟩ (.slice (some ⟨g0, 0, none⟩) D.length D.length) = w3 := ⟨_, rfl⟩
  rw [hw3] at hr3 hx3 hy3 ho3 hc3 hbb
  have W3 := Lib.hid hw3
  have Y3 := Lib.hid hy3
  have O3 := Lib.hid ho3
  have C3 := Lib.hid hc3
  have L3 := Lib.hid hl2
  have BB3 := Lib.hid hbb
  have EG := Lib.hid eg0
  have SZ3 := Lib.hid (show b + 2 ≤ w3.heap.size by have := hr3.size; have := hb2.size; have := S1.out; omega)
  have z0 : w3.cell? ⟨b, 0, none⟩ = some (.string (strL nm)) := by simp [World.cell?, hx3]
  have z1 : w3.cell? ⟨b, 1, none⟩ = some (.slice (some ⟨g0, 0, none⟩) D.length D.length) := by simp [World.cell?, hx3]
  have v0 : w3.cell? ⟨b + 1, 0, none⟩ = some (.string ⟨#[]⟩) := by simp [World.cell?, hy3]
  have v1 : w3.cell? ⟨b + 1, 1, none⟩ = some (.slice none 0 0) := by simp [World.cell?, hy3]
  have fr0 : w3.frozen? ⟨b + 1, 0, none⟩ = false := by simp [World.frozen?, hy3]
  have fr1 : w3.frozen? ⟨b + 1, 1, none⟩ = false := by simp [World.frozen?, hy3]
  clear q1 ho2 hb2 hx2 hr3 hx3 hy3 ho3 hc3 hbb hw3 hl2 hc2 hy2 eg0
  go_upto_region 2 with fail
  rw [W3.out]
  clear f1 c1
  go_wp2_with fail
  obtain ⟨cur', a1, a2, a3, a4, a5⟩ := setsAt_spec (b + 1) 36 [.string (strL nm), .slice (some ⟨g0, 0, none⟩) D.length D.length] w3 0 _ Y3.out
  have p0' := a4 0 _ rfl (by simp)
  have p1' := a4 1 _ rfl (by simp)
  obtain ⟨w4, hw4⟩ : ∃ w4, (w3.setCell ⟨b + 1, 0, none⟩ (.string (strL nm))).setCell ⟨b + 1, 1, none⟩ (.slice (some ⟨g0, 0, none⟩) D.length D.length) = w4 := ⟨_, rfl⟩
  have he : setsAt w3 (b + 1) 0 [.string (strL nm), .slice (some ⟨g0, 0, none⟩) D.length D.length] = w4 := hw4
  rw [he] at a1 a5
  rw [hw4]
  have p0 : w4.cell? ⟨b + 1, 0, none⟩ = some (.string (strL nm)) := by simpa [World.cell?, a1] using p0'
  have p1 : w4.cell? ⟨b + 1, 1, none⟩ = some (.slice (some ⟨g0, 0, none⟩) D.length D.length) := by simpa [World.cell?, a1] using p1'
  have hb4 := BB3.out.trans (a5.toBelow w.heap.size (by have := BB3.out.size; omega) (fun k hk e => by have := EB.out; omega))
  have ho4 := a5.row O3.out (fun k hk => by have := (own_ge O3.out k hk).1; have := S1.out; have := EG.out; omega)
  have hc4 : ∀ (j : Nat) (d d' : FieldD), D[j]? = some d → D'[j]? = some d' → CopF w.heap.size w4 d d' := fun j d d' a c => ((C3.out j d d' a c).rest a5 (fun k h1 h2 e => by omega)).mono (by have := EB.out; omega)
  have ho5 := own_mono ho4 (show w.heap.size ≤ g0 by have := S1.out; have := EG.out; have := EB.out; omega)
  have O5 := Lib.hid ho5
  have C5 := Lib.hid hc4
  have B5 := Lib.hid hb4
  clear a1 a2 a3 a4 a5 p0' p1' hw4 he ho4 hc4 ho5 hb4
  refine bodyPost_ret (by simp [results, Tryz.results43, go_sem, p0, p1]; try rfl) rfl ?_
  refine ⟨⟨nm, some ⟨g0, 0, none⟩, D.length, D'⟩, ?_, ⟨rfl, L3.out, ?_, C5.out⟩, B5.out⟩
  · show Ending.returned (.agg #[.string (strL nm), .slice (some ⟨g0, 0, none⟩) D.length D.length]) = .returned (.agg #[.string (strL nm), .slice (some ⟨g0, 0, none⟩) D'.length D.length])
    rw [L3.out]
  · show w4.ownsRow w.heap.size 55 15 (.slice (some ⟨g0, 0, none⟩) D'.length D.length) D'.length (D'.flatMap FieldD.cells)
    rw [L3.out]
    exact O5.out

set_option maxRecDepth 100000 in
set_option maxHeartbeats 6400000 in
theorem replacedM (A : Option Addr) (c : Nat) (D : List MsgD) (S : Nat → Prop) (w : World) (h : MsgsAt S w A c D) (hn : D.length ≤ 1000000) (hk : ∀ d ∈ D, FewM d) :
    Calls Tryz.prog 42 #[.slice A D.length c, .func (.func 43) #[] #[]] w fun e w' => ∃ D' : List MsgD, e = .returned (.slice (some ⟨w.heap.size, 0, none⟩) D.length D.length) ∧ D'.length = D.length ∧ w'.ownsRow w.heap.size 36 2 (.slice (some ⟨w.heap.size, 0, none⟩) D.length D.length) D.length (D'.flatMap MsgD.cells) ∧ (∀ (j : Nat) (d d' : MsgD), D[j]? = some d → D'[j]? = some d' → CopM (w.heap.size + 1) w' d d') ∧ Below w.heap.size w w' := by
  obtain ⟨i0, hi0, hz0, hz1, hz2⟩ := info_parts Tryz.infoMsgD
  have INF := Lib.hid (And.intro hi0 (And.intro hz0 (And.intro hz1 hz2)))
  have HBY := Lib.hid (show i0.bytes * D.length ≤ 281474976710656 by rw [hz2]; omega)
  have H := Lib.hid h
  have HK := Lib.hid hk
  obtain ⟨g0, eg0⟩ : ∃ g0, w.heap.size = g0 := ⟨_, rfl⟩
  rw [eg0]
  have EG := Lib.hid eg0
  clear hi0 hz0 hz1 hz2 h hk eg0
  go_enter Tryz.func42, Tryz.ntmps42
  go_upto_region 1 with fail
  go_wp2_with (refine wpList_make_full w rfl _ _ 22 rfl w.heap.size 36 i0 _ 2 Tryz.underlying22 INF.out.1 INF.out.2.1 INF.out.2.2.1 .i64 .i64 ((D.length : Nat) : Int) ((D.length : Nat) : Int) D.length rfl rfl rfl rfl HBY.out (by unfold maxLen; omega) (Nat.le_refl _) ?_; intro w1 hown hgrow; have HO1 := Lib.hid hown; have HG1 := Lib.hid hgrow; clear hown hgrow)
  rw [EG.out]
  go_loopw [13] (fun x13 wr => ∃ i : Nat, i ≤ D.length ∧ x13 = .int .i64 ((i : Nat) : Int) ∧ ∃ D' : List MsgD, D'.length = i ∧ Half MsgD.cells 2 36 (CopM (g0 + 1)) w wr g0 D.length D D') (fun x13 _ => D.length - (intOf x13).toNat)
  case atStart =>
    have ho := HO1.out
    refine ⟨0, Nat.zero_le _, rfl, [], rfl, ?_, fun j d d' _ hd' => by simp at hd', ?_⟩
    · rcases ho.2 with ⟨e, _⟩ | ⟨g, cap, cur, e, _, hh, _, _, hs, _⟩
      · cases e
      · simp only [Value.slice.injEq, Option.some.injEq, Addr.mk.injEq, and_true, true_and] at e
        obtain ⟨e1, e2⟩ := e
        rw [← e1, EG.out] at hh
        rw [← e2] at hs
        exact ⟨cur, hh, hs, fun j d hd => by simp at hd⟩
    · have hb : Below w.heap.size w w1 := (Below.refl _ _).grown HG1.out (Nat.le_refl _) (fun k e => by cases e)
      rw [EG.out] at hb
      exact hb
  case round =>
    obtain ⟨i, hi, rfl, D', hD', hf⟩ := hrel
    have HF := Lib.hid hf
    have LD := Lib.hid hD'
    clear hf hD' HO1 HG1
    by_cases hlt : i < D.length
    · obtain ⟨d, hd⟩ : ∃ d, D[i]? = some d := ⟨_, List.getElem?_eq_getElem hlt⟩
      have hbw : Below w.heap.size w wr := by rw [EG.out]; exact HF.out.bel
      obtain ⟨g, o, rfl, hx⟩ := (H.out.1.rest (Rest.below hbw) (fun _ _ e => e)).at_ hd
      have x0 : wr.cell? ⟨g, o + i * 2, none⟩ = some (.string (strL d.name)) := hx 0 _ rfl
      have x1 : wr.cell? ⟨g, o + i * 2 + 1, none⟩ = some (.slice d.fa d.fields.length d.fc) := hx 1 _ rfl
      have hal := below_alloc wr (.cells #[.string (strL d.name), .slice d.fa d.fields.length d.fc] 36)
      have hbx : (wr.alloc (.cells #[.string (strL d.name), .slice d.fa d.fields.length d.fc] 36)).heap[wr.heap.size]? = some (.cells #[.string (strL d.name), .slice d.fa d.fields.length d.fc] 36 (0, 0)) := heap_alloc_new wr _
      obtain ⟨tb, etb⟩ : ∃ tb, wr.heap.size = tb := ⟨_, rfl⟩
      obtain ⟨w2, hw2⟩ : ∃ w2, wr.alloc (.cells #[.string (strL d.name), .slice d.fa d.fields.length d.fc] 36) = w2 := ⟨_, rfl⟩
      rw [hw2] at hal hbx
      rw [etb] at hbx
      have q0 : w2.cell? ⟨tb, 0, none⟩ = some (.string (strL d.name)) := by simp [World.cell?, hbx]
      have q1 : w2.cell? ⟨tb, 1, none⟩ = some (.slice d.fa d.fields.length d.fc) := by simp [World.cell?, hbx]
      have hok := (H.out.2 d (List.mem_of_getElem? hd)).rest (Rest.below (hbw.trans (hal.mono hbw.size))) (fun _ _ e => e)
      have HC := Lib.hid (copyMsg d S w2 hok (HK.out d (List.mem_of_getElem? hd)))
      have eg := Tryz.entCopyM
      unfold MsgD.agg at HC
      have W2 := Lib.hid hw2
      have ETB := Lib.hid etb
      have HAL := Lib.hid hal
      have HD := Lib.hid hd
      clear hx hbx hal hok hw2 etb hd hbw
      go_upto_region 5 with fail
      rw [W2.out, ETB.out]
      clear x0 x1
      go_wp2_with fail
      refine HC.out.mono ?_
      rintro e w3 ⟨d', rfl, hcf, hb3⟩
      clear HC q0 q1
      have hb03 := HAL.out.trans (hb3.mono HAL.out.size)
      have hf3 := HF.out.later (wx := w3) (fun a b hab => CopM.below hab hb03) hb03
      have HF3 := Lib.hid hf3
      have CF := Lib.hid (CopM.mono hcf (show g0 + 1 ≤ w2.heap.size by have := HF.out.lt; have := HAL.out.size; omega))
      clear hcf hb3 hb03 hf3
      obtain ⟨u0, hu0⟩ := (HF3.out.cellAt i 0 hlt (by omega)).1
      obtain ⟨u1, hu1⟩ := (HF3.out.cellAt i 1 hlt (by omega)).1
      rw [Nat.add_zero] at hu0
      have hfr := (HF3.out.cellAt i 0 hlt (by omega)).2
      dsimp only
      go_wp2_with fail
      have hst := HF3.out.store (fun _ => rfl) d d' (by rw [LD.out]; exact HD.out) (by rw [LD.out]; exact hlt) CF.out (fun a b hab => CopM.rest hab (setsAt_spec g0 36 (MsgD.cells d') w3 _ _ HF3.out.row.choose_spec.1).choose_spec.2.2.2.2 (fun k h1 _ e => by omega))
      rw [LD.out] at hst
      obtain ⟨w4, hw4⟩ : ∃ w4, ((w3.setCell ⟨g0, i * 2, none⟩ (.string (strL d'.name))).setCell ⟨g0, i * 2 + 1, none⟩ (.slice d'.fa d'.fields.length d'.fc)) = w4 := ⟨_, rfl⟩
      have he : setsAt w3 g0 (i * 2) (MsgD.cells d') = w4 := hw4
      rw [he] at hst
      rw [hw4]
      have HS4 := Lib.hid hst
      have LD4 := Lib.hid (show (D' ++ [d']).length = i + 1 by rw [List.length_append, LD.out]; rfl)
      clear hst he hw4 hfr hu0 hu1
      go_roundw
      case rel => exact ⟨i + 1, by omega, by go_num, D' ++ [d'], LD4.out, HS4.out⟩
      case measure => simp [intOf]; omega
    · obtain rfl : i = D.length := by omega
      go_wp2_with fail
      go_ret
      exact ⟨D', rfl, LD.out, HF.out.own (fun _ => rfl) LD.out hn, HF.out.cop, HF.out.bel⟩
end Go.Proofs.YtbpkppmbbpoohaaGreat
