/- Maps keyed by numbers; the conditions of the kinds. Conditions: the map lies in memory. slices.IndexFunc and search; the field with a name. Conditions: the fields lie in memory. Outlines of fields, and fields without what their kinds use. No conditions. -/
import Derived.Test.YtbpkppmbbpoohaaGreatGa
import Derived.WideMake
namespace Go.Proofs.YtbpkppmbbpoohaaGreat
open Go.RowKit Go.Shelf

/-- Entries keyed by numbers. -/
abbrev EntsI := List (Int × Value)
def getI : EntsI → Int → Option Value
  | [], _ => none
  | p :: E, k => if p.1 = k then some p.2 else getI E k
def entI (p : Int × Value) : Value × Value := (.int .i64 p.1, p.2)
def MapI (W : World) (r : Nat) (E : EntsI) : Prop := ∃ es clock, W.heap[r]? = some (.map es clock) ∧ es.toList.map (fun e => (e.key, e.val)) = E.map entI
theorem MapI.lt {W : World} {r : Nat} {E : EntsI} (h : MapI W r E) : r < W.heap.size := by
  obtain ⟨es, c, h, _⟩ := h
  exact (Array.getElem?_eq_some_iff.1 h).1
theorem MapI.below {W W' : World} {r n : Nat} {E : EntsI} (h : MapI W r E) (hb : Below n W W') (hn : r < n) : MapI W' r E := by
  obtain ⟨es, c, h, h2⟩ := h
  exact ⟨es, c, (hb.block r hn).trans h, h2⟩
theorem MapI.rest {S : Nat → Prop} {W W' : World} {r : Nat} {E : EntsI} (h : MapI W r E) (hr : Rest S W W') (hs : ¬ S r) : MapI W' r E := by
  have hl := h.lt
  obtain ⟨es, c, h, h2⟩ := h
  exact ⟨es, c, (hr.block r hl hs).trans h, h2⟩
theorem MapI.new (W : World) : MapI (W.alloc (.map #[] 0)) W.heap.size [] := ⟨#[], 0, heap_alloc_new W _, rfl⟩
theorem find_int (k : Int) : ∀ (l : List MapEntry) (E : EntsI) (i : Nat), l.map (fun e => (e.key, e.val)) = E.map entI →
    (getI E k = none ∧ Instr.findNow (.int .i64) (.int .i64 k) l i = some none) ∨
    ∃ j v, getI E k = some v ∧ Instr.findNow (.int .i64) (.int .i64 k) l i = some (some (j, v)) := by
  intro l
  induction l with
  | nil =>
    intro E i h
    have : E = [] := by cases E with
      | nil => rfl
      | cons p E => simp at h
    subst this
    exact .inl ⟨rfl, rfl⟩
  | cons e l ih =>
    intro E i h
    cases E with
    | nil => simp at h
    | cons p E =>
      simp only [List.map_cons, List.cons.injEq, entI, Prod.mk.injEq] at h
      obtain ⟨⟨hk, hv⟩, ht⟩ := h
      by_cases hp : p.1 = k
      · refine .inr ⟨i, p.2, by simp [getI, hp], ?_⟩
        unfold Instr.findNow
        rw [hk, hp]
        simp [Instr.sameNow, hv]
      · have hne : (k == p.1) = false := by simpa using fun e : k = p.1 => hp e.symm
        rcases ih E (i + 1) ht with ⟨h1, h2⟩ | ⟨j, v, h1, h2⟩
        · refine .inl ⟨by simp [getI, hp, h1], ?_⟩
          unfold Instr.findNow
          rw [hk]
          simp [Instr.sameNow, hne, h2]
        · refine .inr ⟨j, v, by simp [getI, hp, h1], ?_⟩
          unfold Instr.findNow
          rw [hk]
          simp [Instr.sameNow, hne, h2]
section
variable {P : Program} {mt kt et : TypeId}
theorem run_lookI {W : World} {r : Nat} {E : EntsI} {z : Value} (hm : P.underlying mt = some (.map kt et)) (hk : P.underlying kt = some (.int .i64)) (hz : (zeroValue et).run P W = .ok z W) (h : MapI W r E) (k : Int) :
    (Instr.lookup mt (.map (some r)) (.int .i64 k) true).run P W = .ok (.tuple #[(getI E k).getD z, .bool (getI E k).isSome]) W := by
  obtain ⟨es, clock, hb, he⟩ := h
  have hc : ∀ b, (Instr.checkKey b 10000 kt (.int .i64 k)).run P W = .ok () W := fun b => MapKept.run_checkKey (k := .int .i64 k) hk (by simp [MapKept.IsKey]) b 9999
  rcases find_int k es.toList E 0 he with ⟨h1, h2⟩ | ⟨j, v, h1, h2⟩
  · simp [Instr.lookup, run_underlying hm, MapKept.run_getObj_map hb, hc, MapKept.run_findKey hk h2, hz, Result.andThen, h1]
  · simp [Instr.lookup, run_underlying hm, MapKept.run_getObj_map hb, hc, MapKept.run_findKey hk h2, Result.andThen, h1]
/-- A store under a new number. -/
theorem run_storeI {W : World} {r : Nat} {E : EntsI} (hm : P.underlying mt = some (.map kt et)) (hk : P.underlying kt = some (.int .i64)) (h : MapI W r E) (k : Int) (u : Value) (hg : getI E k = none) :
    ∃ W', (Instr.mapUpdate mt (.map (some r)) (.int .i64 k) u).run P W = .ok () W' ∧ MapI W' r (E ++ [(k, u)]) ∧ Rest (fun i => i = r) W W' := by
  obtain ⟨es, clock, hb, he⟩ := h
  have hlt : r < W.heap.size := (Array.getElem?_eq_some_iff.1 hb).1
  have hc : ∀ b, (Instr.checkKey b 10000 kt (.int .i64 k)).run P W = .ok () W := fun b => MapKept.run_checkKey (k := .int .i64 k) hk (by simp [MapKept.IsKey]) b 9999
  have hrest : ∀ o, Rest (fun i => i = r) W { W with heap := W.heap.setIfInBounds r o } := fun o => ⟨rfl, rfl, rfl, by simp, fun i _ hi => by simp [Ne.symm hi]⟩
  rcases find_int k es.toList E 0 he with ⟨h1, h2⟩ | ⟨j, v, h1, h2⟩
  · refine ⟨_, ?_, ?_, hrest (.map (es.push { key := .int .i64 k, val := u, born := clock }) (clock + 1))⟩
    · simp [Instr.mapUpdate, run_underlying hm, MapKept.run_getObj_map hb, hc, MapKept.run_findKey hk h2, MapKept.run_setObj_map _ hb, Result.andThen]
    · exact ⟨_, _, (MapKept.heap_set hb).1, by simp [he, entI]⟩
  · rw [hg] at h1; cases h1
end

/-- A function bound to a receiver. -/
abbrev fnV (k : Nat) (v : Value) : Value := .func (.func k) #[v] #[]
/-- The conditions of the kinds, of an examination at v. -/
def condE (v : Value) : EntsI := [(1, fnV 103 v), (2, fnV 104 v), (3, fnV 105 v), (4, fnV 106 v), (5, fnV 107 v), (6, fnV 108 v), (7, fnV 109 v), (8, fnV 110 v), (9, fnV 111 v), (10, fnV 112 v), (11, fnV 113 v), (12, fnV 114 v)]
theorem Tryz.um122 : Tryz.prog.underlying 128 = some (.map 49 140) := by kernel_rfl
theorem Tryz.ukind : Tryz.prog.underlying 49 = some (.int .i64) := by kernel_rfl
theorem Tryz.zeroCond (w : World) : (zeroValue 140).run Tryz.prog w = .ok .nilFunc w := by kernel_rfl
set_option maxRecDepth 100000 in
set_option maxHeartbeats 3200000 in
theorem conditions_any (v : Value) (w : World) : Calls Tryz.prog 79 #[v] w fun e w' => e = .returned (.map (some w.heap.size)) ∧ MapI w' w.heap.size (condE v) ∧ Below w.heap.size w w' := by
  have hal := below_alloc w (.map #[] 0)
  have hm0 := MapI.new w
  have hmk := run_makeMap_plain (P := Tryz.prog) w 128
  obtain ⟨r, er⟩ : ∃ r, w.heap.size = r := ⟨_, rfl⟩
  obtain ⟨w0, hw0⟩ : ∃ w0, w.alloc (.map #[] 0) = w0 := ⟨_, rfl⟩
  rw [hw0] at hal hm0 hmk
  rw [er] at hm0 hmk
  have hr0 : Rest (fun i => i = r) w0 w0 := Rest.refl _ _
  obtain ⟨w1, hu1, hm1, hs1⟩ := run_storeI (P := Tryz.prog) Tryz.um122 Tryz.ukind hm0 1 (fnV 103 v) (by rfl)
  have hr1 := hr0.trans hs1 (fun _ _ e => e)
  clear hs1 hm0 hr0
  obtain ⟨w2, hu2, hm2, hs2⟩ := run_storeI (P := Tryz.prog) Tryz.um122 Tryz.ukind hm1 2 (fnV 104 v) (by rfl)
  have hr2 := hr1.trans hs2 (fun _ _ e => e)
  clear hs2 hm1 hr1
  obtain ⟨w3, hu3, hm3, hs3⟩ := run_storeI (P := Tryz.prog) Tryz.um122 Tryz.ukind hm2 3 (fnV 105 v) (by rfl)
  have hr3 := hr2.trans hs3 (fun _ _ e => e)
  clear hs3 hm2 hr2
  obtain ⟨w4, hu4, hm4, hs4⟩ := run_storeI (P := Tryz.prog) Tryz.um122 Tryz.ukind hm3 4 (fnV 106 v) (by rfl)
  have hr4 := hr3.trans hs4 (fun _ _ e => e)
  clear hs4 hm3 hr3
  obtain ⟨w5, hu5, hm5, hs5⟩ := run_storeI (P := Tryz.prog) Tryz.um122 Tryz.ukind hm4 5 (fnV 107 v) (by rfl)
  have hr5 := hr4.trans hs5 (fun _ _ e => e)
  clear hs5 hm4 hr4
  obtain ⟨w6, hu6, hm6, hs6⟩ := run_storeI (P := Tryz.prog) Tryz.um122 Tryz.ukind hm5 6 (fnV 108 v) (by rfl)
  have hr6 := hr5.trans hs6 (fun _ _ e => e)
  clear hs6 hm5 hr5
  obtain ⟨w7, hu7, hm7, hs7⟩ := run_storeI (P := Tryz.prog) Tryz.um122 Tryz.ukind hm6 7 (fnV 109 v) (by rfl)
  have hr7 := hr6.trans hs7 (fun _ _ e => e)
  clear hs7 hm6 hr6
  obtain ⟨w8, hu8, hm8, hs8⟩ := run_storeI (P := Tryz.prog) Tryz.um122 Tryz.ukind hm7 8 (fnV 110 v) (by rfl)
  have hr8 := hr7.trans hs8 (fun _ _ e => e)
  clear hs8 hm7 hr7
  obtain ⟨w9, hu9, hm9, hs9⟩ := run_storeI (P := Tryz.prog) Tryz.um122 Tryz.ukind hm8 9 (fnV 111 v) (by rfl)
  have hr9 := hr8.trans hs9 (fun _ _ e => e)
  clear hs9 hm8 hr8
  obtain ⟨w10, hu10, hm10, hs10⟩ := run_storeI (P := Tryz.prog) Tryz.um122 Tryz.ukind hm9 10 (fnV 112 v) (by rfl)
  have hr10 := hr9.trans hs10 (fun _ _ e => e)
  clear hs10 hm9 hr9
  obtain ⟨w11, hu11, hm11, hs11⟩ := run_storeI (P := Tryz.prog) Tryz.um122 Tryz.ukind hm10 11 (fnV 113 v) (by rfl)
  have hr11 := hr10.trans hs11 (fun _ _ e => e)
  clear hs11 hm10 hr10
  obtain ⟨w12, hu12, hm12, hs12⟩ := run_storeI (P := Tryz.prog) Tryz.um122 Tryz.ukind hm11 12 (fnV 114 v) (by rfl)
  have hr12 := hr11.trans hs12 (fun _ _ e => e)
  clear hs12 hm11 hr11
  have hbl : Below w.heap.size w w12 := ((Rest.below (S := fun i => i = r) hal).trans hr12 (fun _ _ e => e)).toBelow w.heap.size (Nat.le_refl _) (fun i hi e => by omega)
  have HM := Lib.hid hm12
  have HB := Lib.hid hbl
  have W0 := Lib.hid hw0
  have ER := Lib.hid er
  clear hm12 hr12 hbl hal hw0
  unfold fnV at *
  rw [ER.out]
  clear er
  go_enter Tryz.func79, Tryz.ntmps79
  go_wp2
  refine bodyPost_ret (by simp [results, Tryz.results79, go_sem]; try rfl) rfl ?_
  exact ⟨rfl, HM.out, ER.out ▸ HB.out⟩
end Go.Proofs.YtbpkppmbbpoohaaGreat

namespace Go.Proofs.YtbpkppmbbpoohaaGreat
open Go.RowKit Go.Shelf

set_option maxRecDepth 100000 in
set_option maxHeartbeats 1600000 in
theorem fieldsIndex (F : Nat) (cap : Array Value) (eg : ∀ args w, (callFunc F args).run Tryz.prog w = .ok (.enter F args) w) (p : FieldD → Bool) (A : Option Addr) (c : Nat) (D : List FieldD) (S : Nat → Prop) (w : World) (h : SlAt FieldD.cells 15 S w A c D)
    (hF : ∀ d ∈ D, ∀ wx, Below w.heap.size w wx → Calls Tryz.prog F (#[d.agg] ++ cap) wx fun e w' => e = .returned (.bool (p d)) ∧ Below wx.heap.size wx w') :
    Calls Tryz.prog 157 #[.slice A D.length c, .func (.func F) #[] cap] w fun e w' => e = .returned (.int .i64 (idxOf p D)) ∧ Below w.heap.size w w' := by
  have hl : D.length ≤ 9223372036854775807 := Nat.le_trans h.1 h.2.1
  have H := Lib.hid h
  have HF := Lib.hid hF
  obtain ⟨R, hR⟩ : ∃ R, idxOf p D = R := ⟨_, rfl⟩
  rw [hR]
  have HR := Lib.hid hR
  clear h hR hF
  go_enter Tryz.func157, Tryz.ntmps157
  go_wp2
  go_loopw [8] (fun x8 wr => ∃ i : Nat, i ≤ D.length ∧ x8 = .int .i64 ((i : Nat) : Int) ∧ (∀ x ∈ D.take i, p x = false) ∧ Below w.heap.size w wr) (fun x8 _ => D.length - (intOf x8).toNat)
  case atStart => exact ⟨0, Nat.zero_le _, rfl, by simp, Below.refl _ _⟩
  case round =>
    obtain ⟨i, hi, rfl, hb, hbw⟩ := hrel
    have HB := Lib.hid hb
    have HBW := Lib.hid hbw
    clear hb hbw
    by_cases hlt : i < D.length
    · obtain ⟨d, hd⟩ : ∃ d, D[i]? = some d := ⟨_, List.getElem?_eq_getElem hlt⟩
      obtain ⟨g, o, rfl, hx⟩ := (H.out.rest (Rest.below HBW.out) (fun _ _ e => e)).at_ hd
      have HFD := Lib.hid (HF.out d (List.mem_of_getElem? hd) wr HBW.out)
      have y0 : wr.cell? ⟨g, o + i * 15, none⟩ = some (.string (strL d.name)) := hx 0 _ rfl
      have y1 : wr.cell? ⟨g, o + i * 15 + 1, none⟩ = some (.int .i64 d.kind) := hx 1 _ rfl
      have y2 : wr.cell? ⟨g, o + i * 15 + 2, none⟩ = some (.int .i64 d.bits) := hx 2 _ rfl
      have y3 : wr.cell? ⟨g, o + i * 15 + 3, none⟩ = some (.bool d.little) := hx 3 _ rfl
      have y4 : wr.cell? ⟨g, o + i * 15 + 4, none⟩ = some (.bool d.loose) := hx 4 _ rfl
      have y5 : wr.cell? ⟨g, o + i * 15 + 5, none⟩ = some (.int .i64 d.low) := hx 5 _ rfl
      have y6 : wr.cell? ⟨g, o + i * 15 + 6, none⟩ = some (.int .i64 d.high) := hx 6 _ rfl
      have y7 : wr.cell? ⟨g, o + i * 15 + 7, none⟩ = some (.int .i64 d.base) := hx 7 _ rfl
      have y8 : wr.cell? ⟨g, o + i * 15 + 8, none⟩ = some (.slice d.ta d.terms.length d.tc) := hx 8 _ rfl
      have y9 : wr.cell? ⟨g, o + i * 15 + 9, none⟩ = some (.string (strL d.of_)) := hx 9 _ rfl
      have y10 : wr.cell? ⟨g, o + i * 15 + 10, none⟩ = some (.string (strL d.tag)) := hx 10 _ rfl
      have y11 : wr.cell? ⟨g, o + i * 15 + 11, none⟩ = some (.string (strL d.from_)) := hx 11 _ rfl
      have y12 : wr.cell? ⟨g, o + i * 15 + 12, none⟩ = some (.slice d.ca d.cases.length d.cc) := hx 12 _ rfl
      have y13 : wr.cell? ⟨g, o + i * 15 + 13, none⟩ = some (.int .i64 d.check) := hx 13 _ rfl
      have y14 : wr.cell? ⟨g, o + i * 15 + 14, none⟩ = some (.int .i64 d.key) := hx 14 _ rfl
      have HD := Lib.hid hd
      clear hd hx
      cases hv : p d with
      | true =>
        rw [hv] at HFD
        unfold FieldD.agg at HFD
        have hRi : R = ((i : Nat) : Int) := by rw [← HR.out]; exact idx_hit HD.out HB.out hv
        have HRI := Lib.hid hRi
        clear hRi hv
        go_wp2_with fail
        refine HFD.out.mono ?_
        rintro e w2 ⟨rfl, hb2⟩
        have HB2 := Lib.hid (HBW.out.trans (hb2.mono HBW.out.size))
        clear hb2
        go_wp2_with fail
        go_ret
        exact ⟨ret_int HRI.out.symm, HB2.out⟩
      | false =>
        rw [hv] at HFD
        unfold FieldD.agg at HFD
        have hn := take_none HD.out HB.out hv
        have HN := Lib.hid hn
        clear hn hv
        go_wp2_with fail
        refine HFD.out.mono ?_
        rintro e w2 ⟨rfl, hb2⟩
        have HB2 := Lib.hid (HBW.out.trans (hb2.mono HBW.out.size))
        clear hb2
        go_wp2_with fail
        go_roundw
        case rel => exact ⟨i + 1, by omega, by go_num, HN.out, HB2.out⟩
        case measure => simp [intOf]; omega
    · obtain rfl : i = D.length := by omega
      have hRi : R = -1 := by rw [← HR.out]; refine idx_miss ?_; have := HB.out; rwa [List.take_length] at this
      have HRI := Lib.hid hRi
      clear hRi
      go_wp2_with fail
      go_ret
      exact ⟨ret_int HRI.out.symm, HBW.out⟩

set_option maxRecDepth 100000 in
set_option maxHeartbeats 1600000 in
theorem fieldsSearch (F : Nat) (cap : Array Value) (eg : ∀ args w, (callFunc F args).run Tryz.prog w = .ok (.enter F args) w) (p : FieldD → Bool) (A : Option Addr) (c : Nat) (D : List FieldD) (S : Nat → Prop) (w : World) (h : SlAt FieldD.cells 15 S w A c D)
    (hF : ∀ d ∈ D, ∀ wx, Below w.heap.size w wx → Calls Tryz.prog F (#[d.agg] ++ cap) wx fun e w' => e = .returned (.bool (p d)) ∧ Below wx.heap.size wx w') :
    Calls Tryz.prog 158 #[.slice A D.length c, .func (.func F) #[] cap] w fun e w' => e = .returned (.tuple #[.int .i64 (max (idxOf p D) 0), .bool (D.any p)]) ∧ Below w.heap.size w w' := by
  have HI := Lib.hid (fieldsIndex F cap eg p A c D S w h hF)
  have hnn : decide (0 ≤ idxOf p D) = D.any p := by
    rw [Bool.eq_iff_iff, decide_eq_true_iff]
    exact idx_nonneg p D 0
  obtain ⟨k, hk⟩ : ∃ k, idxOf p D = k := ⟨_, rfl⟩
  rw [hk] at HI hnn ⊢
  obtain ⟨M, hM⟩ : ∃ M, max k 0 = M := ⟨_, rfl⟩
  rw [hM]
  have f1 : (if k < 0 then 0 else k) = M := by rw [← hM]; split <;> omega
  obtain ⟨bv, hbv⟩ : ∃ bv, D.any p = bv := ⟨_, rfl⟩
  rw [hbv] at hnn ⊢
  clear h hF hk hM hbv
  go_enter Tryz.func158, Tryz.ntmps158
  go_wp2_with fail
  refine HI.out.mono ?_
  rintro e w2 ⟨rfl, hb2⟩
  have HB2 := Lib.hid hb2
  clear hb2
  go_wp2_with fail
  go_ret2
  exact ⟨rfl, HB2.out⟩

theorem Tryz.entField1 : ∀ args w, (callFunc 159 args).run Tryz.prog w = .ok (.enter 159 args) w := enters_of Tryz.func159 (by kernel_rfl) rfl

set_option maxRecDepth 100000 in
set_option maxHeartbeats 800000 in
theorem field1_any (d : FieldD) (s : List UInt8) (b : Nat) (w : World) (h : w.cell? ⟨b, 0, none⟩ = some (.string (strL s))) :
    Calls Tryz.prog 159 #[d.agg, .pointer (some ⟨b, 0, none⟩)] w fun e w' => e = .returned (.bool (d.name == s)) ∧ Below w.heap.size w w' := by
  unfold FieldD.agg
  have hbl := World.block_lt_of_cell? _ _ h
  have hal := below_alloc w (.cells #[.string (strL d.name), .int .i64 d.kind, .int .i64 d.bits, .bool d.little, .bool d.loose, .int .i64 d.low, .int .i64 d.high, .int .i64 d.base, .slice d.ta d.terms.length d.tc, .string (strL d.of_), .string (strL d.tag), .string (strL d.from_), .slice d.ca d.cases.length d.cc, .int .i64 d.check, .int .i64 d.key] 55)
  have h1 := (hal.cell (p := ⟨b, 0, none⟩) hbl).trans h
  have HAL := Lib.hid hal
  clear hal h
  by_cases he : d.name = s
  · subst he
    go_enter Tryz.func159, Tryz.ntmps159
    go_wp2
    go_ret
    exact ⟨ret_bool (by simp), HAL.out⟩
  · have e1 := text_ne he
    have HE := Lib.hid he
    clear he
    go_enter Tryz.func159, Tryz.ntmps159
    go_wp2
    go_ret
    exact ⟨ret_bool (by simpa using HE.out), HAL.out⟩

set_option maxRecDepth 100000 in
set_option maxHeartbeats 1600000 in
theorem field_find (nm : List UInt8) (A : Option Addr) (c : Nat) (D : List FieldD) (s : List UInt8) (S : Nat → Prop) (w : World) (h : SlAt FieldD.cells 15 S w A c D) :
    Calls Tryz.prog 142 #[.agg #[.string (strL nm), .slice A D.length c], .string (strL s)] w fun e w' => e = .returned (.tuple #[.int .i64 (max (idxOf (fun d => d.name == s) D) 0), .bool (D.any (fun d => d.name == s))]) ∧ Below w.heap.size w w' := by
  obtain ⟨wa, hwa⟩ : ∃ wa, w.alloc (.cells #[.string (strL nm), .slice A D.length c] 36) = wa := ⟨_, rfl⟩
  obtain ⟨w1, hw1⟩ : ∃ w1, wa.alloc (.cells #[.string (strL s)] 9) = w1 := ⟨_, rfl⟩
  have hw : (w.alloc (.cells #[.string (strL nm), .slice A D.length c] 36)).alloc (.cells #[.string (strL s)] 9) = w1 := by rw [hwa, hw1]
  have ba : Below w.heap.size w wa := by rw [← hwa]; exact below_alloc _ _
  have b1 : Below wa.heap.size wa w1 := by rw [← hw1]; exact below_alloc _ _
  have hb0 : Below w.heap.size w w1 := ba.trans (b1.mono ba.size)
  have s1 : wa.heap.size = w.heap.size + 1 := by rw [← hwa]; simp
  have x1 : w1.heap[w.heap.size]? = some (.cells #[.string (strL nm), .slice A D.length c] 36 (0, 0)) := (b1.block _ (by omega)).trans (by rw [← hwa]; exact heap_alloc_new w _)
  have x2 : Boxed w1 (w.heap.size + 1) 9 (.string (strL s)) := by rw [← hw1, ← s1]; exact Boxed.new wa _ _
  have h1 := h.below hb0
  obtain ⟨b, eb⟩ : ∃ b, w.heap.size = b := ⟨_, rfl⟩
  rw [eb] at x1 x2
  have y1 : w1.cell? ⟨b, 1, none⟩ = some (.slice A D.length c) := by simp [World.cell?, x1]
  have HS := Lib.hid (fieldsSearch 159 #[.pointer (some ⟨b + 1, 0, none⟩)] Tryz.entField1 (fun d => d.name == s) A c D S w1 h1 (fun d _ wx hb => field1_any d s (b + 1) wx (boxed_below x2 hb x2.lt).cell))
  obtain ⟨R1, hR1⟩ : ∃ R1, max (idxOf (fun d : FieldD => d.name == s) D) 0 = R1 := ⟨_, rfl⟩
  obtain ⟨R2, hR2⟩ : ∃ R2, D.any (fun d : FieldD => d.name == s) = R2 := ⟨_, rfl⟩
  rw [hR1, hR2] at HS ⊢
  have HW := Lib.hid hw
  have EB := Lib.hid eb
  have HB0 := Lib.hid hb0
  clear h hwa hw1 hw ba b1 hb0 s1 x1 x2 h1 eb hR1 hR2
  go_enter Tryz.func142, Tryz.ntmps142
  go_upto_region 1 with fail
  rw [HW.out, EB.out]
  go_wp2_with fail
  refine HS.out.mono ?_
  rintro e w2 ⟨rfl, hb2⟩
  have HB2 := Lib.hid (HB0.out.trans (hb2.mono HB0.out.size))
  clear hb2
  go_wp2_with fail
  go_ret2
  exact ⟨rfl, HB2.out⟩
end Go.Proofs.YtbpkppmbbpoohaaGreat

namespace Go.Proofs.YtbpkppmbbpoohaaGreat
open Go.RowKit Go.Shelf

set_option maxRecDepth 100000 in
set_option maxHeartbeats 3200000 in
theorem outline_any (v0 v9 v10 v11 : ByteArray) (k bi lo hi ba ch ke : Int) (li ls : Bool) (ta ca : Option Addr) (tn tc cn cc : Nat) (w : World) :
    Calls Tryz.prog 132 #[.agg #[.string v0, .int .i64 k, .int .i64 bi, .bool li, .bool ls, .int .i64 lo, .int .i64 hi, .int .i64 ba, .slice ta tn tc, .string v9, .string v10, .string v11, .slice ca cn cc, .int .i64 ch, .int .i64 ke]] w fun e w' => e = .returned (.agg #[.string v0, .int .i64 k, .bool li, .bool ls, .int .i64 bi, .int .i64 lo, .int .i64 hi, .int .i64 ba, .int .i64 (tn : Int), .int .i64 (cn : Int), .int .i64 ch, .int .i64 ke, .string v9, .string v10, .string v11]) ∧ Below w.heap.size w w' := by
  have hb : ∀ o1 o2, Below w.heap.size w ((w.alloc o1).alloc o2) := fun o1 o2 => ((Below.refl w.heap.size w).alloc (Nat.le_refl _) _).alloc (by simp) _
  go_enter Tryz.func132, Tryz.ntmps132
  go_wp2

  refine bodyPost_ret (by simp [results, Tryz.results132, go_sem]; try rfl) rfl ?_
  exact ⟨rfl, hb _ _⟩

set_option maxRecDepth 100000 in
set_option maxHeartbeats 3200000 in
theorem cleared_1 (d : FieldD) (w : World) (hk : d.kind = 1) :
    Calls Tryz.prog 178 #[.agg #[.string (strL d.name), .int .i64 d.kind, .int .i64 d.bits, .bool d.little, .bool d.loose, .int .i64 d.low, .int .i64 d.high, .int .i64 d.base, .slice d.ta d.terms.length d.tc, .string (strL d.of_), .string (strL d.tag), .string (strL d.from_), .slice d.ca d.cases.length d.cc, .int .i64 d.check, .int .i64 d.key]] w fun e w' => e = .returned (.agg #[.string (strL d.name), .int .i64 d.kind, .int .i64 0, .bool false, .bool d.loose, .int .i64 0, .int .i64 0, .int .i64 d.base, .slice d.ta d.terms.length d.tc, .string (strL d.of_), .string (strL d.tag), .string (strL d.from_), .slice d.ca d.cases.length d.cc, .int .i64 d.check, .int .i64 d.key]) ∧ Below w.heap.size w w' := by
  have hb : ∀ o1 o2, Below w.heap.size w ((w.alloc o1).alloc o2) := fun o1 o2 => ((Below.refl w.heap.size w).alloc (Nat.le_refl _) _).alloc (by simp) _
  rw [hk]
  clear hk
  go_enter Tryz.func178, Tryz.ntmps178
  go_wp2

  refine bodyPost_ret (by simp [results, Tryz.results178, go_sem]; try rfl) rfl ?_
  exact ⟨rfl, hb _ _⟩

set_option maxRecDepth 100000 in
set_option maxHeartbeats 3200000 in
theorem cleared_4 (d : FieldD) (w : World) (hk : d.kind = 4) :
    Calls Tryz.prog 178 #[.agg #[.string (strL d.name), .int .i64 d.kind, .int .i64 d.bits, .bool d.little, .bool d.loose, .int .i64 d.low, .int .i64 d.high, .int .i64 d.base, .slice d.ta d.terms.length d.tc, .string (strL d.of_), .string (strL d.tag), .string (strL d.from_), .slice d.ca d.cases.length d.cc, .int .i64 d.check, .int .i64 d.key]] w fun e w' => e = .returned (.agg #[.string (strL d.name), .int .i64 d.kind, .int .i64 d.bits, .bool d.little, .bool d.loose, .int .i64 d.low, .int .i64 d.high, .int .i64 0, .slice none 0 0, .string (strL d.of_), .string (strL d.tag), .string (strL d.from_), .slice d.ca d.cases.length d.cc, .int .i64 d.check, .int .i64 d.key]) ∧ Below w.heap.size w w' := by
  have hb : ∀ o1 o2, Below w.heap.size w ((w.alloc o1).alloc o2) := fun o1 o2 => ((Below.refl w.heap.size w).alloc (Nat.le_refl _) _).alloc (by simp) _
  rw [hk]
  clear hk
  go_enter Tryz.func178, Tryz.ntmps178
  go_wp2

  refine bodyPost_ret (by simp [results, Tryz.results178, go_sem]; try rfl) rfl ?_
  exact ⟨rfl, hb _ _⟩

set_option maxRecDepth 100000 in
set_option maxHeartbeats 3200000 in
theorem cleared_7 (d : FieldD) (w : World) (hk : d.kind = 7) :
    Calls Tryz.prog 178 #[.agg #[.string (strL d.name), .int .i64 d.kind, .int .i64 d.bits, .bool d.little, .bool d.loose, .int .i64 d.low, .int .i64 d.high, .int .i64 d.base, .slice d.ta d.terms.length d.tc, .string (strL d.of_), .string (strL d.tag), .string (strL d.from_), .slice d.ca d.cases.length d.cc, .int .i64 d.check, .int .i64 d.key]] w fun e w' => e = .returned (.agg #[.string (strL d.name), .int .i64 d.kind, .int .i64 d.bits, .bool d.little, .bool d.loose, .int .i64 d.low, .int .i64 d.high, .int .i64 0, .slice none 0 0, .string ⟨#[]⟩, .string (strL d.tag), .string (strL d.from_), .slice d.ca d.cases.length d.cc, .int .i64 d.check, .int .i64 d.key]) ∧ Below w.heap.size w w' := by
  have hb : ∀ o1 o2, Below w.heap.size w ((w.alloc o1).alloc o2) := fun o1 o2 => ((Below.refl w.heap.size w).alloc (Nat.le_refl _) _).alloc (by simp) _
  rw [hk]
  clear hk
  go_enter Tryz.func178, Tryz.ntmps178
  go_wp2

  refine bodyPost_ret (by simp [results, Tryz.results178, go_sem]; try rfl) rfl ?_
  exact ⟨rfl, hb _ _⟩
end Go.Proofs.YtbpkppmbbpoohaaGreat
