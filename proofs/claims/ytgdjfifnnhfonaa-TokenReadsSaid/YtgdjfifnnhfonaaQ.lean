/- A strings.Builder at this program: its check, a byte and a text written to it. Conditions: the builder lies in memory and holds few bytes. -/
import Derived.Test.YtgdjfifnnhfonaaM
import Derived.Lib.Builder
import Derived.Lib.AppendStr
import Derived.Laws.Externs
import Derived.Shelf.Abstract
import Derived.BigRegion
import Derived.Maps.AppendAt
import Derived.Lib.SmallJoins
import Derived.OwnWalk
namespace Go.Proofs.Ytgdjfifnnhfonaa
open Go.RowKit Go.Shelf

theorem Try.info80 : (Try.prog.info? 80).map (fun i => i.size) = some 2 := by kernel_rfl
theorem Try.info5 : (Try.prog.info? 5).map (fun i => (i.zero, i.size, i.bytes)) = some (some (.int .u8 0), 1, 1) := by kernel_rfl
theorem Try.lies80 : liesAt Try.prog Try.prog.depth 80 (2 / Try.prog.cellsOf 80) 0 80 1 = true := by kernel_rfl

/-- Variables that are neither a builder nor bytes stay. -/
def Apart (w w' : World) : Prop := ∀ (q : Nat) (cs : Array Value) (t : TypeId), w.heap[q]? = some (.cells cs t (0, 0)) → t ≠ 80 → t ≠ 5 → w'.heap[q]? = w.heap[q]?

set_option maxRecDepth 100000 in
set_option maxHeartbeats 1600000 in
theorem check_any (B b : Nat) (bs : List Value) (w : World) (h : Lib.IsBuilder 80 5 B b bs w) :
    Calls Try.prog 53 #[.pointer (some ⟨b, 0, none⟩)] w fun e w' => e = .returned (.tuple #[]) ∧ Lib.BuilderAt 80 5 B b (.pointer (some ⟨b, 0, none⟩)) bs w' ∧ Below B w w' ∧ Apart w w' := by
  obtain ⟨j, hj, hjs⟩ := Option.map_eq_some_iff.1 Try.info80
  have HJ := Lib.hid (And.intro hj hjs)
  clear hj hjs
  rcases h with h | h
  · have c0 := h.cell0
    have f0 := h.frozen0
    have SH := Lib.hid h.shape
    have H := Lib.hid h
    clear h
    have hto := Lib.run_to_unsafe w ⟨b, 0, none⟩ Try.underlying78 Try.underlying106 HJ.out.1 (by rw [HJ.out.2]; decide) SH.out (by show 0 < 2; omega)
    have hfrom := Lib.run_from_unsafe w ⟨b, 0, none⟩ Try.underlying106 Try.underlying78 HJ.out.1 SH.out Try.lies80
    go_enter Try.func53, Try.ntmps53
    go_wp2
    rw [run_callFunc_extern Try.func65 (by kernel_rfl) (by kernel_rfl) (by kernel_rfl) (e := Extern.AbiNoEscape.same) (by kernel_rfl), Lib.run_noEscape]
    simp only [Result.andThen]
    rw [Oper.upon_value]
    go_wp2
    go_end0
    refine ⟨rfl, H.out.used _, (Below.refl B w).setCell (p := ⟨b, 0, none⟩) H.out.1 _, fun q cs t hq h80 _ => Below.heap_setCell w ⟨b, 0, none⟩ _ q (fun e => ?_)⟩
    obtain ⟨_, v, hb, _⟩ := H.out
    rw [e] at hq
    rw [hb] at hq
    cases hq
    exact h80 rfl
  · have c0 := h.cell0
    have H := Lib.hid h
    clear h
    have hne := Lib.run_neq_ptr_same w ⟨b, 0, none⟩ Try.underlying78 HJ.out.1
    go_enter Try.func53, Try.ntmps53
    go_wp2
    go_end0
    exact ⟨rfl, H.out, Below.refl B w, fun _ _ _ _ _ _ => rfl⟩

/-- A builder's parts. -/
theorem builder_parts {B b : Nat} {p : Value} {bs : List Value} {w : World} (h : Lib.BuilderAt 80 5 B b p bs w) :
    ∃ A c, w.heap[b]? = some (.cells #[p, .slice A bs.length c] 80 (0, 0)) ∧ w.ownsRow B 5 1 (.slice A bs.length c) bs.length bs ∧ (Value.slice A bs.length c).ownBlock ≠ some b ∧ B ≤ b := by
  obtain ⟨hB, v, hb, hown, hne⟩ := h
  obtain ⟨A, c, rfl⟩ : ∃ A c, v = .slice A bs.length c := by
    rcases hown.2 with ⟨rfl, h0⟩ | ⟨g, cap, cur, rfl, _⟩
    · exact ⟨none, 0, by rw [h0]⟩
    · exact ⟨_, _, rfl⟩
  exact ⟨A, c, hb, hown, hne, hB⟩

theorem rshape {w : World} {base n : Nat} {e : TypeId} {size : Nat} {v : Value} {xs : List Value} (h : w.ownsRow base e size v n xs) : ∃ A c, v = .slice A n c := by
  rcases Joins.ownsRow_forms h with ⟨rfl, h0⟩ | ⟨g, cap, rfl⟩
  · exact ⟨none, 0, by rw [h0]⟩
  · exact ⟨_, _, rfl⟩
theorem rge {w : World} {base : Nat} {e : TypeId} {size : Nat} {v : Value} {n : Nat} {xs : List Value} (h : w.ownsRow base e size v n xs) : ∀ k, v.ownBlock = some k → base ≤ k := by
  intro k hk
  rcases h.2 with ⟨rfl, _⟩ | ⟨g, cap, cur, rfl, hb, _⟩
  · simp [Value.ownBlock] at hk
  · simp [Value.ownBlock] at hk; omega

set_option maxRecDepth 100000 in
set_option maxHeartbeats 1600000 in
theorem wbyte_any (B b : Nat) (bs : List Value) (c : Nat) (w : World) (h : Lib.IsBuilder 80 5 B b bs w) (hl : bs.length ≤ 1048576) (hBw : B ≤ w.heap.size) :
    Calls Try.prog 36 #[.pointer (some ⟨b, 0, none⟩), .int .u8 ((c : Nat) : Int)] w fun e w' => e = .returned .nilIface ∧ Lib.BuilderAt 80 5 B b (.pointer (some ⟨b, 0, none⟩)) (bs ++ [.int .u8 ((c : Nat) : Int)]) w' ∧ Below B w w' ∧ Apart w w' := by
  have HC := Lib.hid (check_any B b bs w h)
  obtain ⟨i0, hi, hz0, hz1, hz2⟩ := info_parts Try.info5
  have HI := Lib.hid hi
  clear h hi
  go_enter Try.func36, Try.ntmps36
  go_wp2_with fail
  refine HC.out.mono ?_
  rintro e w1 ⟨rfl, h1, hb1, hap⟩
  have HAP := Lib.hid hap
  obtain ⟨A, cp, hb, hown, hne, hB⟩ := builder_parts h1
  have c1 : w1.cell? ⟨b, 1, none⟩ = some (.slice A bs.length cp) := by simp [World.cell?, hb]
  clear hap
  have hal := (Below.refl w1.heap.size w1).alloc (Nat.le_refl _) (.cells #[.int .u8 ((c : Nat) : Int)] 5)
  have hcn : ∀ j u, ([Value.int .u8 ((c : Nat) : Int)])[j]? = some u → (w1.alloc (.cells #[.int .u8 ((c : Nat) : Int)] 5)).cell? ((⟨w1.heap.size, 0, none⟩ : Addr).add j) = some u := fun j u hu => by
    match j, hu with
    | 0, hu => simp at hu; subst hu; simp [Addr.add]
  have HCN := Lib.hid hcn
  have HOWN := Lib.hid hown
  have HBK := Lib.hid hb
  have HAL := Lib.hid hal
  have HB1 := Lib.hid hb1
  have HNE := Lib.hid (And.intro hne hB)
  have hBlt := (Array.getElem?_eq_some_iff.1 hb).1
  have BLT := Lib.hid hBlt
  clear h1 hb hown hne hal hcn hb1 HC hBlt
  go_wp2_with (at_builtin; go_must (refine wpList_append_own_at _ rfl _ _ 65 rfl B 5 i0 (.int .u8 0) 1 1 Try.underlying65 HI.out hz0 hz1 hz2 rfl (by decide) _ _ _ rfl (HOWN.out.alloc _) ⟨w1.heap.size, 0, none⟩ 1 1 [.int .u8 ((c : Nat) : Int)] rfl rfl HCN.out (by intro u hu; simp at hu; subst hu; rfl) (by unfold maxLen; omega) (by omega) (by have := HB1.out.size; simp; omega) ?_); go_must (intro v1 w2 hown1 hgrow1 _ _); go_must (obtain ⟨A2, cp2, rfl⟩ := rshape hown1); have hb2 := (hgrow1.block b (by simp; have := BLT.out; omega) (fun e => HNE.out.1 e.symm)).trans ((HAL.out.block b BLT.out).trans HBK.out); have d1 : w2.cell? ⟨b, 1, none⟩ = some (.slice A bs.length cp) := by { simp [World.cell?, hb2] }; have f1 : w2.frozen? ⟨b, 1, none⟩ = false := by { simp [World.frozen?, hb2] }; have HO := Lib.hid hown1; have HG := Lib.hid hgrow1; have HB2 := Lib.hid hb2; clear hown1 hgrow1 hb2)
  go_ret
  have hbb : Below B w (w1.alloc (.cells #[.int .u8 ((c : Nat) : Int)] 5)) := HB1.out.trans (HAL.out.mono (by have := HB1.out.size; omega))
  have hbg := hbb.grown HG.out (by have := HB1.out.size; simp; omega) (fun k e => rge HOWN.out k e)
  refine ⟨rfl, Lib.BuilderAt.put HNE.out.2 HB2.out (by rw [List.length_append]; exact HO.out) (by decide), hbg.setCell (p := ⟨b, 1, none⟩) (by show B ≤ b; exact HNE.out.2) _, fun q cs t hq h80 h5 => ?_⟩
  have e1 := HAP.out q cs t hq h80 h5
  have hq1 := e1.trans hq
  have hlt := (Array.getElem?_eq_some_iff.1 hq1).1
  have e2 := HAL.out.block q hlt
  have e3 := HG.out.block q (by simp; omega) (fun e => by
    change some q = (Value.slice A bs.length cp).ownBlock at e
    rcases HOWN.out.2 with ⟨e', _⟩ | ⟨g, cap, cur, e', _, hg, _⟩
    · rw [e'] at e; simp [Value.ownBlock] at e
    · rw [e'] at e
      simp [Value.ownBlock] at e
      subst e
      rw [hg] at hq1
      cases hq1
      exact h5 rfl)
  have hqb : q ≠ b := fun e => by
    subst e
    rw [HBK.out] at hq1
    cases hq1
    exact h80 rfl
  exact ((Below.heap_setCell _ ⟨b, 1, none⟩ _ q hqb).trans (e3.trans e2)).trans e1

set_option maxRecDepth 100000 in
set_option maxHeartbeats 1600000 in
theorem wstring_any (B b : Nat) (bs : List Value) (s : ByteArray) (w : World) (h : Lib.IsBuilder 80 5 B b bs w) (hl : bs.length ≤ 1048576) (hs : s.size ≤ 1048576) (hBw : B ≤ w.heap.size) :
    Calls Try.prog 37 #[.pointer (some ⟨b, 0, none⟩), .string s] w fun e w' => e = .returned (.tuple #[.int .i64 s.size, .nilIface]) ∧ Lib.BuilderAt 80 5 B b (.pointer (some ⟨b, 0, none⟩)) (bs ++ Lib.strCells s) w' ∧ Below B w w' := by
  have HC := Lib.hid (check_any B b bs w h)
  obtain ⟨i0, hi, hz0, hz1, hz2⟩ := info_parts Try.info5
  have HI := Lib.hid hi
  clear h hi
  go_enter Try.func37, Try.ntmps37
  go_wp2_with fail
  refine HC.out.mono ?_
  rintro e w1 ⟨rfl, h1, hb1, _⟩
  obtain ⟨A, cp, hb, hown, hne, hB⟩ := builder_parts h1
  have c1 : w1.cell? ⟨b, 1, none⟩ = some (.slice A bs.length cp) := by simp [World.cell?, hb]
  have HOWN := Lib.hid hown
  have HBK := Lib.hid hb
  have HB1 := Lib.hid hb1
  have HNE := Lib.hid (And.intro hne hB)
  have BLT := Lib.hid (Array.getElem?_eq_some_iff.1 hb).1
  clear h1 hb hown hne hb1 HC
  go_wp2_with (at_builtin; go_must (refine Lib.wpList_append_own_string _ rfl _ _ 65 9 rfl B 5 i0 Try.underlying65 Try.underlying9 HI.out hz0 hz1 hz2 _ _ _ rfl HOWN.out s rfl (by unfold maxLen; omega) (by omega) (by have := HB1.out.size; omega) ?_); go_must (intro v1 w2 hown1 hgrow1 _); go_must (obtain ⟨A2, cp2, rfl⟩ := rshape hown1); have hb2 := (hgrow1.block b BLT.out (fun e => HNE.out.1 e.symm)).trans HBK.out; have d1 : w2.cell? ⟨b, 1, none⟩ = some (.slice A bs.length cp) := by { simp [World.cell?, hb2] }; have f1 : w2.frozen? ⟨b, 1, none⟩ = false := by { simp [World.frozen?, hb2] }; have HO := Lib.hid hown1; have HG := Lib.hid hgrow1; have HB2 := Lib.hid hb2; clear hown1 hgrow1 hb2)
  go_ret2
  have hbg := HB1.out.grown HG.out (by have := HB1.out.size; omega) (fun k e => rge HOWN.out k e)
  refine ⟨rfl, Lib.BuilderAt.put HNE.out.2 HB2.out (by rw [List.length_append, Lib.strCells_length]; exact HO.out) (by decide), hbg.setCell (p := ⟨b, 1, none⟩) (by show B ≤ b; exact HNE.out.2) _⟩

theorem cells_str (l : List UInt8) : Lib.strCells (strL l) = Lib.byteCells l := by
  unfold Lib.strCells Lib.byteCells
  rw [strL_data]
theorem cells_app (a b : List UInt8) : Lib.byteCells (a ++ b) = Lib.byteCells a ++ Lib.byteCells b := by simp [Lib.byteCells]
end Go.Proofs.Ytgdjfifnnhfonaa
