/- The walk of BitsYields: it returns true and changes nothing that was there. Conditions: the bytes lie in memory, each below 256. -/
import Derived.Test.YtboiiohpkoodpaaRf
import Derived.Test.YtboiiohpkoodpaaNn
import Derived.Sort.CutIn
namespace Go.Proofs.Ytboiiohpkoodpaa
open Go.RowKit Go.Shelf
attribute [local go_sem] Oper.semAt_some

theorem SrcAt.later {w w' : World} {s : Value} {B : List Nat} (h : SrcAt w s B) (hb : Below w.heap.size w w') : SrcAt w' s B := by
  rcases h with h | ⟨a, c, rfl, ha, hc⟩
  · exact .inl h
  · exact .inr ⟨a, c, rfl, Nat.lt_of_lt_of_le ha hb.size, fun j u hu => (hb.cell (p := a.add j) (by rw [addr_block]; exact ha)).trans (hc j u hu)⟩

set_option maxRecDepth 100000 in
set_option maxHeartbeats 1600000 in
theorem yields_long (s : Value) (B : List Nat) (pl many : Int) (w : World) (hs : ∃ A c, s = .slice A B.length c) (hm : 20 < B.length) (hm2 : B.length ≤ 9223372036854775807) :
    Calls Try.prog 5 #[s, .int .u8 pl, .int .i64 many] w fun e w' => e = .returned (.bool true) ∧ Below w.heap.size w w' := by
  obtain ⟨A, c, rfl⟩ := hs
  have hmi : (20 : Int) < B.length := by omega
  go_enter Try.func5, Try.ntmps5
  go_wp2_with fail
  refine (known_any _).mono ?_
  rintro e w1 ⟨rfl, hb⟩
  have hc := (hb.cell (p := ⟨w.heap.size + 1, 0, none⟩) (by simp)).trans (cell_new_at (w.alloc _) #[.bool false] 4 (w.heap.size + 1) 0 (by simp))
  have hf : w1.frozen? ⟨w.heap.size + 1, 0, none⟩ = false := (hb.frozen (p := ⟨w.heap.size + 1, 0, none⟩) (by simp)).trans (by
    have := (Boxed.new (w.alloc (.cells #[.int .i64 many] 3)) 4 (.bool false)).frozen
    rw [World.size_alloc] at this
    exact this)
  have hbw : Below w.heap.size w w1 := (((Below.refl _ w).alloc (Nat.le_refl _) _).alloc (by simp) _).trans (hb.mono (by simp; omega))
  have HBW := Lib.hid hbw
  have hc' : w1.cell? ⟨w.heap.size + 1, 0, none⟩ = some (.bool false) := hc
  clear hb hbw hc
  go_wp2
  refine bodyPost_ret (v := .bool true) (by simp [results, Try.results5, go_sem, hc']) rfl ⟨rfl, ?_⟩
  exact HBW.out.setCell (p := ⟨w.heap.size + 1, 0, none⟩) (by simp) _

theorem skip_at (b : Nat) (v : Value) (B : List Nat) (n : Nat) (w : World) (h : RAt w b v B 0) (hBl : B.length ≤ 1048576) :
    ∃ (code : Int) (p : Nat), ((code = 0 ∧ p = n) ∨ (code = 4 ∧ p = 0)) ∧ p ≤ 8 * B.length ∧ Calls Try.prog 26 #[.pointer (some ⟨b, 0, none⟩), .int .i64 n] w fun e w' => e = .returned (.int .i64 code) ∧ RLeft b v B p w w' := by
  by_cases hn : n ≤ 8 * B.length
  · refine ⟨0, n, .inl ⟨rfl, rfl⟩, hn, ?_⟩
    have := skip_ok b v B 0 n w h hBl (by omega)
    rwa [Nat.zero_add] at this
  · have hc : skipCode B.length 0 n = 4 := by unfold skipCode; rw [if_neg (by omega), if_pos (by omega)]
    refine ⟨4, 0, .inr ⟨rfl, rfl⟩, Nat.zero_le _, ?_⟩
    have := skip_err b v B 0 n w h hBl (Nat.zero_le _) (by rw [hc]; decide)
    rwa [hc] at this

theorem addr_add (g p j : Nat) : (⟨g, p, none⟩ : Addr).add j = ⟨g, p + j, none⟩ := by unfold Addr.add; split <;> simp_all

/-- The memory of BitsYields, before its loop over turns: what was asked, the result, the bits that are left, the iterator's two variables, its bytes. -/
structure YM (w W : World) (many : Int) (B : List Nat) (p x y : Nat) (rv : Value) (a9 : Nat) (AV : Option Addr) (cv : Nat) : Prop where
  b5 : Boxed W w.heap.size 3 (.int .i64 many)
  b6 : Boxed W (w.heap.size + 1) 4 (.bool false)
  b9 : Boxed W a9 27 (.slice AV (8 * B.length - p) cv)
  cells : ∀ j z, ((unpack B).drop p)[j]? = some z → ∃ a, AV = some a ∧ a.block < W.heap.size ∧ W.cell? (a.add j) = some (.bool z)
  bx : Boxed W x 3 (.int .i64 p)
  by' : Boxed W y 28 rv
  rr : W.ownsRow 0 5 1 rv B.length (u8s B)
  below : Below w.heap.size w W

theorem YM.later {w W W' : World} {many : Int} {B : List Nat} {p x y : Nat} {rv : Value} {a9 : Nat} {AV : Option Addr} {cv : Nat} (h : YM w W many B p x y rv a9 AV cv) (hb : Below W.heap.size W W') : YM w W' many B p x y rv a9 AV cv where
  b5 := boxed_below h.b5 hb h.b5.lt
  b6 := boxed_below h.b6 hb h.b6.lt
  b9 := boxed_below h.b9 hb h.b9.lt
  cells j z hj := by
    obtain ⟨a, h1, h2, h3⟩ := h.cells j z hj
    exact ⟨a, h1, Nat.lt_of_lt_of_le h2 hb.size, (hb.cell (p := a.add j) (by rw [addr_block]; exact h2)).trans h3⟩
  bx := boxed_below h.bx hb h.bx.lt
  by' := boxed_below h.by' hb h.by'.lt
  rr := Rest.row (S := fun _ => False) (Rest.below hb) h.rr (fun _ _ e => e)
  below := h.below.trans (hb.mono h.below.size)

theorem ym_set {w W : World} {many : Int} {B : List Nat} {p x y : Nat} {rv u : Value} {a9 : Nat} (AV : Option Addr) (cv : Nat) (g5 : Boxed W w.heap.size 3 (.int .i64 many)) (g6 : Boxed W (w.heap.size + 1) 4 (.bool false)) (g9 : Boxed W a9 27 u)
    (gx : Boxed W x 3 (.int .i64 p)) (gy : Boxed W y 28 rv) (grr : W.ownsRow 0 5 1 rv B.length (u8s B)) (gbw : Below w.heap.size w W) (h9 : w.heap.size + 1 < a9) (hx : x ≠ a9) (hy : y ≠ a9)
    (hc : ∀ j z, ((unpack B).drop p)[j]? = some z → ∃ a, AV = some a ∧ a.block ≠ a9 ∧ a.block < W.heap.size ∧ W.cell? (a.add j) = some (.bool z)) :
    YM w (W.setCell ⟨a9, 0, none⟩ (.slice AV (8 * B.length - p) cv)) many B p x y rv a9 AV cv where
  b5 := boxed_setOther g5 _ _ (by show w.heap.size ≠ a9; omega)
  b6 := boxed_setOther g6 _ _ (by show w.heap.size + 1 ≠ a9; omega)
  b9 := Boxed.set _ g9
  cells j z hj := by
    obtain ⟨a, h1, h2, h4, h3⟩ := hc j z hj
    have hk : (W.setCell ⟨a9, 0, none⟩ (.slice AV (8 * B.length - p) cv)).cell? (a.add j) = some (.bool z) := (World.cell?_of_block (w := W) (Below.heap_setCell W ⟨a9, 0, none⟩ _ _ (by rw [addr_block]; exact h2))).trans h3
    exact ⟨a, h1, by simpa [World.setCell] using h4, hk⟩
  bx := boxed_setOther gx _ _ hx
  by' := boxed_setOther gy _ _ hy
  rr := ownsRow_setCell_other grr (fun e => g9.not_row (by decide) grr e.symm) _
  below := gbw.setCell (p := ⟨a9, 0, none⟩) (by show w.heap.size ≤ a9; omega) _

/-- Between two bits: how many there were, which turn it is. -/
def YI (w0 : World) (kx tx : Nat) (t many : Int) (pre : List Bool) (W : World) : Prop :=
  Below w0.heap.size w0 W ∧ Boxed W kx 3 (.int .i64 pre.length) ∧ Boxed W tx 3 (.int .i64 t) ∧ (t = 0 → pre = [] ∨ (pre.length : Int) < many)
/-- Where a loop has left: after so many as were asked; any other way is none, because the bits are right. -/
def YX (w0 : World) (kx tx : Nat) (many : Int) (L : List Bool) (cx : Code) (pre : List Bool) (W : World) : Prop :=
  (cx = .exit 2 ∧ Below w0.heap.size w0 W ∧ Boxed W kx 3 (.int .i64 pre.length) ∧ Boxed W tx 3 (.int .i64 0) ∧ (pre.length : Int) = max 1 many) ∨ ¬ pre <+: L

theorem yi_own (w0 : World) (kx tx : Nat) (t many : Int) (C : Nat) (hC : w0.heap.size ≤ C) : OwnFrom C (YI w0 kx tx t many) := by
  rintro s W W' row ⟨h1, h2, h3, h4⟩ hg hr
  have hr' : ∀ r, row = some r → ∃ o : Obj, W.heap[r]? = some o ∧ o.isCells = false := fun r e => (hr r e).2
  exact ⟨h1.grown hg h1.size (fun k e => Nat.le_trans hC (hr k e).1), boxed_turn h2 hg hr', boxed_turn h3 hg hr', h4⟩
theorem yx_own (w0 : World) (kx tx : Nat) (many : Int) (L : List Bool) (cx : Code) (C : Nat) (hC : w0.heap.size ≤ C) : OwnFrom C (YX w0 kx tx many L cx) := by
  rintro s W W' row h hg hr
  have hr' : ∀ r, row = some r → ∃ o : Obj, W.heap[r]? = some o ∧ o.isCells = false := fun r e => (hr r e).2
  rcases h with ⟨h0, h1, h2, h3, h4⟩ | h
  · exact .inl ⟨h0, h1.grown hg h1.size (fun k e => Nat.le_trans hC (hr k e).1), boxed_turn h2 hg hr', boxed_turn h3 hg hr', h4⟩
  · exact .inr h

set_option maxRecDepth 100000 in
set_option maxHeartbeats 4000000 in
theorem yields_short (A : Option Addr) (c : Nat) (B : List Nat) (pl : Nat) (many : Int) (w : World) (hs : SrcAt w (.slice A B.length c) B) (hB : ∀ x ∈ B, x < 256) (hpl : pl ≤ 255) (hm : B.length ≤ 20) :
    Calls Try.prog 5 #[.slice A B.length c, .int .u8 pl, .int .i64 many] w fun e w' => e = .returned (.bool true) ∧ Below w.heap.size w w' := by
  have hmi : (B.length : Int) ≤ 20 := by omega
  have hbx := box2_below w (.int .i64 many) (.bool false) 3 4
  have hsz := box2_size w (.int .i64 many) (.bool false) 3 4
  have f1 := box2_1 w (.int .i64 many) (.bool false) 3 4
  have f2 := box2_2 w (.int .i64 many) (.bool false) 3 4
  have hs0 := hs.later hbx
  obtain ⟨w0, hw0⟩ : ∃ w0, box2 w (.int .i64 many) (.bool false) 3 4 = w0 := ⟨_, rfl⟩
  rw [hw0] at hbx hsz f1 f2 hs0
  have HW0 := Lib.hid hw0
  have HS0 := Lib.hid hs0
  have HBB := Lib.hid hB
  have HBX := Lib.hid hbx
  have HSZ := Lib.hid hsz
  have F1 := Lib.hid f1
  have F2 := Lib.hid f2
  clear hs hB hbx hsz f1 f2 hs0 hw0
  refine (callsIn_wide (n := 6)).1 ?_
  refine callsIn_of_wp_marks Try.func5 rfl trivial ?_ rfl
  simp only [Try.ntmps5, List.size_toArray, List.length_cons, List.length_nil, Nat.reduceAdd, Nat.reduceSub, Array.replicate_succ, Array.replicate_zero, List.push_toArray, List.append_toArray, List.nil_append, List.cons_append]
  gi_wp2_with fail
  refine ⟨trivial, ?_⟩
  have hw : (w.alloc (.cells #[.int .i64 many] 3)).alloc (.cells #[.bool false] 4) = w0 := HW0.out
  rw [hw]
  clear hw
  refine (callsIn_wide.2 (newReader_ok _ B w0 HS0.out (by omega))).mono ?_
  rintro e w1 ⟨rb, rv, rfl, hR1, hb1, hrb, hrv⟩
  have HR1 := Lib.hid hR1
  have HB1 := Lib.hid hb1
  have HRB := Lib.hid hrb
  have HRV := Lib.hid hrv
  have HS1 := Lib.hid (HS0.out.later hb1)
  clear hR1 hb1 hrb hrv
  gi_wp2_with fail
  refine ⟨trivial, ?_⟩
  refine (callsIn_wide.2 (refOf _ B w1 HS1.out HBB.out (by omega))).mono ?_
  rintro e w2 ⟨r, rfl, hrow2, hb2⟩
  rw [unpack_length] at hrow2
  have HROW2 := Lib.hid hrow2
  have HB2 := Lib.hid hb2
  have HR2 := Lib.hid (HR1.out.below hb2)
  clear hrow2 hb2
  obtain ⟨R, cap, rfl⟩ : ∃ R cap, r = .slice R (8 * B.length) cap := by
    rcases Joins.ownsRow_forms HROW2.out with ⟨rfl, h0⟩ | ⟨g, cap, rfl⟩
    · exact ⟨none, 0, by rw [h0]⟩
    · exact ⟨_, _, rfl⟩
  gi_wp2_with fail
  refine ⟨trivial, ?_⟩
  have hb3 : Below w2.heap.size w2 (w2.alloc (.cells #[.slice R (8 * B.length) cap] 27)) := (Below.refl _ w2).alloc (Nat.le_refl _) _
  have hbox3 := Boxed.new w2 27 (.slice R (8 * B.length) cap)
  obtain ⟨w3, hw3⟩ : ∃ w3, w2.alloc (.cells #[.slice R (8 * B.length) cap] 27) = w3 := ⟨_, rfl⟩
  rw [hw3] at hb3 hbox3 ⊢
  clear hw3
  obtain ⟨code, p, hcp, hp, hcall⟩ := skip_at rb rv B pl w3 (HR2.out.below hb3) (by omega)
  refine (callsIn_wide.2 hcall).mono ?_
  rintro e w4 ⟨rfl, hl4⟩
  have HB3 := Lib.hid hb3
  have HBOX3 := Lib.hid hbox3
  have HL4 := Lib.hid hl4
  have HP := Lib.hid hp
  have hq := eql52
  clear hb3 hbox3 hl4 hcall hp
  gi_upto_if 36 with fail
  gi_cut [10] from 15 (fun s10 wx => s10 = .int .i64 p ∧ wx = w4)
  case first =>
    rcases hcp with ⟨rfl, rfl⟩ | ⟨rfl, rfl⟩
    all_goals
      gi_wp2_with fail
      gi_meet
      case rel => exact ⟨rfl, rfl⟩
  case rest =>
  obtain ⟨rfl, hwc⟩ := hcut
  rw [hwc]
  clear hwc hcp
  gi_wp2_with fail
  refine ⟨trivial, ?_⟩
  refine (callsIn_wide.2 (bits_any rb rv B p w4 HL4.out.1)).mono ?_
  rintro e w5 ⟨x, y, rfl, bx, by', hb5, lx, ly⟩
  have HX := Lib.hid bx
  have HY := Lib.hid by'
  have HB5 := Lib.hid hb5
  have LX := Lib.hid lx
  have LY := Lib.hid ly
  have HR5 := Lib.hid (HL4.out.1.below hb5)
  clear bx by' hb5 lx ly
  gi_wp2_with fail
  refine ⟨trivial, ?_⟩
  refine (callsIn_wide.2 (left_any rb rv B p w5 HR5.out (by omega) HP.out)).mono ?_
  rintro e w6 ⟨rfl, nd, hw6⟩
  have hb6 : Below w5.heap.size w5 w6 := by rw [hw6]; exact below_drewN (Below.refl _ _) nd
  clear hw6
  have hm : 8 * (B.length : Int) - p = ((8 * B.length - p : Nat) : Int) := by have := HP.out; omega
  rw [hm]
  have HB6 := Lib.hid hb6
  clear hb6 hm
  gi_wp2_with fail
  refine ⟨trivial, ?_⟩
  refine (callsIn_wide.2 (skip_ok rb rv B p (8 * B.length - p) w6 (HR5.out.below HB6.out) (by omega) (by have := HP.out; omega))).mono ?_
  rintro e w7 ⟨rfl, hl7⟩
  have hrb0 := HRB.out
  have hs01 := HB1.out.size
  have hs12 := HB2.out.size
  have hs23 := HB3.out.size
  have hrb1 := HR1.out.obj.lt
  have hsz0 := HSZ.out
  have r37 : Rest (fun k => k = rb) w3 w7 := ((HL4.out.2.trans (Rest.below HB5.out) (fun _ _ e => e)).trans (Rest.below HB6.out) (fun _ _ e => e)).trans hl7.2 (fun _ _ e => e)
  have r57 : Rest (fun k => k = rb) w5 w7 := (Rest.below HB6.out).trans hl7.2 (fun _ _ e => e)
  have hb03 : Below w0.heap.size w0 w3 := (HB1.out.trans (HB2.out.mono hs01)).trans (HB3.out.mono (by omega))
  have r07 : Rest (fun k => k = rb) w0 w7 := (Rest.below hb03).trans r37 (fun _ _ e => e)
  have g5 : Boxed w7 w.heap.size 3 (.int .i64 many) := boxed_rest F1.out r07 (by omega)
  have g6 : Boxed w7 (w.heap.size + 1) 4 (.bool false) := boxed_rest F2.out r07 (by omega)
  have g9 : Boxed w7 w2.heap.size 27 (.slice R (8 * B.length) cap) := boxed_rest HBOX3.out r37 (by omega)
  have grow : w7.ownsRow w1.heap.size 4 1 (.slice R (8 * B.length) cap) (8 * B.length) (bools (unpack B)) := Rest.row r37 (Rest.row (S := fun _ => False) (Rest.below HB3.out) HROW2.out (fun _ _ e => e)) (fun k hk e => by have := row_ge HROW2.out k hk; omega)
  have hs34 := HL4.out.2.size
  have gx : Boxed w7 x 3 (.int .i64 p) := boxed_rest HX.out r57 (by have := LX.out; omega)
  have gy : Boxed w7 y 28 rv := boxed_rest HY.out r57 (by have := LY.out; omega)
  have grr : w7.ownsRow 0 5 1 rv B.length (u8s B) := hl7.1.row
  have gbw : Below w.heap.size w w7 := HBX.out.trans (r07.toBelow w.heap.size (by omega) (fun i hi e => by omega))
  have h93 := HBOX3.out.lt
  have NX := Lib.hid (show x ≠ w2.heap.size by have := LX.out; omega)
  have NY := Lib.hid (show y ≠ w2.heap.size by have := LY.out; omega)
  have HN9 := Lib.hid (show w.heap.size + 1 < w2.heap.size by omega)
  have G5 := Lib.hid g5
  have G6 := Lib.hid g6
  have G9 := Lib.hid g9
  have GROW := Lib.hid grow
  have GX := Lib.hid gx
  have GY := Lib.hid gy
  have GRR := Lib.hid grr
  have GBW := Lib.hid gbw
  clear h93 hl7 hrb0 hs01 hs12 hs23 hrb1 hsz0 r37 r57 hb03 r07 g5 g6 g9 grow gx gy grr gbw hs34 HS0 HS1 HR1 HR2 HR5 HL4 HB1 HB2 HB3 HB5 HB6 HRB HRV HROW2 HBOX3 HX HY F1 F2 HBX
  gi_upto_region 13 with fail
  gi_cut [] from 50 (fun wx => ∃ AV cv, YM w wx many B p x y rv w2.heap.size AV cv)
  case first =>
    have c9 := G9.out.cell
    have cf9 := G9.out.frozen
    have hp := HP.out
    have h9 : w.heap.size + 1 < w2.heap.size := HN9.out
    have hx9 : x ≠ w2.heap.size := NX.out
    have hy9 : y ≠ w2.heap.size := NY.out
    rcases Joins.ownsRow_forms GROW.out with ⟨hr0, h0⟩ | ⟨g, cap', hr0⟩
    · have hB0 : B.length = 0 := by omega
      obtain rfl : B = [] := List.eq_nil_of_length_eq_zero hB0
      obtain rfl : p = 0 := by simpa using hp
      simp only [List.length_nil, Nat.mul_zero, Value.slice.injEq] at hr0
      obtain ⟨rfl, -, rfl⟩ := hr0
      gi_wp2_with fail
      gi_meet
      case rel => exact ⟨none, 0, ym_set none 0 G5.out G6.out G9.out GX.out GY.out GRR.out GBW.out h9 hx9 hy9 (fun j z hj => by simp [unpack] at hj)⟩
    · simp only [Value.slice.injEq, true_and] at hr0
      obtain ⟨rfl, rfl⟩ := hr0
      have hg := GROW.out.cells (g := g) rfl
      have hg9 : g ≠ w2.heap.size := fun e => G9.out.not_row (by decide) GROW.out (by simp [Value.ownBlock, e])
      obtain ⟨hgl, hcap⟩ : g < w7.heap.size ∧ 8 * B.length ≤ cap := by
        rcases GROW.out.2 with ⟨h, _⟩ | ⟨g', _, _, h, _, hh, hcap, _⟩
        · cases h
        · cases h; exact ⟨(Array.getElem?_eq_some_iff.1 hh).1, hcap⟩
      have hcs : ∀ j z, ((unpack B).drop p)[j]? = some z → ∃ a, (some (⟨g, p, none⟩ : Addr)) = some a ∧ a.block ≠ w2.heap.size ∧ a.block < w7.heap.size ∧ w7.cell? (a.add j) = some (.bool z) := by
        intro j z hj
        refine ⟨_, rfl, hg9, hgl, ?_⟩
        rw [List.getElem?_drop] at hj
        have := hg (p + j) (.bool z) (by simp [bools, hj])
        rw [addr_add] at this ⊢
        rwa [Nat.zero_add] at this
      have HCS := Lib.hid hcs
      have HGL := Lib.hid hgl
      clear hg hg9 hcs hgl
      gi_wp2_with fail
      all_goals
        gi_meet
        case rel =>
          first
          | exact ⟨_, _, ym_set _ _ G5.out G6.out G9.out GX.out GY.out GRR.out GBW.out h9 hx9 hy9 HCS.out⟩
          | exact ⟨_, _, ym_set _ _ G5.out G6.out G9.out GX.out GY.out GRR.out GBW.out h9 hx9 hy9 (fun j z hj => by
              have hlt := (List.getElem?_eq_some_iff.1 hj).1
              rw [List.length_drop, unpack_length] at hlt
              omega)⟩
  case rest =>
  obtain ⟨AV, cv, hym⟩ := hcut
  have HYM := Lib.hid hym
  clear hym G5 G6 G9 GROW GX GY GRR GBW NX NY HN9
  gi_wp2_with fail
  have hbA : Below wc.heap.size wc (wc.alloc (.cells #[.int .i64 0] 3)) := (Below.refl _ wc).alloc (Nat.le_refl _) _
  have hboxA := Boxed.new wc 3 (.int .i64 0)
  obtain ⟨wA, hwA⟩ : ∃ wA, wc.alloc (.cells #[.int .i64 0] 3) = wA := ⟨_, rfl⟩
  rw [hwA] at hbA hboxA ⊢
  clear hwA
  have HBA := Lib.hid hbA
  have HTA := Lib.hid hboxA
  have hAlt0 := hboxA.lt
  clear hbA hboxA
  have hlL : ((unpack B).drop p).length = 8 * B.length - p := by rw [List.length_drop, unpack_length]
  have HLL := Lib.hid hlL
  clear hlL
  refine wpIn_loop_rounds 3 ?_
  rw [roundsIn_succ]
  have ctA := HTA.out.cell
  gi_wp2_with fail
  clear ctA
  have hbB : Below wA.heap.size wA (wA.alloc (.cells #[.int .i64 0] 3)) := (Below.refl _ wA).alloc (Nat.le_refl _) _
  have hboxB := Boxed.new wA 3 (.int .i64 0)
  obtain ⟨wB, hwB⟩ : ∃ wB, wA.alloc (.cells #[.int .i64 0] 3) = wB := ⟨_, rfl⟩
  rw [hwB] at hbB hboxB ⊢
  clear hwB
  have hbcB := HBA.out.trans (hbB.mono HBA.out.size)
  have hyB := HYM.out.later hbcB
  have HTB := Lib.hid (boxed_below HTA.out hbB HTA.out.lt)
  have HKB := Lib.hid hboxB
  have HBB2 := Lib.hid hbcB
  have HYB := Lib.hid hyB
  clear hbB hboxB hbcB hyB HTA
  have hsAB : wc.heap.size ≤ wB.heap.size := HBB2.out.size
  have hrvlt : ∀ k, rv.ownBlock = some k → k < wc.heap.size := fun k hk => by
    rcases HYM.out.rr.2 with ⟨h, _⟩ | ⟨g', _, _, h, _, hh, _⟩
    · rw [h] at hk; cases hk
    · rw [h] at hk; cases hk; exact (Array.getElem?_eq_some_iff.1 hh).1
  have HRVL := Lib.hid hrvlt
  have hxlt := HYM.out.bx.lt
  have hylt := HYM.out.by'.lt
  have hAlt : wc.heap.size < wA.heap.size := hAlt0
  have hwlt := HYM.out.b5.lt
  have hcA : wc.heap.size ≤ wA.heap.size := by omega
  have n1 : wc.heap.size ≠ wA.heap.size := by omega
  have n2 : w.heap.size ≠ wA.heap.size := by omega
  have n3 : wA.heap.size ≠ wc.heap.size := by omega
  have n4 : wA.heap.size ≠ w.heap.size := by omega
  clear hrvlt hAlt hwlt hAlt0
  refine wpIn_rangeFunc_ownF rfl (by decide) (gf := 62) (lb := #[.pointer (some ⟨x, 0, none⟩), .pointer (some ⟨y, 0, none⟩)]) rfl trivial Try.ent62
    (bits_stops (6 - 1) (by decide) x y rv B HBB.out (by omega) p HP.out wB HYB.out.bx.cell HYB.out.by'.cell HYB.out.rr HYB.out.bx.lt HYB.out.by'.lt) keptOn_t (keptOn_b HYB.out.bx.lt HYB.out.by'.lt (fun k hk => Nat.lt_of_lt_of_le (HRVL.out k hk) hsAB)) (Below.refl _ _) (fun _ => rfl)
    (YI wc wA.heap.size wc.heap.size 0 many) (YX wc wA.heap.size wc.heap.size many ((unpack B).drop p)) (yi_own _ _ _ _ _ _ hsAB) (fun cx => yx_own _ _ _ _ _ cx _ hsAB) ⟨HBB2.out, HKB.out, HTB.out, fun _ => .inl rfl⟩ ?a1 ?assign ?body ?done ?stop
  case assign =>
    intro l x W K hK
    have HK := Lib.hid hK
    clear hK
    gi_wp2
    exact HK.out
  case body =>
    rintro lo pre z W ⟨h1, h2, h3, h4⟩ hlt
    obtain ⟨b, hb⟩ : ∃ b, ((unpack B).drop p)[pre.length]? = some b := ⟨_, List.getElem?_eq_getElem (by rw [HLL.out]; exact hlt)⟩
    have hyW := HYM.out.later h1
    obtain ⟨a, hav, hal, hac⟩ := hyW.cells _ _ hb
    subst hav
    have c5 := hyW.b5.cell
    have c6 := hyW.b6.cell
    have c9 := hyW.b9.cell
    have ck := h2.cell
    have ct := h3.cell
    have f6 := hyW.b6.frozen
    have fk := h2.frozen
    have H1 := Lib.hid h1
    have H2 := Lib.hid h2
    have H3 := Lib.hid h3
    have H4 := Lib.hid h4
    have HB0 := Lib.hid hb
    have HYW := Lib.hid hyW
    have hlti : (pre.length : Int) < ((8 * B.length - p : Nat) : Int) := by omega
    clear h1 h2 h3 h4 hb hyW
    have hkk : ∀ u, KeptOn x y rv W (W.setCell ⟨wA.heap.size, 0, none⟩ u) := fun u =>
      KeptOn.rest (S := fun k => k = wA.heap.size) (Rest.setCell (S := fun k => k = wA.heap.size) (Rest.refl _ W) (p := ⟨wA.heap.size, 0, none⟩) (fun _ => rfl) u) HYW.out.bx.lt HYW.out.by'.lt (fun k hk => Nat.lt_of_lt_of_le (HRVL.out k hk) H1.out.size) (by omega) (by omega) (fun k hk e => by have := HRVL.out k hk; omega)
    have HKK := Lib.hid hkk
    clear hkk
    by_cases hzb : z = b
    · subst hzb
      gi_wp2_with fail
      · refine ⟨KeepsOthers.setCell _ _ _, .inl ⟨rfl, H1.out.setCell (p := ⟨wA.heap.size, 0, none⟩) hcA _, ?_, boxed_setOther H3.out _ _ n1, ?_⟩⟩
        · rw [snoc_len]
          exact Boxed.set _ H2.out
        · rw [snoc_len]
          rcases H4.out trivial with rfl | h
          · simp at *; omega
          · omega
      · refine ⟨KeepsOthers.setCell _ _ _, HKK.out _, H1.out.setCell (p := ⟨wA.heap.size, 0, none⟩) hcA _, ?_, boxed_setOther H3.out _ _ n1, fun _ => .inr ?_⟩
        · rw [snoc_len]
          exact Boxed.set _ H2.out
        · rw [snoc_len]
          omega
    · have HNE := Lib.hid hzb
      clear hzb
      cases z <;> cases b
      all_goals first | exact absurd rfl HNE.out | skip
      all_goals
        gi_wp2_with fail
        refine ⟨KeepsOthers.setCell _ _ _, .inr fun hpf => ?_⟩
        obtain ⟨t, ht⟩ := hpf
        have hg := HB0.out
        rw [← ht] at hg
        simp at hg
  case done =>
    rintro D xs W hD rfl ⟨hw1, hk1, ht1, h41⟩ hK
    have hk2 : Boxed W wA.heap.size 3 (.int .i64 (min ((8 * B.length - p : Nat) : Int) (max 1 many))) := by
      have e : (((unpack B).drop p).length : Int) = min ((8 * B.length - p : Nat) : Int) (max 1 many) := by
        have := HLL.out
        rcases h41 rfl with h | h
        · rw [h] at this ⊢; simp at this ⊢; omega
        · omega
      rwa [e] at hk1
    clear h41 hk1
    have hyW := HYM.out.later hw1
    have c5 := hyW.b5.cell
    have c9 := hyW.b9.cell
    have ck := hk2.cell
    have ct := ht1.cell
    have HW1 := Lib.hid hw1
    have HK := Lib.hid hK
    have HYW := Lib.hid hyW
    clear hw1 hk2 ht1 hK hyW
    gi_wp2_with fail
    clear c5 c9 ck ct
    have hbE : Below W.heap.size W (W.alloc (.cells #[.int .i64 1] 3)) := (Below.refl _ W).alloc (Nat.le_refl _) _
    have hboxE := Boxed.new W 3 (.int .i64 1)
    obtain ⟨wE, hwE⟩ : ∃ wE, W.alloc (.cells #[.int .i64 1] 3) = wE := ⟨_, rfl⟩
    rw [hwE] at hbE hboxE ⊢
    clear hwE
    have HKE := Lib.hid ((hbE.block D (Array.getElem?_eq_some_iff.1 HK.out).1).trans HK.out)
    have HYE := Lib.hid (HYW.out.later hbE)
    have HTE := Lib.hid hboxE
    have hDE : D < wE.heap.size := (Array.getElem?_eq_some_iff.1 HKE.out).1
    have hEl : W.heap.size < wE.heap.size := hboxE.lt
    have hDw : w.heap.size ≤ D := by have := HYM.out.b5.lt; omega
    have hwE : w.heap.size < wE.heap.size := HYE.out.b5.lt
    have hxE := HYE.out.bx.lt
    have hyE := HYE.out.by'.lt
    have hcE : wc.heap.size ≤ wE.heap.size := Nat.le_trans HW1.out.size hbE.size
    have hrE : ∀ k, rv.ownBlock = some k → k < wE.heap.size := fun k hk => Nat.lt_of_lt_of_le (HRVL.out k hk) hcE
    have HRE := Lib.hid hrE
    clear hbE hboxE HYW HK hrE hsAB hxlt hylt hcA n1 n2 n3 n4
    rw [roundsIn_succ]
    have ctE := HTE.out.cell
    gi_wp2_with fail
    clear ctE
    have hbF : Below wE.heap.size wE (wE.alloc (.cells #[.int .i64 0] 3)) := (Below.refl _ wE).alloc (Nat.le_refl _) _
    have hboxF := Boxed.new wE 3 (.int .i64 0)
    obtain ⟨wF, hwF⟩ : ∃ wF, wE.alloc (.cells #[.int .i64 0] 3) = wF := ⟨_, rfl⟩
    rw [hwF] at hbF hboxF ⊢
    clear hwF
    have HYF := Lib.hid (HYE.out.later hbF)
    have HBF := Lib.hid hbF
    have HKF := Lib.hid hboxF
    have HTF := Lib.hid (boxed_below HTE.out hbF HTE.out.lt)
    have hsEF : wE.heap.size ≤ wF.heap.size := hbF.size
    have n1 : W.heap.size ≠ wE.heap.size := by omega
    have n2 : w.heap.size ≠ wE.heap.size := by omega
    have n3 : wE.heap.size ≠ W.heap.size := by omega
    have n4 : wE.heap.size ≠ w.heap.size := by omega
    clear hbF hboxF hEl
    refine wpIn_rangeFunc_ownF rfl (by decide) (gf := 62) (lb := #[.pointer (some ⟨x, 0, none⟩), .pointer (some ⟨y, 0, none⟩)]) rfl trivial Try.ent62
      (bits_stops (6 - 1) (by decide) x y rv B HBB.out (by omega) p HP.out wF HYF.out.bx.cell HYF.out.by'.cell HYF.out.rr HYF.out.bx.lt HYF.out.by'.lt) keptOn_t (keptOn_b HYF.out.bx.lt HYF.out.by'.lt (fun k hk => Nat.lt_of_lt_of_le (HRE.out k hk) hsEF)) (Below.refl _ _) (fun _ => rfl)
      (YI wE wE.heap.size W.heap.size 1 many) (fun _ pre _ => ¬ pre <+: (unpack B).drop p) (yi_own _ _ _ _ _ _ hsEF) (fun _ _ _ _ _ h _ _ => h) ⟨HBF.out, HKF.out, HTF.out, fun h => absurd h (by decide)⟩ ?a2 ?assign2 ?body2 ?done2 ?stop2
    case assign2 =>
      intro l x W K hK
      have HK := Lib.hid hK
      clear hK
      gi_wp2
      exact HK.out
    case stop2 =>
      rintro D2 cx pre W2 _ hS2 hX2 _
      exact absurd hS2 hX2
    case body2 =>
      rintro lo pre2 z W2 ⟨h1, h2, h3, _⟩ hlt
      obtain ⟨b, hb⟩ : ∃ b, ((unpack B).drop p)[pre2.length]? = some b := ⟨_, List.getElem?_eq_getElem (by rw [HLL.out]; exact hlt)⟩
      have hyW := HYE.out.later h1
      obtain ⟨a, hav, hal, hac⟩ := hyW.cells _ _ hb
      subst hav
      have c5 := hyW.b5.cell
      have c6 := hyW.b6.cell
      have c9 := hyW.b9.cell
      have ck := h2.cell
      have ct := h3.cell
      have f6 := hyW.b6.frozen
      have fk := h2.frozen
      have H1 := Lib.hid h1
      have H2 := Lib.hid h2
      have H3 := Lib.hid h3
      have HB0 := Lib.hid hb
      have HYW := Lib.hid hyW
      have hlti : (pre2.length : Int) < ((8 * B.length - p : Nat) : Int) := by omega
      clear h1 h2 h3 hb hyW
      have hkk : ∀ u, KeptOn x y rv W2 (W2.setCell ⟨wE.heap.size, 0, none⟩ u) := fun u =>
        KeptOn.rest (S := fun k => k = wE.heap.size) (Rest.setCell (S := fun k => k = wE.heap.size) (Rest.refl _ W2) (p := ⟨wE.heap.size, 0, none⟩) (fun _ => rfl) u) HYW.out.bx.lt HYW.out.by'.lt (fun k hk => Nat.lt_of_lt_of_le (HRE.out k hk) H1.out.size) (by omega) (by omega) (fun k hk e => by have := HRE.out k hk; omega)
      have HKK := Lib.hid hkk
      clear hkk
      by_cases hzb : z = b
      · subst hzb
        gi_wp2_with fail
        refine ⟨KeepsOthers.setCell _ _ _, HKK.out _, H1.out.setCell (p := ⟨wE.heap.size, 0, none⟩) (Nat.le_refl _) _, ?_, boxed_setOther H3.out _ _ n1, fun h => absurd h (by decide)⟩
        rw [snoc_len]
        exact Boxed.set _ H2.out
      · have HNE := Lib.hid hzb
        clear hzb
        cases z <;> cases b
        all_goals first | exact absurd rfl HNE.out | skip
        all_goals
          gi_wp2_with fail
          refine ⟨KeepsOthers.setCell _ _ _, fun hpf => ?_⟩
          obtain ⟨t, ht⟩ := hpf
          have hg := HB0.out
          rw [← ht] at hg
          simp at hg
    case done2 =>
      rintro D2 xs W2 hD2 rfl ⟨hw2, hk2, ht2, _⟩ hK2
      rw [HLL.out] at hk2
      have hyW := HYE.out.later hw2
      have c5 := hyW.b5.cell
      have c9 := hyW.b9.cell
      have ck := hk2.cell
      have ct := ht2.cell
      have HKD := Lib.hid ((hw2.block D hDE).trans HKE.out)
      have HKD2 := Lib.hid hK2
      have HYW := Lib.hid hyW
      clear hw2 hk2 ht2 hyW hK2
      gi_wp2_with fail
      clear c5 c9 ck ct
      have hbG : Below W2.heap.size W2 (W2.alloc (.cells #[.int .i64 2] 3)) := (Below.refl _ W2).alloc (Nat.le_refl _) _
      have hboxG := Boxed.new W2 3 (.int .i64 2)
      obtain ⟨wG, hwG⟩ : ∃ wG, W2.alloc (.cells #[.int .i64 2] 3) = wG := ⟨_, rfl⟩
      rw [hwG] at hbG hboxG ⊢
      clear hwG
      have HKG := Lib.hid ((hbG.block D (Array.getElem?_eq_some_iff.1 HKD.out).1).trans HKD.out)
      have HKG2 := Lib.hid ((hbG.block D2 (Array.getElem?_eq_some_iff.1 HKD2.out).1).trans HKD2.out)
      have HYG := Lib.hid (HYW.out.later hbG)
      have ctG := hboxG.cell
      have hne : D ≠ D2 := by omega
      have hDw2 : w.heap.size ≤ D2 := by omega
      clear hbG hboxG HKD HKD2 HYW
      rw [roundsIn_succ]
      gi_wp2_with fail
      clear ctG
      refine ⟨trivial, ?_⟩
      refine (callsIn_wide.2 (known_any _)).mono ?_
      rintro e w8 ⟨rfl, hb8⟩
      have hy8 := HYG.out.later hb8
      have HK5 := Lib.hid ((hb8.block D (Array.getElem?_eq_some_iff.1 HKG.out).1).trans HKG.out)
      have HK6 := Lib.hid ((hb8.block D2 (Array.getElem?_eq_some_iff.1 HKG2.out).1).trans HKG2.out)
      have cr := hy8.b6.cell
      have cf := hy8.b6.frozen
      have HY8 := Lib.hid hy8
      clear hb8 hy8 HYG HKG HKG2
      gi_wp2
      have hb9 := Boxed.set (.bool true) HY8.out.b6
      have n5 : D ≠ w.heap.size + 1 := fun e => by
        have hx := HK5.out
        rw [e, show w8.heap[w.heap.size + 1]? = _ from HY8.out.b6] at hx
        cases hx
      have n6 : D2 ≠ w.heap.size + 1 := fun e => by
        have hx := HK6.out
        rw [e, show w8.heap[w.heap.size + 1]? = _ from HY8.out.b6] at hx
        cases hx
      have k1 := (Below.heap_setCell w8 ⟨w.heap.size + 1, 0, none⟩ (.bool true) D n5).trans HK5.out
      have k2 := (Below.heap_setCell w8 ⟨w.heap.size + 1, 0, none⟩ (.bool true) D2 n6).trans HK6.out
      have hbw := HY8.out.below.setCell (p := ⟨w.heap.size + 1, 0, none⟩) (Nat.le_succ _) (.bool true)
      obtain ⟨w9, hw9⟩ : ∃ w9, w8.setCell ⟨w.heap.size + 1, 0, none⟩ (.bool true) = w9 := ⟨_, rfl⟩
      rw [hw9] at hb9 k1 k2 hbw ⊢
      clear hw9 cr cf HK5 HK6 HY8
      have k3 : (w9.putObj D2 (.deferred none)).heap[D]? = _ := (World.putObj_heap_other hne).trans k1
      have hb10 : Boxed (w9.putObj D2 (.deferred none)) (w.heap.size + 1) 4 (.bool true) := (World.putObj_heap_other n6.symm).trans hb9
      have hb11 : Boxed ((w9.putObj D2 (.deferred none)).putObj D (.deferred none)) (w.heap.size + 1) 4 (.bool true) := (World.putObj_heap_other n5.symm).trans hb10
      have hbw2 := hbw.grown (grownBy_putObj' w9 D2 (.deferred none)) hbw.size (fun k e => by cases e; exact hDw2)
      have hbw3 := hbw2.grown (grownBy_putObj' (w9.putObj D2 (.deferred none)) D (.deferred none)) hbw2.size (fun k e => by cases e; exact hDw)
      refine ⟨by simp, .inl ⟨_, _, rfl, run_takeDeferred k2, ?_⟩⟩
      refine ⟨by simp, .inl ⟨_, _, rfl, run_takeDeferred k3, ?_⟩⟩
      exact ⟨.bool true, by simp [results, Try.results5, go_sem, hb11.cell], rfl, hbw3⟩
  case stop =>
    rintro D cx pre W hD hS hX hK
    obtain ⟨rfl, hw1, hk1, ht1, h41⟩ := hX.resolve_right (fun h => h hS)
    have hk2 : Boxed W wA.heap.size 3 (.int .i64 (min ((8 * B.length - p : Nat) : Int) (max 1 many))) := by
      have e : (pre.length : Int) = min ((8 * B.length - p : Nat) : Int) (max 1 many) := by
        have := HLL.out
        have hle := hS.length_le
        omega
      rwa [e] at hk1
    clear h41 hk1 hX hS
    have hyW := HYM.out.later hw1
    have c5 := hyW.b5.cell
    have c9 := hyW.b9.cell
    have ck := hk2.cell
    have ct := ht1.cell
    have HW1 := Lib.hid hw1
    have HK := Lib.hid hK
    have HYW := Lib.hid hyW
    clear hw1 hk2 ht1 hK hyW
    gi_wp2_with fail
    clear c5 c9 ck ct
    have hbE : Below W.heap.size W (W.alloc (.cells #[.int .i64 1] 3)) := (Below.refl _ W).alloc (Nat.le_refl _) _
    have hboxE := Boxed.new W 3 (.int .i64 1)
    obtain ⟨wE, hwE⟩ : ∃ wE, W.alloc (.cells #[.int .i64 1] 3) = wE := ⟨_, rfl⟩
    rw [hwE] at hbE hboxE ⊢
    clear hwE
    have HKE := Lib.hid ((hbE.block D (Array.getElem?_eq_some_iff.1 HK.out).1).trans HK.out)
    have HYE := Lib.hid (HYW.out.later hbE)
    have HTE := Lib.hid hboxE
    have hDE : D < wE.heap.size := (Array.getElem?_eq_some_iff.1 HKE.out).1
    have hEl : W.heap.size < wE.heap.size := hboxE.lt
    have hDw : w.heap.size ≤ D := by have := HYM.out.b5.lt; omega
    have hwE : w.heap.size < wE.heap.size := HYE.out.b5.lt
    have hxE := HYE.out.bx.lt
    have hyE := HYE.out.by'.lt
    have hcE : wc.heap.size ≤ wE.heap.size := Nat.le_trans HW1.out.size hbE.size
    have hrE : ∀ k, rv.ownBlock = some k → k < wE.heap.size := fun k hk => Nat.lt_of_lt_of_le (HRVL.out k hk) hcE
    have HRE := Lib.hid hrE
    clear hbE hboxE HYW HK hrE hsAB hxlt hylt hcA n1 n2 n3 n4
    rw [roundsIn_succ]
    have ctE := HTE.out.cell
    gi_wp2_with fail
    clear ctE
    have hbF : Below wE.heap.size wE (wE.alloc (.cells #[.int .i64 0] 3)) := (Below.refl _ wE).alloc (Nat.le_refl _) _
    have hboxF := Boxed.new wE 3 (.int .i64 0)
    obtain ⟨wF, hwF⟩ : ∃ wF, wE.alloc (.cells #[.int .i64 0] 3) = wF := ⟨_, rfl⟩
    rw [hwF] at hbF hboxF ⊢
    clear hwF
    have HYF := Lib.hid (HYE.out.later hbF)
    have HBF := Lib.hid hbF
    have HKF := Lib.hid hboxF
    have HTF := Lib.hid (boxed_below HTE.out hbF HTE.out.lt)
    have hsEF : wE.heap.size ≤ wF.heap.size := hbF.size
    have n1 : W.heap.size ≠ wE.heap.size := by omega
    have n2 : w.heap.size ≠ wE.heap.size := by omega
    have n3 : wE.heap.size ≠ W.heap.size := by omega
    have n4 : wE.heap.size ≠ w.heap.size := by omega
    clear hbF hboxF hEl
    refine wpIn_rangeFunc_ownF rfl (by decide) (gf := 62) (lb := #[.pointer (some ⟨x, 0, none⟩), .pointer (some ⟨y, 0, none⟩)]) rfl trivial Try.ent62
      (bits_stops (6 - 1) (by decide) x y rv B HBB.out (by omega) p HP.out wF HYF.out.bx.cell HYF.out.by'.cell HYF.out.rr HYF.out.bx.lt HYF.out.by'.lt) keptOn_t (keptOn_b HYF.out.bx.lt HYF.out.by'.lt (fun k hk => Nat.lt_of_lt_of_le (HRE.out k hk) hsEF)) (Below.refl _ _) (fun _ => rfl)
      (YI wE wE.heap.size W.heap.size 1 many) (fun _ pre _ => ¬ pre <+: (unpack B).drop p) (yi_own _ _ _ _ _ _ hsEF) (fun _ _ _ _ _ h _ _ => h) ⟨HBF.out, HKF.out, HTF.out, fun h => absurd h (by decide)⟩ ?a3 ?assign3 ?body3 ?done3 ?stop3
    case assign3 =>
      intro l x W K hK
      have HK := Lib.hid hK
      clear hK
      gi_wp2
      exact HK.out
    case stop3 =>
      rintro D2 cx pre W2 _ hS2 hX2 _
      exact absurd hS2 hX2
    case body3 =>
      rintro lo pre2 z W2 ⟨h1, h2, h3, _⟩ hlt
      obtain ⟨b, hb⟩ : ∃ b, ((unpack B).drop p)[pre2.length]? = some b := ⟨_, List.getElem?_eq_getElem (by rw [HLL.out]; exact hlt)⟩
      have hyW := HYE.out.later h1
      obtain ⟨a, hav, hal, hac⟩ := hyW.cells _ _ hb
      subst hav
      have c5 := hyW.b5.cell
      have c6 := hyW.b6.cell
      have c9 := hyW.b9.cell
      have ck := h2.cell
      have ct := h3.cell
      have f6 := hyW.b6.frozen
      have fk := h2.frozen
      have H1 := Lib.hid h1
      have H2 := Lib.hid h2
      have H3 := Lib.hid h3
      have HB0 := Lib.hid hb
      have HYW := Lib.hid hyW
      have hlti : (pre2.length : Int) < ((8 * B.length - p : Nat) : Int) := by omega
      clear h1 h2 h3 hb hyW
      have hkk : ∀ u, KeptOn x y rv W2 (W2.setCell ⟨wE.heap.size, 0, none⟩ u) := fun u =>
        KeptOn.rest (S := fun k => k = wE.heap.size) (Rest.setCell (S := fun k => k = wE.heap.size) (Rest.refl _ W2) (p := ⟨wE.heap.size, 0, none⟩) (fun _ => rfl) u) HYW.out.bx.lt HYW.out.by'.lt (fun k hk => Nat.lt_of_lt_of_le (HRE.out k hk) H1.out.size) (by omega) (by omega) (fun k hk e => by have := HRE.out k hk; omega)
      have HKK := Lib.hid hkk
      clear hkk
      by_cases hzb : z = b
      · subst hzb
        gi_wp2_with fail
        refine ⟨KeepsOthers.setCell _ _ _, HKK.out _, H1.out.setCell (p := ⟨wE.heap.size, 0, none⟩) (Nat.le_refl _) _, ?_, boxed_setOther H3.out _ _ n1, fun h => absurd h (by decide)⟩
        rw [snoc_len]
        exact Boxed.set _ H2.out
      · have HNE := Lib.hid hzb
        clear hzb
        cases z <;> cases b
        all_goals first | exact absurd rfl HNE.out | skip
        all_goals
          gi_wp2_with fail
          refine ⟨KeepsOthers.setCell _ _ _, fun hpf => ?_⟩
          obtain ⟨t, ht⟩ := hpf
          have hg := HB0.out
          rw [← ht] at hg
          simp at hg
    case done3 =>
      rintro D2 xs W2 hD2 rfl ⟨hw2, hk2, ht2, _⟩ hK2
      rw [HLL.out] at hk2
      have hyW := HYE.out.later hw2
      have c5 := hyW.b5.cell
      have c9 := hyW.b9.cell
      have ck := hk2.cell
      have ct := ht2.cell
      have HKD := Lib.hid ((hw2.block D hDE).trans HKE.out)
      have HKD2 := Lib.hid hK2
      have HYW := Lib.hid hyW
      clear hw2 hk2 ht2 hyW hK2
      gi_wp2_with fail
      clear c5 c9 ck ct
      have hbG : Below W2.heap.size W2 (W2.alloc (.cells #[.int .i64 2] 3)) := (Below.refl _ W2).alloc (Nat.le_refl _) _
      have hboxG := Boxed.new W2 3 (.int .i64 2)
      obtain ⟨wG, hwG⟩ : ∃ wG, W2.alloc (.cells #[.int .i64 2] 3) = wG := ⟨_, rfl⟩
      rw [hwG] at hbG hboxG ⊢
      clear hwG
      have HKG := Lib.hid ((hbG.block D (Array.getElem?_eq_some_iff.1 HKD.out).1).trans HKD.out)
      have HKG2 := Lib.hid ((hbG.block D2 (Array.getElem?_eq_some_iff.1 HKD2.out).1).trans HKD2.out)
      have HYG := Lib.hid (HYW.out.later hbG)
      have ctG := hboxG.cell
      have hne : D ≠ D2 := by omega
      have hDw2 : w.heap.size ≤ D2 := by omega
      clear hbG hboxG HKD HKD2 HYW
      rw [roundsIn_succ]
      gi_wp2_with fail
      clear ctG
      refine ⟨trivial, ?_⟩
      refine (callsIn_wide.2 (known_any _)).mono ?_
      rintro e w8 ⟨rfl, hb8⟩
      have hy8 := HYG.out.later hb8
      have HK5 := Lib.hid ((hb8.block D (Array.getElem?_eq_some_iff.1 HKG.out).1).trans HKG.out)
      have HK6 := Lib.hid ((hb8.block D2 (Array.getElem?_eq_some_iff.1 HKG2.out).1).trans HKG2.out)
      have cr := hy8.b6.cell
      have cf := hy8.b6.frozen
      have HY8 := Lib.hid hy8
      clear hb8 hy8 HYG HKG HKG2
      gi_wp2
      have hb9 := Boxed.set (.bool true) HY8.out.b6
      have n5 : D ≠ w.heap.size + 1 := fun e => by
        have hx := HK5.out
        rw [e, show w8.heap[w.heap.size + 1]? = _ from HY8.out.b6] at hx
        cases hx
      have n6 : D2 ≠ w.heap.size + 1 := fun e => by
        have hx := HK6.out
        rw [e, show w8.heap[w.heap.size + 1]? = _ from HY8.out.b6] at hx
        cases hx
      have k1 := (Below.heap_setCell w8 ⟨w.heap.size + 1, 0, none⟩ (.bool true) D n5).trans HK5.out
      have k2 := (Below.heap_setCell w8 ⟨w.heap.size + 1, 0, none⟩ (.bool true) D2 n6).trans HK6.out
      have hbw := HY8.out.below.setCell (p := ⟨w.heap.size + 1, 0, none⟩) (Nat.le_succ _) (.bool true)
      obtain ⟨w9, hw9⟩ : ∃ w9, w8.setCell ⟨w.heap.size + 1, 0, none⟩ (.bool true) = w9 := ⟨_, rfl⟩
      rw [hw9] at hb9 k1 k2 hbw ⊢
      clear hw9 cr cf HK5 HK6 HY8
      have k3 : (w9.putObj D2 (.deferred none)).heap[D]? = _ := (World.putObj_heap_other hne).trans k1
      have hb10 : Boxed (w9.putObj D2 (.deferred none)) (w.heap.size + 1) 4 (.bool true) := (World.putObj_heap_other n6.symm).trans hb9
      have hb11 : Boxed ((w9.putObj D2 (.deferred none)).putObj D (.deferred none)) (w.heap.size + 1) 4 (.bool true) := (World.putObj_heap_other n5.symm).trans hb10
      have hbw2 := hbw.grown (grownBy_putObj' w9 D2 (.deferred none)) hbw.size (fun k e => by cases e; exact hDw2)
      have hbw3 := hbw2.grown (grownBy_putObj' (w9.putObj D2 (.deferred none)) D (.deferred none)) hbw2.size (fun k e => by cases e; exact hDw)
      refine ⟨by simp, .inl ⟨_, _, rfl, run_takeDeferred k2, ?_⟩⟩
      refine ⟨by simp, .inl ⟨_, _, rfl, run_takeDeferred k3, ?_⟩⟩
      exact ⟨.bool true, by simp [results, Try.results5, go_sem, hb11.cell], rfl, hbw3⟩
end Go.Proofs.Ytboiiohpkoodpaa
