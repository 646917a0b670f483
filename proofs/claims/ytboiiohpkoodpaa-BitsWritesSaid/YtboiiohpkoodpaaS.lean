/- Bits returns an iterator over the bits from the place on. Conditions: the reader lies in memory and has at most 1048576 bytes; the body of the loop leaves the iterator's variables and the bytes as they are. -/
import Derived.Test.YtboiiohpkoodpaaR
namespace Go.Proofs.Ytboiiohpkoodpaa
open Go.RowKit Go.Shelf
attribute [local go_sem] Oper.semAt_some

/-- The iterator over the bits from a place on. -/
def GotBits (w : World) (v : Value) (p : Nat) (e : Ending) (w' : World) : Prop :=
  ∃ x y, e = .returned (.func (.func 62) #[] #[.pointer (some ⟨x, 0, none⟩), .pointer (some ⟨y, 0, none⟩)]) ∧ Boxed w' x 3 (.int .i64 p) ∧ Boxed w' y 28 v ∧ Below w.heap.size w w' ∧ w.heap.size ≤ x ∧ w.heap.size ≤ y

theorem got1 (w : World) (v : Value) (p : Nat) : GotBits w v p (.returned (.func (.func 62) #[] #[.pointer (some ⟨w.heap.size + 1, 0, none⟩), .pointer (some ⟨w.heap.size, 0, none⟩)])) ((w.alloc (.cells #[v] 28)).alloc (.cells #[.int .i64 p] 3)).drew :=
  ⟨w.heap.size + 1, w.heap.size, rfl, by have := box2_2 w v (.int .i64 p) 28 3; exact this, by have := box2_1 w v (.int .i64 p) 28 3; exact this, (((Below.refl _ w).alloc (Nat.le_refl _) _).alloc (by simp) _).drew, by omega, Nat.le_refl _⟩
theorem got2 (w : World) (v : Value) (p : Nat) : GotBits w v p (.returned (.func (.func 62) #[] #[.pointer (some ⟨w.heap.size, 0, none⟩), .pointer (some ⟨w.heap.size + 1, 0, none⟩)])) ((w.alloc (.cells #[.int .i64 p] 3)).alloc (.cells #[v] 28)).drew :=
  ⟨w.heap.size, w.heap.size + 1, rfl, by have := box2_1 w (.int .i64 p) v 3 28; exact this, by have := box2_2 w (.int .i64 p) v 3 28; exact this, (((Below.refl _ w).alloc (Nat.le_refl _) _).alloc (by simp) _).drew, Nat.le_refl _, by omega⟩

set_option maxRecDepth 100000 in
set_option maxHeartbeats 800000 in
theorem bits_any (b : Nat) (v : Value) (B : List Nat) (p : Nat) (w : World) (h : RAt w b v B p) :
    Calls Try.prog 27 #[.pointer (some ⟨b, 0, none⟩)] w (GotBits w v p) := by
  have c0 := h.obj.c0
  have c1 := h.obj.c1
  have c2 := h.obj.c2
  have hb := h.obj.lt
  rcases Joins.ownsRow_forms h.row with ⟨rfl, _⟩ | ⟨g, cap, rfl⟩
  all_goals
    clear h
    go_enter Try.func27, Try.ntmps27
    go_wp2_with (go_at_call 53; go_must (refine (rnone_no b _ c0).mono ?_); rintro e w1 ⟨rfl, rfl⟩)
    go_region
    all_goals
      go_wp2
      go_ret
      first | exact got1 _ _ _ | exact got2 _ _ _

/-- What a round must leave as it is: the iterator's variables and the bytes. -/
def KeptOn (x y : Nat) (v : Value) (W W' : World) : Prop := W'.heap[x]? = W.heap[x]? ∧ W'.heap[y]? = W.heap[y]? ∧ ∀ k, v.ownBlock = some k → W'.heap[k]? = W.heap[k]?
theorem keptOn_t {x y : Nat} {v : Value} {A B C : World} (h : KeptOn x y v A B) (k : KeptOn x y v B C) : KeptOn x y v A C := ⟨k.1.trans h.1, k.2.1.trans h.2.1, fun i hi => (k.2.2 i hi).trans (h.2.2 i hi)⟩
theorem keptOn_b {x y : Nat} {v : Value} {w : World} (hx : x < w.heap.size) (hy : y < w.heap.size) (hv : ∀ k, v.ownBlock = some k → k < w.heap.size) (W : World) (l : Nat) (o o' : Obj) (hl : w.heap.size ≤ l) (_ : W.heap[l]? = some o) (_ : o.isCells = false) (_ : o.isWalk = false) : KeptOn x y v W (W.putObj l o') :=
  ⟨World.putObj_heap_other (by omega), World.putObj_heap_other (by omega), fun k hk => World.putObj_heap_other (by have := hv k hk; omega)⟩
theorem KeptOn.rest {x y : Nat} {v : Value} {S : Nat → Prop} {W W' : World} (h : Rest S W W') (hx : x < W.heap.size) (hy : y < W.heap.size) (hv : ∀ k, v.ownBlock = some k → k < W.heap.size) (sx : ¬ S x) (sy : ¬ S y) (sv : ∀ k, v.ownBlock = some k → ¬ S k) : KeptOn x y v W W' :=
  ⟨h.block x hx sx, h.block y hy sy, fun k hk => h.block k (hv k hk) (sv k hk)⟩

theorem bit_eq (c k : Nat) (hc : c < 256) (_ : k < 8) : (bits BinOp.and IntKind.u8 ((c : Int) / 2 ^ k) 1 == 1) = c.testBit k := by
  have h : ((c : Int) / 2 ^ k) = ((c / 2 ^ k : Nat) : Int) := by simp
  rw [h, show (1 : Int) = ((1 : Nat) : Int) from rfl, u8_and_nat _ 1 (Nat.lt_of_le_of_lt (Nat.div_le_self _ _) hc) (by decide), nat_mask1, Nat.testBit_eq_decide_div_mod_eq]
  rw [Bool.eq_iff_iff]
  simp
  omega

theorem take_drop_snoc (l : List Bool) (p k : Nat) (h : p + k < l.length) : (l.drop p).take (k + 1) = (l.drop p).take k ++ [l.getD (p + k) false] := by
  rw [List.take_succ_eq_append_getElem (by rw [List.length_drop]; omega), List.getElem_drop]
  simp [h]

set_option maxRecDepth 100000 in
set_option maxHeartbeats 800000 in
theorem bits2_in (n : Nat) (hn : 1 ≤ n) (l x y g cap : Nat) (B : List Nat) (hB : ∀ c ∈ B, c < 256) (hBl : B.length ≤ 1048576) (p : Nat) (hp : p ≤ 8 * B.length) (J Jx : List Bool → World → Prop)
    (hY : ∀ pre z W, J pre W → pre.length < 8 * B.length - p → YieldAt Fence.wide (n - 1) Try.prog l #[.bool z] W fun e W' =>
      (e = .returned (.bool true) ∧ J (pre ++ [z]) W' ∧ KeptOn x y (.slice (some ⟨g, 0, none⟩) B.length cap) W W') ∨ (e = .returned (.bool false) ∧ Jx (pre ++ [z]) W'))
    (W : World) (hx : W.cell? ⟨x, 0, none⟩ = some (.int .i64 p)) (hy : W.cell? ⟨y, 0, none⟩ = some (.slice (some ⟨g, 0, none⟩) B.length cap)) (hr : W.ownsRow 0 5 1 (.slice (some ⟨g, 0, none⟩) B.length cap) B.length (u8s B)) (h0 : J [] W) :
    CallsIn Fence.wide n Try.prog 62 #[.func (.yield l) #[] #[], .pointer (some ⟨x, 0, none⟩), .pointer (some ⟨y, 0, none⟩)] W fun e W' => (∃ v, e = .returned v) ∧
      ((∃ ys : List Bool, ys = (unpack B).drop p ∧ J ys W') ∨ (∃ pre : List Bool, pre <+: (unpack B).drop p ∧ Jx pre W')) := by
  have HR := Lib.hid hr
  have HBB := Lib.hid hB
  clear hr hB
  refine callsIn_of_wp Try.func62 rfl trivial ?_ rfl
  simp only [Try.ntmps62, List.size_toArray, List.length_cons, List.length_nil, Nat.reduceAdd, Nat.reduceSub, Array.replicate_succ, Array.replicate_zero, List.push_toArray, List.append_toArray, List.nil_append, List.cons_append]
  gi_wp2
  gi_loopw [4] (fun i wr => ∃ k : Nat, k ≤ 8 * B.length - p ∧ i = .int .i64 ((p + k : Nat) : Int) ∧ J (((unpack B).drop p).take k) wr ∧ wr.cell? ⟨y, 0, none⟩ = some (.slice (some ⟨g, 0, none⟩) B.length cap) ∧ wr.heap[g]? = W.heap[g]?)
    (fun i wr => 8 * B.length - (intOf i).toNat)
  case atStart =>
    exact ⟨0, Nat.zero_le _, rfl, h0, hy, rfl⟩
  case round =>
    obtain ⟨k, hk, rfl, hJ, hcy, hg⟩ := hrel
    have hul : (unpack B).length = 8 * B.length := unpack_length B
    by_cases hlt : k < 8 * B.length - p
    · obtain ⟨i, hi⟩ : ∃ i, p + k = i := ⟨_, rfl⟩
      have hcell : wr.cell? ⟨g, i / 8, none⟩ = some (.int .u8 (B.getD (i / 8) 0 : Nat)) := by
        rw [World.cell?_of_block (w := W) hg, HR.out.cellAt _ (by omega)]
        simp [u8s, List.getElem?_map, List.getD_eq_getElem?_getD]
        rw [List.getElem?_eq_getElem (by omega)]
        exact ⟨_, rfl, rfl⟩
      have hc256 : B.getD (i / 8) 0 < 256 := by
        rw [List.getD_eq_getElem?_getD, List.getElem?_eq_getElem (by omega)]
        exact HBB.out _ (List.getElem_mem _)
      obtain ⟨c, hc⟩ : ∃ c, B.getD (i / 8) 0 = c := ⟨_, rfl⟩
      rw [hc] at hcell hc256
      have hbit : (unpack B).getD (p + k) false = (bits BinOp.and IntKind.u8 ((c : Int) / 2 ^ (7 - i % 8)) 1 == 1) := by
        rw [unpack_getD _ _ (by omega), hi, hc, bit_eq c _ hc256 (by omega)]
      have hib : i < 8 * B.length := by omega
      have hd8 : i / 8 < B.length := by omega
      rw [hi]
      have HI := Lib.hid hi
      have HC := Lib.hid hc
      have HBIT := Lib.hid hbit
      have HG := Lib.hid hg
      have HUL := Lib.hid hul
      clear hi hc hbit hg hul
      obtain ⟨fn, tmps, assign, body, hy, hR⟩ := hY _ (bits BinOp.and IntKind.u8 ((c : Int) / 2 ^ (7 - i % 8)) 1 == 1) wr hJ (by rw [List.length_take, List.length_drop, HUL.out]; omega)
      have HJ := Lib.hid hJ
      have HRR := Lib.hid hR
      have HYY := Lib.hid hY
      clear hJ hR hY
      gi_wp2
      refine HRR.out.mono ?_
      rintro e W3 (⟨rfl, hJ3, hk3⟩ | ⟨rfl, hJx3⟩)
      · have hcy3 : W3.cell? ⟨y, 0, none⟩ = some (.slice (some ⟨g, 0, none⟩) B.length cap) := (World.cell?_of_block (w := wr) hk3.2.1).trans hcy
        have HJ3 := Lib.hid hJ3
        have HG3 := Lib.hid (hk3.2.2 g rfl)
        clear hJ3 hk3
        gi_wp2
        go_roundw
        case rel => exact ⟨k + 1, by omega, by rw [← HI.out]; go_num, by rw [take_drop_snoc _ _ _ (by rw [HUL.out]; omega), HBIT.out]; exact HJ3.out, hcy3, HG3.out.trans HG.out⟩
        case measure => simp [intOf]; omega
      · have HJ3 := Lib.hid hJx3
        clear hJx3
        gi_wp2
        refine bodyPost_ret (results_none rfl _ _ _) rfl ?_
        refine ⟨⟨_, rfl⟩, .inr ⟨((unpack B).drop p).take (k + 1), List.take_prefix _ _, ?_⟩⟩
        rw [take_drop_snoc _ _ _ (by rw [HUL.out]; omega), HBIT.out]; exact HJ3.out
    · have HJ := Lib.hid hJ
      have HUL := Lib.hid hul
      clear hJ hg hul
      obtain rfl : k = 8 * B.length - p := by omega
      have hpk : p + (8 * B.length - p) = 8 * B.length := by omega
      rw [hpk]
      clear hpk
      gi_wp2
      go_end0
      exact ⟨⟨_, rfl⟩, .inl ⟨_, rfl, by have := HJ.out; rwa [List.take_of_length_le (by rw [List.length_drop, HUL.out]; omega)] at this⟩⟩

set_option maxRecDepth 100000 in
set_option maxHeartbeats 800000 in
theorem bits2_nil (n : Nat) (l x y : Nat) (J : List Bool → World → Prop) (W : World) (hx : W.cell? ⟨x, 0, none⟩ = some (.int .i64 0)) (hy : W.cell? ⟨y, 0, none⟩ = some (.slice none 0 0)) (h0 : J [] W) :
    CallsIn Fence.wide n Try.prog 62 #[.func (.yield l) #[] #[], .pointer (some ⟨x, 0, none⟩), .pointer (some ⟨y, 0, none⟩)] W fun e W' => (∃ v, e = .returned v) ∧ J [] W' := by
  have HJ := Lib.hid h0
  clear h0
  refine callsIn_of_wp Try.func62 rfl trivial ?_ rfl
  simp only [Try.ntmps62, List.size_toArray, List.length_cons, List.length_nil, Nat.reduceAdd, Nat.reduceSub, Array.replicate_succ, Array.replicate_zero, List.push_toArray, List.append_toArray, List.nil_append, List.cons_append]
  gi_wp2
  gi_loopw [4] (fun i wr => i = .int .i64 0 ∧ wr = W) (fun i wr => 0)
  case atStart => exact ⟨rfl, rfl⟩
  case round =>
    obtain ⟨rfl, rfl⟩ := hrel
    gi_wp2
    go_end0
    exact ⟨⟨_, rfl⟩, HJ.out⟩

/-- The contract of the iterator value. -/
theorem bits_stops (n : Nat) (h1 : 1 ≤ n) (x y : Nat) (v : Value) (B : List Nat) (hB : ∀ c ∈ B, c < 256) (hBl : B.length ≤ 1048576) (p : Nat) (hp : p ≤ 8 * B.length) (w : World)
    (hx : w.cell? ⟨x, 0, none⟩ = some (.int .i64 p)) (hy : w.cell? ⟨y, 0, none⟩ = some v) (hr : w.ownsRow 0 5 1 v B.length (u8s B)) (lx : x < w.heap.size) (ly : y < w.heap.size) :
    SeqStopsK Fence.wide n Try.prog 62 #[.pointer (some ⟨x, 0, none⟩), .pointer (some ⟨y, 0, none⟩)] (fun z : Bool => #[.bool z]) (KeptOn x y v) (fun xs => xs = (unpack B).drop p) (fun pre => pre <+: (unpack B).drop p) (8 * B.length - p) w := by
  intro l J Jx W hW hJ hJx hY h0
  have hx' := (hW.cell (p := ⟨x, 0, none⟩) lx).trans hx
  have hy' := (hW.cell (p := ⟨y, 0, none⟩) ly).trans hy
  have hr' : W.ownsRow 0 5 1 v B.length (u8s B) := Rest.row (S := fun _ => False) (Rest.below hW) hr (fun _ _ e => e)
  rcases Joins.ownsRow_forms hr' with ⟨rfl, hn0⟩ | ⟨g, cap, rfl⟩
  · have hB0 : B = [] := List.eq_nil_of_length_eq_zero hn0
    subst hB0
    have hp0 : p = 0 := by simpa using hp
    subst hp0
    exact (bits2_nil n l x y J W hx' hy' h0).mono fun e W' ⟨hv, hj⟩ => ⟨hv, .inl ⟨[], by simp [unpack], hj⟩⟩
  · exact bits2_in n h1 l x y g cap B hB hBl p hp J Jx hY W hx' hy' hr' h0
end Go.Proofs.Ytboiiohpkoodpaa
