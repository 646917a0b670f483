/- Chunks of a source: what it hands back gives the pieces of the bytes of that moment, also when the source has changed since. Conditions: the source lies in memory. -/
import Derived.Test.YtociidinfdbaeaaCh
import Derived.Test.YtociidinfdbaeaaNn
namespace Go.Proofs.Ytociidinfdbaeaa
open Go.RowKit Go.Shelf

/-- What an iterator of pieces does in every later world that keeps the blocks from lo on. -/
def Pieces (gf : Nat) (lb : Array Value) (m : Nat) (B : List Nat) (lo : Nat) (W0 : World) : Prop :=
  ∀ (n l : Nat) (J : Nat → World → Prop) (Jx : World → Prop) (W : World), 1 ≤ n → Rest (fun k => k < lo) W0 W →
    (∀ t W1 W2, J t W1 → Below W.heap.size W1 W2 → J t W2) →
    (∀ t W1, J t W1 → Rest (fun k => k < lo) W0 W1) →
    (∀ (t k b g cap : Nat) (v : Value) (W1 : World), J t W1 → t + k ≤ B.length → k = min m (B.length - t) → 1 ≤ k → W.heap.size ≤ b → W.heap.size ≤ g → g ≠ b → W1.heap[b]? = some (.cells #[v] 55 (0, 0)) → Tail W1 g cap t B →
      YieldAt Fence.wide (n - 1) Try.prog l #[.slice (some ⟨g, t, none⟩) k k] W1 fun e W' =>
        (e = .returned (.bool true) ∧ J (t + k) W' ∧ W'.heap[b]? = some (.cells #[v] 55 (0, 0)) ∧ Tail W' g cap (t + k) B) ∨ (e = .returned (.bool false) ∧ Jx W')) →
    J 0 W →
    CallsIn Fence.wide n Try.prog gf (#[.func (.yield l) #[] #[]] ++ lb) W fun e W' => (∃ v, e = .returned v) ∧ (J B.length W' ∨ Jx W')

theorem Pieces.later {gf : Nat} {lb : Array Value} {m : Nat} {B : List Nat} {lo : Nat} {W0 W1 : World} (h : Pieces gf lb m B lo W0) (hr : Rest (fun k => k < lo) W0 W1) : Pieces gf lb m B lo W1 := by
  intro n l J Jx W hn hW hJ hK hY h0
  exact h n l J Jx W hn (hr.trans hW (fun i _ e => e)) hJ (fun t Wa ha => hr.trans (hK t Wa ha) (fun i _ e => e)) hY h0

theorem pieces_none (m lo : Nat) (W0 : World) : Pieces 32 #[] m [] lo W0 := by
  intro n l J Jx W hn _ _ _ _ h0
  have HJ := Lib.hid h0
  clear h0
  refine callsIn_of_wp Try.func32 rfl trivial ?_ rfl
  simp only [Array.append_empty, Try.ntmps32, List.size_toArray, List.length_cons, List.length_nil, Nat.reduceAdd, Nat.reduceSub, Array.replicate_succ, Array.replicate_zero, List.push_toArray, List.append_toArray, List.nil_append, List.cons_append]
  gi_wp2
  go_end0
  exact ⟨⟨_, rfl⟩, .inl HJ.out⟩

theorem pieces_some (tb sb m lo : Nat) (B : List Nat) (tv : Value) (W0 : World) (hm : 1 ≤ m) (hm2 : m ≤ 9223372036854775807) (hBl : B.length ≤ 1048576)
    (htb : W0.cell? ⟨tb, 0, none⟩ = some tv) (hbuf : Buf W0 tv B) (hs : W0.cell? ⟨sb, 0, none⟩ = some (.int .i64 m)) (ltb : lo ≤ tb) (lsb : lo ≤ sb) (lv : ∀ k, tv.ownBlock = some k → lo ≤ k) :
    Pieces 33 #[.pointer (some ⟨tb, 0, none⟩), .pointer (some ⟨sb, 0, none⟩)] m B lo W0 := by
  intro n l J Jx W hn hW hJ hK hY h0
  have t0 := World.block_lt_of_cell? _ _ htb
  have s0 := World.block_lt_of_cell? _ _ hs
  exact chunks2_in n hn l tb sb m B tv J Jx hm hm2 hBl W hJ
    (fun t W1 h1 => ((hK t W1 h1).cell (p := ⟨sb, 0, none⟩) s0 (by show ¬ sb < lo; omega)).trans hs) hY
    ((hW.cell (p := ⟨tb, 0, none⟩) t0 (by show ¬ tb < lo; omega)).trans htb) (hbuf.rest hW (fun k hk => by have := lv k hk; omega)) h0

theorem Try.ent33 : ∀ args w, (callFunc 33 args).run Try.prog w = .ok (.enter 33 args) w := enters_of Try.func33 (by kernel_rfl) rfl

/-- What Chunks hands back: an iterator of pieces, in new memory. -/
def ChunksOf (n : Int) (B : List Nat) (w : World) (e : Ending) (w' : World) : Prop :=
  ∃ gf lb, e = .returned (.func (.func gf) #[] lb) ∧ (∀ args w, (callFunc gf args).run Try.prog w = .ok (.enter gf args) w) ∧ Pieces gf lb (if n < 1 then 1 else n.toNat) (if n < 1 then [] else B) w.heap.size w' ∧ Below w.heap.size w w'

set_option maxRecDepth 100000 in
set_option maxHeartbeats 1600000 in
theorem chunks_few (p L T : Nat) (v : Value) (B : List Nat) (C : Bool) (n : Int) (w : World) (h : SAt w p v B L T C) (hn : n < 1) :
    Calls Try.prog 15 #[.pointer (some ⟨p, 0, none⟩), .int .i64 n] w (ChunksOf n B w) := by
  have HN := fun w => Lib.hid (none_no p L w h.pos)
  have hb := (Below.refl w.heap.size w).alloc (Nat.le_refl _) (.cells #[.int .i64 n] 3)
  have c1 := (h.below hb).c1
  have HB := Lib.hid hb
  clear h hb
  go_enter Try.func15, Try.ntmps15
  go_wp2_with (go_at_call 30; go_must (refine ((HN _).out c1).mono ?_); rintro e w1 ⟨rfl, rfl⟩)
  go_ret
  refine ⟨32, #[], rfl, Try.ent32, ?_, HB.out⟩
  rw [if_pos hn, if_pos hn]
  exact pieces_none _ _ _

set_option maxRecDepth 100000 in
set_option maxHeartbeats 1600000 in
theorem chunks_some (p L T : Nat) (v : Value) (B : List Nat) (C : Bool) (n : Int) (w : World) (h : SAt w p v B L T C) (hn : 1 ≤ n) (hn2 : n ≤ 9223372036854775807) :
    Calls Try.prog 15 #[.pointer (some ⟨p, 0, none⟩), .int .i64 n] w (ChunksOf n B w) := by
  have HN := fun w => Lib.hid (none_no p L w h.pos)
  have hb := (Below.refl w.heap.size w).alloc (Nat.le_refl _) (.cells #[.int .i64 n] 3)
  have h' := h.below hb
  have c1 := h'.c1
  have hBl : B.length ≤ 1048576 := Nat.le_trans h.fit h.max
  have HCP := Lib.hid (copied_any p v B _ h'.c0 h'.buf hBl)
  have HBX := Lib.hid (Boxed.new w 3 (.int .i64 n))
  have HB := Lib.hid hb
  have HBL := Lib.hid hBl
  clear h h' hb hBl
  go_enter Try.func15, Try.ntmps15
  go_wp2_with (first | (go_at_call 30; go_must (refine ((HN _).out c1).mono ?_); rintro e w1 ⟨rfl, rfl⟩) | (go_at_call 31; refine HCP.out.mono ?_; rintro e w2 ⟨v2, rfl, hr, hb2⟩; obtain ⟨A2, c2, rfl⟩ := row_shape hr; have HR := Lib.hid hr; have HB2 := Lib.hid hb2; clear hr hb2))
  go_ret
  have hb3 : Below w2.heap.size w2 (w2.alloc (.cells #[.slice A2 B.length c2] 55)) := (Below.refl _ _).alloc (Nat.le_refl _) _
  have hsz := HB2.out.size
  have hsz0 : (w.alloc (.cells #[.int .i64 n] 3)).heap.size = w.heap.size + 1 := by simp
  rw [hsz0] at hsz
  refine ⟨33, _, rfl, Try.ent33, ?_, (HB.out.trans (HB2.out.mono (by simp))).trans (hb3.mono (by omega))⟩
  rw [if_neg (by omega), if_neg (by omega)]
  have hrow := Rest.row (S := fun _ => False) (Rest.below hb3) HR.out (fun _ _ e => e)
  refine pieces_some w2.heap.size w.heap.size n.toNat w.heap.size B (.slice A2 B.length c2) _ (by omega) (by omega) HBL.out (Boxed.new w2 55 (.slice A2 B.length c2)).cell (Buf.of_row hrow) ?_ (by omega) (Nat.le_refl _) (fun k hk => ?_)
  · rw [Int.toNat_of_nonneg (by omega)]
    exact (boxed_below (boxed_below HBX.out HB2.out (by simp)) hb3 (by omega)).cell
  · have := (HR.out.lt k hk).1
    omega

theorem chunks_any (p L T : Nat) (v : Value) (B : List Nat) (C : Bool) (n : Int) (w : World) (h : SAt w p v B L T C) (hn2 : n ≤ 9223372036854775807) :
    Calls Try.prog 15 #[.pointer (some ⟨p, 0, none⟩), .int .i64 n] w (ChunksOf n B w) := by
  by_cases hn : n < 1
  · exact chunks_few p L T v B C n w h hn
  · exact chunks_some p L T v B C n w h (by omega) hn2
end Go.Proofs.Ytociidinfdbaeaa
