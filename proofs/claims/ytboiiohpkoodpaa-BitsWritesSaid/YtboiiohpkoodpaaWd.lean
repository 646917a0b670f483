/- The document's own answers on a writer: Put, Add, Align, GetLittle's counterpart Little. Conditions: at most 8388608 bits; at most 1048576 bytes, each below 256. -/
import Derived.Test.YtboiiohpkoodpaaBv
import Derived.Test.YtboiiohpkoodpaaRc
import Derived.Test.YtboiiohpkoodpaaAp
namespace Go.Proofs.Ytboiiohpkoodpaa
open Go.RowKit Go.Shelf

/-- append of a row of bits to a row of bits. -/
theorem wpList_append_bits {w : World} {ops : Array Oper} {rest : List Oper} {o : Oper} {a : Act} {Q : Exit → Act → World → Prop} (hgd : o.guard = none) (s x : Operand)
    (ho : o.op = .call { callee := .builtin .append, args := #[s, x], argTypes := #[27, 27] }) {base : Nat} {v : Value} {l1 : List Bool} (hv : a.eval s = v) (hown : w.ownsRow base 4 1 v l1.length (bools l1)) (hbase : base ≤ w.heap.size)
    {xv : Value} {l2 : List Bool} {b2 : Nat} (hx : a.eval x = xv) (hs : w.ownsRow b2 4 1 xv l2.length (bools l2)) (hl : l1.length + l2.length ≤ 100000000)
    (hK : ∀ A c w', w'.ownsRow base 4 1 (.slice A (l1 ++ l2).length c) (l1 ++ l2).length (bools (l1 ++ l2)) → Below base w w' → wpList Try.prog ops Q rest (a.put o.dst (.slice A (l1 ++ l2).length c)) w') : wpList Try.prog ops Q (o :: rest) a w := by
  obtain ⟨i0, hi, hz0, hz1, hz2⟩ := info_parts Try.info4
  rcases Joins.ownsRow_forms hs with ⟨rfl, h0⟩ | ⟨g, cap, rfl⟩
  · have e2 : l2 = [] := List.eq_nil_of_length_eq_zero h0
    subst e2
    refine wpList_append_own_none hgd s x 27 ho base 4 i0 1 Try.underlying27 hi _ l1.length (bools l1) hv hown hx ?_
    obtain ⟨A, c, rfl⟩ := row_form hown
    have := hK A c w (by simpa using hown) (Below.refl _ _)
    simpa using this
  · refine wpList_append_own_at w hgd s x 27 ho base 4 i0 (.bool false) 1 1 Try.underlying27 hi hz0 hz1 hz2 rfl (by decide) v l1.length (bools l1) hv hown ⟨g, 0, none⟩ l2.length cap (bools l2) hx (by rw [bools_length, Nat.mul_one]) (hs.cells (g := g) rfl) (one_bools l2) (by show l1.length + l2.length ≤ 9223372036854775807; omega) (by omega) hbase ?_
    intro v' w' h1 h2 h3 h4
    have hb : Below base w w' := (Below.refl _ _).grown h2 hbase (fun k hk => row_ge hown k hk)
    rw [← bools_append] at h1
    obtain ⟨A, c, rfl⟩ := row_form h1
    have e : l1.length + l2.length = (l1 ++ l2).length := by simp
    rw [e] at h1 ⊢
    exact hK A c w' h1 hb

/-- What the document answers on a call of a writer. -/
def RefWrote (base : Nat) (l' : List Bool) (code : Int) (w : World) (e : Ending) (w' : World) : Prop :=
  ∃ A c, e = .returned (.tuple #[.slice A l'.length c, .int .i64 code]) ∧ w'.ownsRow base 4 1 (.slice A l'.length c) l'.length (bools l') ∧ Below w.heap.size w w'

theorem no_bits (w : World) : (w.alloc (.cells #[] 4)).ownsRow w.heap.size 4 1 (.slice (some ⟨w.heap.size, 0, none⟩) 0 0) ([] : List Bool).length (bools []) :=
  World.ownsRow_lit (base := w.heap.size) (e := 4) (size := 1) w #[] 0 (Nat.le_refl _) (Nat.zero_le _) rfl

set_option maxHeartbeats 400000 in
theorem refFits (v n : Int) (h1 : 1 ≤ n) (h2 : n ≤ 32) (w : World) :
    Calls Try.prog 87 #[.int .i64 v, .int .i64 n] w fun e w' => e = .returned (.bool (fitsB v n)) ∧ w = w' := by
  have hp : (2 : Int) ^ n.toNat ≤ 4294967296 := by
    have := Nat.pow_le_pow_right (n := 2) (by omega) (show n.toNat ≤ 32 by omega)
    have h' : ((2 ^ n.toNat : Nat) : Int) ≤ ((2 ^ 32 : Nat) : Int) := Int.ofNat_le.2 this
    simpa using h'
  have hp0 : (0 : Int) ≤ 2 ^ n.toNat := Int.le_of_lt (Int.pow_pos (by omega))
  go_enter Try.func87, Try.ntmps87
  go_wp2
  all_goals go_ret
  · exact ⟨ret_bool (by simp [fitsB, *]), rfl⟩
  · exact ⟨ret_bool (by simp [fitsB]; omega), rfl⟩

set_option maxRecDepth 100000 in
set_option maxHeartbeats 800000 in
theorem refPut_same (A : Option Addr) (c : Nat) (l : List Bool) (base : Nat) (v n : Int) (w : World) (h : w.ownsRow base 4 1 (.slice A l.length c) l.length (bools l)) (hl : l.length ≤ 8388608) (hc : putCode l.length v n ≠ 0) :
    Calls Try.prog 37 #[.slice A l.length c, .int .i64 v, .int .i64 n] w (RefWrote base l (putCode l.length v n) w) := by
  have H := Lib.hid h
  clear h
  by_cases h1 : n < 1
  · have e : putCode l.length v n = 2 := by unfold putCode; rw [if_neg (by simp [withinB]; omega)]
    rw [e]
    clear hc e
    go_enter Try.func37, Try.ntmps37
    go_wp2
    go_ret2
    exact ⟨A, c, rfl, H.out, Below.refl _ _⟩
  · by_cases h2 : 32 < n
    · have e : putCode l.length v n = 2 := by unfold putCode; rw [if_neg (by simp [withinB]; omega)]
      rw [e]
      clear hc e
      go_enter Try.func37, Try.ntmps37
      go_wp2
      go_ret2
      exact ⟨A, c, rfl, H.out, Below.refl _ _⟩
    · have HF := Lib.hid (refFits v n (by omega) (by omega) w)
      obtain ⟨f, hf⟩ : ∃ f, fitsB v n = f := ⟨_, rfl⟩
      rw [hf] at HF
      cases f with
      | false =>
        have e : putCode l.length v n = 2 := by unfold putCode; rw [if_neg (by rw [hf]; simp)]
        rw [e]
        clear hc e hf
        go_enter Try.func37, Try.ntmps37
        go_wp2_with fail
        refine HF.out.mono ?_
        rintro e w' ⟨rfl, rfl⟩
        go_wp2
        go_ret2
        exact ⟨A, c, rfl, H.out, Below.refl _ _⟩
      | true =>
        have e0 : (withinB n 1 32 && fitsB v n) = true := by rw [hf]; simp [withinB]; omega
        by_cases h3 : 8388608 - (l.length : Int) < n
        · have e : putCode l.length v n = 7 := by unfold putCode; rw [if_pos e0, if_pos h3]
          rw [e]
          clear hc e hf e0
          go_enter Try.func37, Try.ntmps37
          go_wp2_with fail
          refine HF.out.mono ?_
          rintro e w' ⟨rfl, rfl⟩
          go_wp2
          go_ret2
          exact ⟨A, c, rfl, H.out, Below.refl _ _⟩
        · exact absurd (by unfold putCode; rw [if_pos e0, if_neg h3]) hc

set_option maxRecDepth 100000 in
set_option maxHeartbeats 800000 in
theorem refPut_ok (A : Option Addr) (c : Nat) (l : List Bool) (base a m : Nat) (w : World) (h : w.ownsRow base 4 1 (.slice A l.length c) l.length (bools l)) (hbase : base ≤ w.heap.size) (h1 : 1 ≤ m) (h2 : m ≤ 32) (ha : a < 2 ^ m) (hl : l.length + m ≤ 8388608) :
    Calls Try.prog 37 #[.slice A l.length c, .int .i64 a, .int .i64 m] w (RefWrote base (l ++ digs a m) 0 w) := by
  have hf := refFits a m (by omega) (by omega) w
  have e0 : fitsB (a : Int) (m : Int) = true := by
    simp [fitsB]
    have : ((a : Nat) : Int) < ((2 ^ m : Nat) : Int) := Int.ofNat_lt.2 ha
    simpa using this
  rw [e0] at hf
  have HF := Lib.hid hf
  have HR := Lib.hid (Joins.ownsRow_le (h.alloc (.cells #[] 4)) (Nat.zero_le _))
  have HN := Lib.hid (no_bits w)
  have HDL := Lib.hid (digs_length a m)
  clear h hf e0 ha
  go_enter Try.func37, Try.ntmps37
  go_wp2_with fail
  refine HF.out.mono ?_
  rintro e w' ⟨rfl, rfl⟩
  go_wp2_with (at_builtin; go_must (refine wpList_append_bits rfl _ _ rfl rfl HN.out (by simp) rfl HR.out (by simp; omega) ?_))
  intro A1 c1 w1 hr1 hb1
  have hbw : Below w.heap.size w w1 := ((Below.refl _ _).alloc (Nat.le_refl _) _).trans hb1
  have HU := Lib.hid (refNumber a m w1 (by omega))
  have HR1 := Lib.hid hr1
  have HBW := Lib.hid hbw
  clear hr1 hb1 hbw HR HN
  go_wp2_with fail
  refine HU.out.mono ?_
  rintro e w2 ⟨r, rfl, hr2, hb2⟩
  have HR2 := Lib.hid (Rest.row (S := fun _ => False) (Rest.below hb2) HR1.out (fun _ _ e => e))
  have HD2 := Lib.hid hr2
  have HB2 := Lib.hid (HBW.out.trans (hb2.mono HBW.out.size))
  clear hr2 hb2
  obtain ⟨A2, c2, rfl⟩ := row_form HD2.out
  go_wp2_with (at_builtin; go_must (refine wpList_append_bits rfl _ _ rfl rfl HR2.out HB2.out.size rfl HD2.out (by rw [HDL.out]; omega) ?_))
  intro A3 c3 w3 hr3 hb3
  have HR3 := Lib.hid hr3
  have HB3 := Lib.hid (HB2.out.trans hb3)
  clear hr3 hb3
  go_wp2
  go_ret2
  exact ⟨A3, c3, by rw [List.length_append]; rfl, by rw [List.length_append]; exact Joins.ownsRow_le HR3.out hbase, HB3.out⟩

theorem refPut (A : Option Addr) (c : Nat) (l : List Bool) (base : Nat) (v n : Int) (w : World) (h : w.ownsRow base 4 1 (.slice A l.length c) l.length (bools l)) (hbase : base ≤ w.heap.size) (hl : l.length ≤ 8388608) :
    Calls Try.prog 37 #[.slice A l.length c, .int .i64 v, .int .i64 n] w (RefWrote base (if putCode l.length v n = 0 then l ++ digs v.toNat n.toNat else l) (putCode l.length v n) w) := by
  by_cases hc : putCode l.length v n = 0
  · obtain ⟨a, m, rfl, rfl, h1, h2, h3, h4⟩ := put_zero_iff hc
    rw [if_pos hc, hc]
    exact refPut_ok A c l base a m w h hbase h1 h2 h3 h4
  · rw [if_neg hc]
    exact refPut_same A c l base v n w h hl hc

set_option maxRecDepth 100000 in
set_option maxHeartbeats 800000 in
theorem refOf_empty (a : Addr) (c : Nat) (w : World) : Calls Try.prog 20 #[.slice (some a) 0 c] w (NewBits w (unpack [])) := by
  go_enter Try.func20, Try.ntmps20
  go_wp2
  go_loopw [3, 4] (fun o i wr => o = .slice none 0 0 ∧ i = .int .i64 0 ∧ wr = w) (fun _ _ _ => 0)
  case atStart => exact ⟨rfl, rfl, rfl⟩
  case round =>
    obtain ⟨rfl, rfl, rfl⟩ := hrel
    go_wp2
    go_ret
    exact ⟨_, rfl, ⟨by simp [bools, unpack], .inl ⟨rfl, by simp [unpack]⟩⟩, Below.refl _ _⟩
theorem refOfE (s : Value) (B : List Nat) (w : World) (hs : SrcE w s B) (hB : ∀ x ∈ B, x < 256) (hBl : B.length ≤ 1048576) : Calls Try.prog 20 #[s] w (NewBits w (unpack B)) := by
  rcases hs with h | ⟨rfl, a, c, rfl⟩
  · exact refOf s B w h hB hBl
  · exact refOf_empty a c w

set_option maxRecDepth 100000 in
set_option maxHeartbeats 800000 in
theorem refAdd (A : Option Addr) (c : Nat) (l : List Bool) (base : Nat) (AB : Option Addr) (cB : Nat) (B : List Nat) (w : World) (h : w.ownsRow base 4 1 (.slice A l.length c) l.length (bools l)) (hbase : base ≤ w.heap.size) (hl : l.length ≤ 8388608)
    (hs : SrcE w (.slice AB B.length cB) B) (hB : ∀ x ∈ B, x < 256) (hBl : B.length ≤ 1099511627776) :
    Calls Try.prog 39 #[.slice A l.length c, .slice AB B.length cB] w (RefWrote base (if bytesCode l.length B.length = 0 then l ++ unpack B else l) (bytesCode l.length B.length) w) := by
  have H := Lib.hid h
  have q1 : IntKind.i64.wrap (8 * (B.length : Int)) = 8 * (B.length : Int) := IntWalk.i64_in _ (by omega)
  by_cases h8 : l.length % 8 = 0
  · have p0 : ((l.length : Int) % 8 == 0) = true := by simp; omega
    have p1 : ((l.length : Int) % 8 != 0) = false := by simp; omega
    by_cases h3 : 8388608 - (l.length : Int) < 8 * (B.length : Int)
    · have e : bytesCode l.length B.length = 7 := by unfold bytesCode; rw [if_pos p0, if_pos h3]
      rw [e, if_neg (by decide)]
      clear e h hs hB
      go_enter Try.func39, Try.ntmps39
      go_wp2
      go_ret2
      exact ⟨A, c, rfl, H.out, Below.refl _ _⟩
    · have e : bytesCode l.length B.length = 0 := by unfold bytesCode; rw [if_pos p0, if_neg h3]
      rw [e, if_pos rfl]
      have HR := Lib.hid (Joins.ownsRow_le (h.alloc (.cells #[] 4)) (Nat.zero_le _))
      have HN := Lib.hid (no_bits w)
      have HS := Lib.hid hs
      have HBB := Lib.hid hB
      have HDL := Lib.hid (unpack_length B)
      clear e h hs hB h8
      go_enter Try.func39, Try.ntmps39
      go_wp2_with (at_builtin; go_must (refine wpList_append_bits rfl _ _ rfl rfl HN.out (by simp) rfl HR.out (by simp; omega) ?_))
      intro A1 c1 w1 hr1 hb1
      have hbw : Below w.heap.size w w1 := ((Below.refl _ _).alloc (Nat.le_refl _) _).trans hb1
      have HU := Lib.hid (refOfE _ B w1 (HS.out.later hbw) HBB.out (by omega))
      have HR1 := Lib.hid hr1
      have HBW := Lib.hid hbw
      clear hr1 hb1 hbw HR HN
      go_wp2_with fail
      refine HU.out.mono ?_
      rintro e w2 ⟨r, rfl, hr2, hb2⟩
      have HR2 := Lib.hid (Rest.row (S := fun _ => False) (Rest.below hb2) HR1.out (fun _ _ e => e))
      have HD2 := Lib.hid hr2
      have HB2 := Lib.hid (HBW.out.trans (hb2.mono HBW.out.size))
      clear hr2 hb2
      obtain ⟨A2, c2, rfl⟩ := row_form HD2.out
      go_wp2_with (at_builtin; go_must (refine wpList_append_bits rfl _ _ rfl rfl HR2.out HB2.out.size rfl HD2.out (by rw [HDL.out]; omega) ?_))
      intro A3 c3 w3 hr3 hb3
      have HR3 := Lib.hid hr3
      have HB3 := Lib.hid (HB2.out.trans hb3)
      clear hr3 hb3
      go_wp2
      go_ret2
      exact ⟨A3, c3, by rw [List.length_append]; rfl, by rw [List.length_append]; exact Joins.ownsRow_le HR3.out hbase, HB3.out⟩
  · have p0 : ((l.length : Int) % 8 == 0) = false := by simp; omega
    have p1 : ((l.length : Int) % 8 != 0) = true := by simp; omega
    have e : bytesCode l.length B.length = 8 := by unfold bytesCode; rw [if_neg (by rw [p0]; simp)]
    rw [e, if_neg (by decide)]
    clear e h hs hB
    go_enter Try.func39, Try.ntmps39
    go_wp2
    go_ret2
    exact ⟨A, c, rfl, H.out, Below.refl _ _⟩
end Go.Proofs.Ytboiiohpkoodpaa
