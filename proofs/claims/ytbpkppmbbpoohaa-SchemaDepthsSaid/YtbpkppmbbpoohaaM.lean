/- Memory: what lies as it lay. No conditions: plain facts on memory. Names and bounds: the small functions of package size. No conditions. -/
import Derived.Test.YtbpkppmbbpoohaaProg
import Derived.WalkKit
import Derived.WalkSpells
import Derived.WalkLawsBesides
import Derived.Deep.AppendLies
import Derived.Deep.Upon
import Derived.Lib.Hide
import Derived.RangeFuncBox
import Derived.BigQuiet
import Derived.BigRegion
import Derived.Deep.QuietTactic
import Derived.Deep.RegionHeld3
import Derived.Shelf.Abstract
import Derived.OwnWalkIn
namespace Go.Proofs.Ytbpkppmbbpoohaa
open Go.RowKit

/-- All but the blocks of S lies as it lay. -/
structure Rest (S : Nat → Prop) (w w' : World) : Prop where
  os : w'.os = w.os
  tape : w'.tape = w.tape
  output : w'.output = w.output
  size : w.heap.size ≤ w'.heap.size
  block : ∀ k, k < w.heap.size → ¬ S k → w'.heap[k]? = w.heap[k]?

theorem Rest.refl (S : Nat → Prop) (w : World) : Rest S w w := ⟨rfl, rfl, rfl, Nat.le_refl _, fun _ _ _ => rfl⟩
theorem Rest.trans {S T : Nat → Prop} {a b c : World} (h : Rest S a b) (k : Rest T b c) (hT : ∀ i, i < a.heap.size → T i → S i) : Rest S a c :=
  ⟨k.os.trans h.os, k.tape.trans h.tape, k.output.trans h.output, Nat.le_trans h.size k.size, fun i hi hs =>
    (k.block i (Nat.lt_of_lt_of_le hi h.size) (fun ht => hs (hT i hi ht))).trans (h.block i hi hs)⟩
theorem Rest.mono {S T : Nat → Prop} {a b : World} (h : Rest S a b) (hT : ∀ i, i < a.heap.size → S i → T i) : Rest T a b :=
  ⟨h.os, h.tape, h.output, h.size, fun i hi hs => h.block i hi (fun ht => hs (hT i hi ht))⟩
theorem Rest.below {S : Nat → Prop} {a b : World} (h : Below a.heap.size a b) : Rest S a b :=
  ⟨h.os, h.tape, h.output, h.size, fun i hi _ => h.block i hi⟩
theorem Rest.toBelow {S : Nat → Prop} {a b : World} (h : Rest S a b) (n : Nat) (hn : n ≤ a.heap.size) (hs : ∀ i, i < n → ¬ S i) : Below n a b :=
  ⟨h.os, h.tape, h.output, h.size, fun i hi => h.block i (by omega) (hs i hi)⟩
theorem Rest.setCell {S : Nat → Prop} {a w : World} (h : Rest S a w) {p : Addr} (hp : p.block < a.heap.size → S p.block) (u : Value) : Rest S a (w.setCell p u) :=
  h.trans (T := fun i => i = p.block) ⟨rfl, rfl, rfl, by simp [World.setCell], fun k _ hk => Below.heap_setCell _ _ _ _ hk⟩ (fun i hi e => by subst e; exact hp hi)
theorem Rest.alloc {S : Nat → Prop} {a w : World} (h : Rest S a w) (o : Obj) : Rest S a (w.alloc o) :=
  h.trans (T := S) ⟨rfl, rfl, rfl, by simp, fun k hk _ => Below.heap_alloc _ _ _ hk⟩ (fun _ _ e => e)
theorem Rest.drew {S : Nat → Prop} {a w : World} (h : Rest S a w) : Rest S a w.drew := ⟨h.os, h.tape, h.output, h.size, h.block⟩
theorem Rest.grown {S : Nat → Prop} {a w w' : World} {row : Option Nat} (h : Rest S a w) (hg : w.grownBy w' row) (hr : ∀ k, row = some k → k < a.heap.size → S k) : Rest S a w' :=
  h.trans (T := fun i => some i = row) ⟨hg.os, hg.tape, hg.output, hg.size, fun k hk hs => hg.block k hk hs⟩ (fun i hi e => hr i e.symm hi)
theorem Rest.cell {S : Nat → Prop} {a b : World} (h : Rest S a b) {p : Addr} (hp : p.block < a.heap.size) (hs : ¬ S p.block) : b.cell? p = a.cell? p := World.cell?_of_block (w := a) (h.block p.block hp hs)
theorem Rest.frozen {S : Nat → Prop} {a b : World} (h : Rest S a b) {p : Addr} (hp : p.block < a.heap.size) (hs : ¬ S p.block) : b.frozen? p = a.frozen? p := World.frozen?_of_block (w := a) (h.block p.block hp hs)
/-- What is owned, and not in S, stays owned. -/
theorem Rest.row {S : Nat → Prop} {a b : World} (h : Rest S a b) {base : Nat} {e : TypeId} {size : Nat} {v : Value} {n : Nat} {xs : List Value} (ho : a.ownsRow base e size v n xs) (hs : ∀ k, v.ownBlock = some k → ¬ S k) : b.ownsRow base e size v n xs := by
  refine ⟨ho.1, ?_⟩
  rcases ho.2 with hn | ⟨g, cap, cur, rfl, hb, hgg, rest⟩
  · exact .inl hn
  · exact .inr ⟨g, cap, cur, rfl, hb, (h.block g (Array.getElem?_eq_some_iff.1 hgg).1 (hs g rfl)).trans hgg, rest⟩

theorem add_block (a : Addr) (j : Nat) : (a.add j).block = a.block := by unfold Addr.add; split <;> rfl


/-- A variable's own block. -/
theorem boxed_below {W W' : World} {B t : Nat} {v : Value} {n : Nat} (h : Boxed W B t v) (hb : Below n W W') (hn : B < n) : Boxed W' B t v := (hb.block B hn).trans h
theorem boxed_rest {W W' : World} {S : Nat → Prop} {b t : Nat} {v : Value} (h : Boxed W b t v) (hr : Rest S W W') (hs : ¬ S b) : Boxed W' b t v := (hr.block b h.lt hs).trans h
theorem below_drewN (w : World) (n : Nat) : Below w.heap.size w (w.drewN n) := ⟨rfl, rfl, rfl, Nat.le_refl _, fun _ _ => rfl⟩

/-- A text of bytes. -/
def strL (l : List UInt8) : ByteArray := ⟨l.toArray⟩
theorem strL_data (l : List UInt8) : (strL l).data.toList = l := by simp [strL]
theorem strL_size (l : List UInt8) : (strL l).size = l.length := by simp [strL, ByteArray.size]
theorem strL_of (s : ByteArray) : strL s.data.toList = s := by simp [strL]
theorem strL_inj {a b : List UInt8} : strL a = strL b ↔ a = b := ⟨fun h => by rw [← strL_data a, h, strL_data], fun h => by rw [h]⟩
theorem strL_append (a b : List UInt8) : strL a ++ strL b = strL (a ++ b) := by
  apply ByteArray.ext
  simp [strL, ByteArray.data_append]
theorem strL_extract (l : List UInt8) (i j : Nat) : (strL l).extract i j = strL ((l.take j).drop i) := by
  apply ByteArray.ext
  simp [strL, ByteArray.data_extract, List.extract_eq_take_drop, List.drop_take]

end Go.Proofs.Ytbpkppmbbpoohaa

namespace Go.Proofs.Ytbpkppmbbpoohaa
open Go.RowKit Go.Shelf

theorem ret_bool {a b : Bool} (h : a = b) : Ending.returned (.bool a) = .returned (.bool b) := by rw [h]
theorem ret_int {k : IntKind} {a b : Int} (h : a = b) : Ending.returned (.int k a) = .returned (.int k b) := by rw [h]
theorem strL_toList (l : List UInt8) : (strL l).toList = l := by simp [strL]
theorem strL_get (l : List UInt8) (i : Nat) (h : i < (strL l).size) : (strL l)[i] = l[i]'(by rwa [strL_size] at h) := by
  simp [strL, ByteArray.getElem_eq_getElem_data]

def isLet (n : Nat) : Bool := decide (97 ≤ n) && decide (n ≤ 122) || decide (65 ≤ n) && decide (n ≤ 90)
def isDig (n : Nat) : Bool := decide (48 ≤ n) && decide (n ≤ 57)
def isWrd (n : Nat) : Bool := isLet n || isDig n || n == 95
def inB (n a b : Int) : Bool := decide (a ≤ n) && decide (n ≤ b)

set_option maxRecDepth 100000 in
set_option maxHeartbeats 800000 in
theorem sizeWithin (n a b : Int) (w : World) : Calls Try.prog 111 #[.int .i64 n, .int .i64 a, .int .i64 b] w fun e w' => e = .returned (.bool (inB n a b)) ∧ w' = w := by
  go_enter Try.func111, Try.ntmps111
  go_wp2
  all_goals (go_ret; refine ⟨ret_bool ?_, rfl⟩; rw [Bool.eq_iff_iff]; simp [inB, *]; try omega)

set_option maxRecDepth 100000 in
set_option maxHeartbeats 800000 in
theorem sizeLetter (n : Nat) (w : World) : Calls Try.prog 112 #[.int .u8 n] w fun e w' => e = .returned (.bool (isLet n)) ∧ w' = w := by
  go_enter Try.func112, Try.ntmps112
  go_wp2
  all_goals (go_ret; refine ⟨ret_bool ?_, rfl⟩; rw [Bool.eq_iff_iff]; simp [isLet, *]; try omega)

set_option maxRecDepth 100000 in
set_option maxHeartbeats 800000 in
theorem sizeOfName (n : Nat) (w : World) : Calls Try.prog 113 #[.int .u8 n] w fun e w' => e = .returned (.bool (isWrd n)) ∧ w' = w := by
  have HL := fun w => Lib.hid (sizeLetter n w)
  cases h1 : isLet n <;> rw [h1] at HL <;>
  · have H1 := Lib.hid h1
    clear h1
    go_enter Try.func113, Try.ntmps113
    go_wp2_with (go_at_call 112; refine ((HL _).out).mono ?_; rintro e w' ⟨rfl, rfl⟩)
    all_goals (go_ret; refine ⟨ret_bool ?_, rfl⟩; rw [Bool.eq_iff_iff]; simp [isWrd, isDig, H1.out, *]; try omega)

set_option maxRecDepth 100000 in
set_option maxHeartbeats 800000 in
theorem sizeSmall (n : Int) (w : World) : Calls Try.prog 119 #[.int .i64 n] w fun e w' => e = .returned (.bool (inB n (-1048576) 1048576)) ∧ w' = w := by
  have H := fun w => Lib.hid (sizeWithin n (-1048576) 1048576 w)
  obtain ⟨b, hb⟩ : ∃ b, inB n (-1048576) 1048576 = b := ⟨_, rfl⟩
  rw [hb] at H ⊢
  clear hb
  go_enter Try.func119, Try.ntmps119
  go_wp2_with (go_at_call 111; refine ((H _).out).mono ?_; rintro e w' ⟨rfl, rfl⟩)
  go_ret
  exact ⟨rfl, rfl⟩

/-- A name: letters, digits and underscores, a letter first. -/
def nameB (l : List UInt8) : Bool := inB l.length 1 32 && isLet ((l.headD 0).toNat) && l.all (fun b => isWrd b.toNat)

theorem all_get {l : List UInt8} {p : UInt8 → Bool} {i : Nat} (h : i < l.length) (hp : p l[i] = false) : l.all p = false := by
  rw [Bool.eq_false_iff]
  intro ha
  have := List.all_eq_true.1 ha l[i] (List.getElem_mem _)
  rw [hp] at this
  cases this
theorem all_take_succ {l : List UInt8} {p : UInt8 → Bool} {i : Nat} (h : i < l.length) (ht : (l.take i).all p = true) (hp : p l[i] = true) : (l.take (i + 1)).all p = true := by
  rw [List.take_succ_eq_append_getElem h, List.all_append, ht]
  simp [hp]

set_option maxRecDepth 100000 in
set_option maxHeartbeats 1600000 in
theorem sizeName (l : List UInt8) (w : World) : Calls Try.prog 94 #[.string (strL l)] w fun e w' => e = .returned (.bool (nameB l)) ∧ w' = w := by
  have hs : (strL l).size = l.length := strL_size l
  have HWI := fun w => Lib.hid (sizeWithin (l.length : Int) 1 32 w)
  obtain ⟨R, hR⟩ : ∃ R, nameB l = R := ⟨_, rfl⟩
  rw [hR]
  have HR := Lib.hid hR
  clear hR
  by_cases hw : inB (l.length : Int) 1 32 = true
  · rw [hw] at HWI
    have hb : 1 ≤ l.length ∧ l.length ≤ 32 := by
      simp [inB] at hw; omega
    have h0 : 0 < (strL l).size := by omega
    have hli : ((l.length : Nat) : Int) ≤ 32 := by omega
    obtain ⟨b0, hb0⟩ : ∃ b0 : Nat, (strL l)[0].toNat = b0 := ⟨_, rfl⟩
    have hb0' : (l.headD 0).toNat = b0 := by
      rw [← hb0, strL_get]
      cases l with
      | nil => simp at hb
      | cons b l => rfl
    have HL := fun w => Lib.hid (sizeLetter b0 w)
    have HB := Lib.hid hb
    have HW := Lib.hid hw
    have HB0 := Lib.hid hb0'
    clear hb hw hb0'
    cases h1 : isLet b0 with
    | false =>
      rw [h1] at HL
      have H1 := Lib.hid h1
      have hRf : R = false := by rw [← HR.out]; unfold nameB; rw [HB0.out, H1.out, Bool.and_false, Bool.false_and]
      subst hRf
      clear h1
      go_enter Try.func94, Try.ntmps94
      go_wp2_with (first | (go_at_call 111; refine ((HWI _).out).mono ?_; rintro e w' ⟨rfl, rfl⟩) | (go_at_call 112; refine ((HL _).out).mono ?_; rintro e w' ⟨rfl, rfl⟩))
      go_ret
      exact ⟨rfl, rfl⟩
    | true =>
      rw [h1] at HL
      have H1 := Lib.hid h1
      have hall : R = l.all (fun b => isWrd b.toNat) := by rw [← HR.out]; unfold nameB; rw [HB0.out, H1.out, HW.out]; rfl
      have HALL := Lib.hid hall
      clear h1 hall HR
      go_enter Try.func94, Try.ntmps94
      go_wp2_with (first | (go_at_call 111; refine ((HWI _).out).mono ?_; rintro e w' ⟨rfl, rfl⟩) | (go_at_call 112; refine ((HL _).out).mono ?_; rintro e w' ⟨rfl, rfl⟩))
      go_loop [16] (fun x16 => ∃ i : Nat, i ≤ l.length ∧ x16 = .int .i64 ((i : Nat) : Int) ∧ (l.take i).all (fun b => isWrd b.toNat) = true) (fun x16 => l.length - (intOf x16).toNat)
      case atStart => exact ⟨0, Nat.zero_le _, rfl, by simp⟩
      case round =>
        obtain ⟨i, hi, rfl, hall⟩ := hrel
        have HA := Lib.hid hall
        clear hall
        by_cases hlt : i < l.length
        · have h2 : i < (strL l).size := by omega
          have hgb : (strL l)[i].toNat = (l[i]'hlt).toNat := by rw [strL_get]
          have HO := fun w => Lib.hid (sizeOfName ((strL l)[i].toNat) w)
          cases h3 : isWrd ((strL l)[i].toNat) with
          | false =>
            rw [h3] at HO
            have hRf : R = false := by rw [HALL.out]; exact all_get hlt (by rw [← hgb]; exact h3)
            have HRF := Lib.hid hRf
            clear h3 hgb hRf
            go_wp2_with (go_at_call 113; refine ((HO _).out).mono ?_; rintro e w' ⟨rfl, rfl⟩)
            go_ret
            exact ⟨ret_bool HRF.out.symm, rfl⟩
          | true =>
            rw [h3] at HO
            have hn := all_take_succ hlt HA.out (by rw [← hgb]; exact h3)
            have HN := Lib.hid hn
            clear h3 hgb hn
            go_wp2_with (go_at_call 113; refine ((HO _).out).mono ?_; rintro e w' ⟨rfl, rfl⟩)
            go_round
            case rel => exact ⟨i + 1, by omega, by go_num, HN.out⟩
            case measure => simp [intOf]; omega
        · obtain rfl : i = l.length := by omega
          have hRt : R = true := by rw [HALL.out]; have := HA.out; rwa [List.take_length] at this
          have HRT := Lib.hid hRt
          clear hRt
          go_wp2
          go_ret
          exact ⟨ret_bool HRT.out.symm, rfl⟩
  · have hw' : inB (l.length : Int) 1 32 = false := by simpa using hw
    rw [hw'] at HWI
    have hRf : R = false := by rw [← HR.out]; simp [nameB, hw']
    subst hRf
    clear hw hw'
    go_enter Try.func94, Try.ntmps94
    go_wp2_with (go_at_call 111; refine ((HWI _).out).mono ?_; rintro e w' ⟨rfl, rfl⟩)
    go_ret
    exact ⟨rfl, rfl⟩
end Go.Proofs.Ytbpkppmbbpoohaa
