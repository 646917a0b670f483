/- Memory: what lies as it lay. No conditions: plain facts on memory. Names and bounds: the small functions of package size. No conditions. Slices in memory; slices.Index and Contains of truth values, and all. Conditions: the values lie in memory. slices.IndexFunc of terms, and find. Conditions: the terms lie in memory. -/
import Derived.Test.YtbpkppmbbpoohaaGreatProg
import Derived.WalkKit
import Derived.WalkSpells
import Derived.WalkLawsBesides
import Derived.Deep.AppendLies
import Derived.Deep.Upon
import Derived.Lib.Hide
import Derived.RangeFuncBox
import Derived.BigQuiet
import Derived.BigRegion
import Derived.Deep.QuietTactic
import Derived.Deep.RegionHeld3
import Derived.Shelf.Abstract
import Derived.OwnWalkIn
import Derived.Deep.CutRange
namespace Go.Proofs.YtbpkppmbbpoohaaGreat
open Go.RowKit

/-- All but the blocks of S lies as it lay. -/
structure Rest (S : Nat → Prop) (w w' : World) : Prop where
  os : w'.os = w.os
  tape : w'.tape = w.tape
  output : w'.output = w.output
  size : w.heap.size ≤ w'.heap.size
  block : ∀ k, k < w.heap.size → ¬ S k → w'.heap[k]? = w.heap[k]?

theorem Rest.refl (S : Nat → Prop) (w : World) : Rest S w w := ⟨rfl, rfl, rfl, Nat.le_refl _, fun _ _ _ => rfl⟩
theorem Rest.trans {S T : Nat → Prop} {a b c : World} (h : Rest S a b) (k : Rest T b c) (hT : ∀ i, i < a.heap.size → T i → S i) : Rest S a c :=
  ⟨k.os.trans h.os, k.tape.trans h.tape, k.output.trans h.output, Nat.le_trans h.size k.size, fun i hi hs =>
    (k.block i (Nat.lt_of_lt_of_le hi h.size) (fun ht => hs (hT i hi ht))).trans (h.block i hi hs)⟩
theorem Rest.mono {S T : Nat → Prop} {a b : World} (h : Rest S a b) (hT : ∀ i, i < a.heap.size → S i → T i) : Rest T a b :=
  ⟨h.os, h.tape, h.output, h.size, fun i hi hs => h.block i hi (fun ht => hs (hT i hi ht))⟩
theorem Rest.below {S : Nat → Prop} {a b : World} (h : Below a.heap.size a b) : Rest S a b :=
  ⟨h.os, h.tape, h.output, h.size, fun i hi _ => h.block i hi⟩
theorem Rest.toBelow {S : Nat → Prop} {a b : World} (h : Rest S a b) (n : Nat) (hn : n ≤ a.heap.size) (hs : ∀ i, i < n → ¬ S i) : Below n a b :=
  ⟨h.os, h.tape, h.output, h.size, fun i hi => h.block i (by omega) (hs i hi)⟩
theorem Rest.setCell {S : Nat → Prop} {a w : World} (h : Rest S a w) {p : Addr} (hp : p.block < a.heap.size → S p.block) (u : Value) : Rest S a (w.setCell p u) :=
  h.trans (T := fun i => i = p.block) ⟨rfl, rfl, rfl, by simp [World.setCell], fun k _ hk => Below.heap_setCell _ _ _ _ hk⟩ (fun i hi e => by subst e; exact hp hi)
theorem Rest.alloc {S : Nat → Prop} {a w : World} (h : Rest S a w) (o : Obj) : Rest S a (w.alloc o) :=
  h.trans (T := S) ⟨rfl, rfl, rfl, by simp, fun k hk _ => Below.heap_alloc _ _ _ hk⟩ (fun _ _ e => e)
theorem Rest.drew {S : Nat → Prop} {a w : World} (h : Rest S a w) : Rest S a w.drew := ⟨h.os, h.tape, h.output, h.size, h.block⟩
theorem Rest.grown {S : Nat → Prop} {a w w' : World} {row : Option Nat} (h : Rest S a w) (hg : w.grownBy w' row) (hr : ∀ k, row = some k → k < a.heap.size → S k) : Rest S a w' :=
  h.trans (T := fun i => some i = row) ⟨hg.os, hg.tape, hg.output, hg.size, fun k hk hs => hg.block k hk hs⟩ (fun i hi e => hr i e.symm hi)
theorem Rest.cell {S : Nat → Prop} {a b : World} (h : Rest S a b) {p : Addr} (hp : p.block < a.heap.size) (hs : ¬ S p.block) : b.cell? p = a.cell? p := World.cell?_of_block (w := a) (h.block p.block hp hs)
theorem Rest.frozen {S : Nat → Prop} {a b : World} (h : Rest S a b) {p : Addr} (hp : p.block < a.heap.size) (hs : ¬ S p.block) : b.frozen? p = a.frozen? p := World.frozen?_of_block (w := a) (h.block p.block hp hs)
/-- What is owned, and not in S, stays owned. -/
theorem Rest.row {S : Nat → Prop} {a b : World} (h : Rest S a b) {base : Nat} {e : TypeId} {size : Nat} {v : Value} {n : Nat} {xs : List Value} (ho : a.ownsRow base e size v n xs) (hs : ∀ k, v.ownBlock = some k → ¬ S k) : b.ownsRow base e size v n xs := by
  refine ⟨ho.1, ?_⟩
  rcases ho.2 with hn | ⟨g, cap, cur, rfl, hb, hgg, rest⟩
  · exact .inl hn
  · exact .inr ⟨g, cap, cur, rfl, hb, (h.block g (Array.getElem?_eq_some_iff.1 hgg).1 (hs g rfl)).trans hgg, rest⟩

theorem add_block (a : Addr) (j : Nat) : (a.add j).block = a.block := by unfold Addr.add; split <;> rfl


/-- A variable's own block. -/
theorem boxed_below {W W' : World} {B t : Nat} {v : Value} {n : Nat} (h : Boxed W B t v) (hb : Below n W W') (hn : B < n) : Boxed W' B t v := (hb.block B hn).trans h
theorem boxed_rest {W W' : World} {S : Nat → Prop} {b t : Nat} {v : Value} (h : Boxed W b t v) (hr : Rest S W W') (hs : ¬ S b) : Boxed W' b t v := (hr.block b h.lt hs).trans h
theorem below_drewN (w : World) (n : Nat) : Below w.heap.size w (w.drewN n) := ⟨rfl, rfl, rfl, Nat.le_refl _, fun _ _ => rfl⟩

/-- A text of bytes. -/
def strL (l : List UInt8) : ByteArray := ⟨l.toArray⟩
theorem strL_data (l : List UInt8) : (strL l).data.toList = l := by simp [strL]
theorem strL_size (l : List UInt8) : (strL l).size = l.length := by simp [strL, ByteArray.size]
theorem strL_of (s : ByteArray) : strL s.data.toList = s := by simp [strL]
theorem strL_inj {a b : List UInt8} : strL a = strL b ↔ a = b := ⟨fun h => by rw [← strL_data a, h, strL_data], fun h => by rw [h]⟩
theorem strL_append (a b : List UInt8) : strL a ++ strL b = strL (a ++ b) := by
  apply ByteArray.ext
  simp [strL, ByteArray.data_append]
theorem strL_extract (l : List UInt8) (i j : Nat) : (strL l).extract i j = strL ((l.take j).drop i) := by
  apply ByteArray.ext
  simp [strL, ByteArray.data_extract, List.extract_eq_take_drop, List.drop_take]

end Go.Proofs.YtbpkppmbbpoohaaGreat

namespace Go.Proofs.YtbpkppmbbpoohaaGreat
open Go.RowKit Go.Shelf

theorem ret_bool {a b : Bool} (h : a = b) : Ending.returned (.bool a) = .returned (.bool b) := by rw [h]
theorem ret_int {k : IntKind} {a b : Int} (h : a = b) : Ending.returned (.int k a) = .returned (.int k b) := by rw [h]
theorem strL_toList (l : List UInt8) : (strL l).toList = l := by simp [strL]
theorem strL_get (l : List UInt8) (i : Nat) (h : i < (strL l).size) : (strL l)[i] = l[i]'(by rwa [strL_size] at h) := by
  simp [strL, ByteArray.getElem_eq_getElem_data]

def isLet (n : Nat) : Bool := decide (97 ≤ n) && decide (n ≤ 122) || decide (65 ≤ n) && decide (n ≤ 90)
def isDig (n : Nat) : Bool := decide (48 ≤ n) && decide (n ≤ 57)
def isWrd (n : Nat) : Bool := isLet n || isDig n || n == 95
def inB (n a b : Int) : Bool := decide (a ≤ n) && decide (n ≤ b)

set_option maxRecDepth 100000 in
set_option maxHeartbeats 800000 in
theorem sizeWithin (n a b : Int) (w : World) : Calls Tryz.prog 143 #[.int .i64 n, .int .i64 a, .int .i64 b] w fun e w' => e = .returned (.bool (inB n a b)) ∧ w' = w := by
  go_enter Tryz.func143, Tryz.ntmps143
  go_wp2
  all_goals (go_ret; refine ⟨ret_bool ?_, rfl⟩; rw [Bool.eq_iff_iff]; simp [inB, *]; try omega)

set_option maxRecDepth 100000 in
set_option maxHeartbeats 800000 in
theorem sizeLetter (n : Nat) (w : World) : Calls Tryz.prog 144 #[.int .u8 n] w fun e w' => e = .returned (.bool (isLet n)) ∧ w' = w := by
  go_enter Tryz.func144, Tryz.ntmps144
  go_wp2
  all_goals (go_ret; refine ⟨ret_bool ?_, rfl⟩; rw [Bool.eq_iff_iff]; simp [isLet, *]; try omega)

set_option maxRecDepth 100000 in
set_option maxHeartbeats 800000 in
theorem sizeOfName (n : Nat) (w : World) : Calls Tryz.prog 145 #[.int .u8 n] w fun e w' => e = .returned (.bool (isWrd n)) ∧ w' = w := by
  have HL := fun w => Lib.hid (sizeLetter n w)
  cases h1 : isLet n <;> rw [h1] at HL <;>
  · have H1 := Lib.hid h1
    clear h1
    go_enter Tryz.func145, Tryz.ntmps145
    go_wp2_with (go_at_call 144; refine ((HL _).out).mono ?_; rintro e w' ⟨rfl, rfl⟩)
    all_goals (go_ret; refine ⟨ret_bool ?_, rfl⟩; rw [Bool.eq_iff_iff]; simp [isWrd, isDig, H1.out, *]; try omega)

set_option maxRecDepth 100000 in
set_option maxHeartbeats 800000 in
theorem sizeSmall (n : Int) (w : World) : Calls Tryz.prog 153 #[.int .i64 n] w fun e w' => e = .returned (.bool (inB n (-1048576) 1048576)) ∧ w' = w := by
  have H := fun w => Lib.hid (sizeWithin n (-1048576) 1048576 w)
  obtain ⟨b, hb⟩ : ∃ b, inB n (-1048576) 1048576 = b := ⟨_, rfl⟩
  rw [hb] at H ⊢
  clear hb
  go_enter Tryz.func153, Tryz.ntmps153
  go_wp2_with (go_at_call 143; refine ((H _).out).mono ?_; rintro e w' ⟨rfl, rfl⟩)
  go_ret
  exact ⟨rfl, rfl⟩

/-- A name: letters, digits and underscores, a letter first. -/
def nameB (l : List UInt8) : Bool := inB l.length 1 32 && isLet ((l.headD 0).toNat) && l.all (fun b => isWrd b.toNat)

theorem all_get {l : List UInt8} {p : UInt8 → Bool} {i : Nat} (h : i < l.length) (hp : p l[i] = false) : l.all p = false := by
  rw [Bool.eq_false_iff]
  intro ha
  have := List.all_eq_true.1 ha l[i] (List.getElem_mem _)
  rw [hp] at this
  cases this
theorem all_take_succ {l : List UInt8} {p : UInt8 → Bool} {i : Nat} (h : i < l.length) (ht : (l.take i).all p = true) (hp : p l[i] = true) : (l.take (i + 1)).all p = true := by
  rw [List.take_succ_eq_append_getElem h, List.all_append, ht]
  simp [hp]

set_option maxRecDepth 100000 in
set_option maxHeartbeats 1600000 in
theorem sizeName (l : List UInt8) (w : World) : Calls Tryz.prog 116 #[.string (strL l)] w fun e w' => e = .returned (.bool (nameB l)) ∧ w' = w := by
  have hs : (strL l).size = l.length := strL_size l
  have HWI := fun w => Lib.hid (sizeWithin (l.length : Int) 1 32 w)
  obtain ⟨R, hR⟩ : ∃ R, nameB l = R := ⟨_, rfl⟩
  rw [hR]
  have HR := Lib.hid hR
  clear hR
  by_cases hw : inB (l.length : Int) 1 32 = true
  · rw [hw] at HWI
    have hb : 1 ≤ l.length ∧ l.length ≤ 32 := by
      simp [inB] at hw; omega
    have h0 : 0 < (strL l).size := by omega
    have hli : ((l.length : Nat) : Int) ≤ 32 := by omega
    obtain ⟨b0, hb0⟩ : ∃ b0 : Nat, (strL l)[0].toNat = b0 := ⟨_, rfl⟩
    have hb0' : (l.headD 0).toNat = b0 := by
      rw [← hb0, strL_get]
      cases l with
      | nil => simp at hb
      | cons b l => rfl
    have HL := fun w => Lib.hid (sizeLetter b0 w)
    have HB := Lib.hid hb
    have HW := Lib.hid hw
    have HB0 := Lib.hid hb0'
    clear hb hw hb0'
    cases h1 : isLet b0 with
    | false =>
      rw [h1] at HL
      have H1 := Lib.hid h1
      have hRf : R = false := by rw [← HR.out]; unfold nameB; rw [HB0.out, H1.out, Bool.and_false, Bool.false_and]
      subst hRf
      clear h1
      go_enter Tryz.func116, Tryz.ntmps116
      go_wp2_with (first | (go_at_call 143; refine ((HWI _).out).mono ?_; rintro e w' ⟨rfl, rfl⟩) | (go_at_call 144; refine ((HL _).out).mono ?_; rintro e w' ⟨rfl, rfl⟩))
      go_ret
      exact ⟨rfl, rfl⟩
    | true =>
      rw [h1] at HL
      have H1 := Lib.hid h1
      have hall : R = l.all (fun b => isWrd b.toNat) := by rw [← HR.out]; unfold nameB; rw [HB0.out, H1.out, HW.out]; rfl
      have HALL := Lib.hid hall
      clear h1 hall HR
      go_enter Tryz.func116, Tryz.ntmps116
      go_wp2_with (first | (go_at_call 143; refine ((HWI _).out).mono ?_; rintro e w' ⟨rfl, rfl⟩) | (go_at_call 144; refine ((HL _).out).mono ?_; rintro e w' ⟨rfl, rfl⟩))
      go_loop [16] (fun x16 => ∃ i : Nat, i ≤ l.length ∧ x16 = .int .i64 ((i : Nat) : Int) ∧ (l.take i).all (fun b => isWrd b.toNat) = true) (fun x16 => l.length - (intOf x16).toNat)
      case atStart => exact ⟨0, Nat.zero_le _, rfl, by simp⟩
      case round =>
        obtain ⟨i, hi, rfl, hall⟩ := hrel
        have HA := Lib.hid hall
        clear hall
        by_cases hlt : i < l.length
        · have h2 : i < (strL l).size := by omega
          have hgb : (strL l)[i].toNat = (l[i]'hlt).toNat := by rw [strL_get]
          have HO := fun w => Lib.hid (sizeOfName ((strL l)[i].toNat) w)
          cases h3 : isWrd ((strL l)[i].toNat) with
          | false =>
            rw [h3] at HO
            have hRf : R = false := by rw [HALL.out]; exact all_get hlt (by rw [← hgb]; exact h3)
            have HRF := Lib.hid hRf
            clear h3 hgb hRf
            go_wp2_with (go_at_call 145; refine ((HO _).out).mono ?_; rintro e w' ⟨rfl, rfl⟩)
            go_ret
            exact ⟨ret_bool HRF.out.symm, rfl⟩
          | true =>
            rw [h3] at HO
            have hn := all_take_succ hlt HA.out (by rw [← hgb]; exact h3)
            have HN := Lib.hid hn
            clear h3 hgb hn
            go_wp2_with (go_at_call 145; refine ((HO _).out).mono ?_; rintro e w' ⟨rfl, rfl⟩)
            go_round
            case rel => exact ⟨i + 1, by omega, by go_num, HN.out⟩
            case measure => simp [intOf]; omega
        · obtain rfl : i = l.length := by omega
          have hRt : R = true := by rw [HALL.out]; have := HA.out; rwa [List.take_length] at this
          have HRT := Lib.hid hRt
          clear hRt
          go_wp2
          go_ret
          exact ⟨ret_bool HRT.out.symm, rfl⟩
  · have hw' : inB (l.length : Int) 1 32 = false := by simpa using hw
    rw [hw'] at HWI
    have hRf : R = false := by rw [← HR.out]; simp [nameB, hw']
    subst hRf
    clear hw hw'
    go_enter Tryz.func116, Tryz.ntmps116
    go_wp2_with (go_at_call 143; refine ((HWI _).out).mono ?_; rintro e w' ⟨rfl, rfl⟩)
    go_ret
    exact ⟨rfl, rfl⟩
end Go.Proofs.YtbpkppmbbpoohaaGreat

namespace Go.Proofs.YtbpkppmbbpoohaaGreat
open Go.RowKit Go.Shelf

/-- Elements of s cells each in a slice, in blocks that are not of S. -/
def SlAt {α : Type} (cs : α → List Value) (s : Nat) (S : Nat → Prop) (W : World) (A : Option Addr) (c : Nat) (D : List α) : Prop :=
  D.length ≤ c ∧ c ≤ 9223372036854775807 ∧ ∀ (i : Nat) (d : α), D[i]? = some d → ∃ g o, A = some ⟨g, o, none⟩ ∧ ¬ S g ∧ ∀ j u, (cs d)[j]? = some u → W.cell? ⟨g, o + i * s + j, none⟩ = some u

section
variable {α : Type} {cs : α → List Value} {s c : Nat} {S : Nat → Prop} {W W' : World} {A : Option Addr} {D : List α} {d : α}
theorem SlAt.rest {T : Nat → Prop} (h : SlAt cs s S W A c D) (hr : Rest T W W') (hT : ∀ i, i < W.heap.size → T i → S i) : SlAt cs s S W' A c D := by
  refine ⟨h.1, h.2.1, fun i d hi => ?_⟩
  obtain ⟨g, o, hA, hS, hc⟩ := h.2.2 i d hi
  refine ⟨g, o, hA, hS, fun j u hu => ?_⟩
  have hcc := hc j u hu
  have hlt := World.block_lt_of_cell? _ _ hcc
  exact (hr.cell (p := ⟨g, o + i * s + j, none⟩) hlt (fun e => hS (hT g hlt e))).trans hcc
theorem SlAt.below (h : SlAt cs s S W A c D) (hb : Below W.heap.size W W') : SlAt cs s S W' A c D := h.rest (T := fun _ => False) (Rest.below hb) (fun _ _ e => e.elim)
theorem SlAt.head (h : SlAt cs s S W A c (d :: D)) : ∃ g o, A = some ⟨g, o, none⟩ ∧ ¬ S g ∧ ∀ j u, (cs d)[j]? = some u → W.cell? ⟨g, o + j, none⟩ = some u := by
  obtain ⟨g, o, hA, hS, hc⟩ := h.2.2 0 d rfl
  refine ⟨g, o, hA, hS, fun j u hu => ?_⟩
  have := hc j u hu
  rw [Nat.zero_mul, Nat.add_zero] at this
  exact this
theorem SlAt.last (h : SlAt cs s S W A 1 (d :: D)) (A' : Option Addr) : D = [] ∧ SlAt cs s S W A' 0 D := by
  have h0 : D = [] := by
    have := h.1
    simp only [List.length_cons] at this
    exact List.length_eq_zero_iff.1 (by omega)
  subst h0
  exact ⟨rfl, Nat.le_refl _, by omega, fun i d hi => by simp at hi⟩
theorem SlAt.tail {g o : Nat} (h : SlAt cs s S W (some ⟨g, o, none⟩) c (d :: D)) : SlAt cs s S W (some ⟨g, o + s, none⟩) (c - 1) D := by
  have h1 := h.1
  have h2 := h.2.1
  simp only [List.length_cons] at h1
  refine ⟨by omega, by omega, fun i e hi => ?_⟩
  obtain ⟨g', o', hA, hS, hc⟩ := h.2.2 (i + 1) e (by simpa using hi)
  simp only [Option.some.injEq, Addr.mk.injEq, and_true] at hA
  obtain ⟨rfl, rfl⟩ := hA
  refine ⟨g, o + s, rfl, hS, fun j u hu => ?_⟩
  have := hc j u hu
  rw [show o + s + i * s + j = o + (i + 1) * s + j by rw [Nat.add_mul]; omega]
  exact this
/-- A row as a slice. -/
theorem slAt_row {base n : Nat} {t : TypeId} (h : W.ownsRow base t s (.slice A n c) n (D.flatMap cs)) (hn : n = D.length) (hget : ∀ (i : Nat) (d : α), D[i]? = some d → ∀ j, j < s → (D.flatMap cs)[i * s + j]? = (cs d)[j]?) (hlen : ∀ d, (cs d).length = s) (hS : ∀ k, A.map (·.block) = some k → ¬ S k) : SlAt cs s S W A c D := by
  subst hn
  rcases h.2 with ⟨hv, h0⟩ | ⟨g, cap, cur, hv, _, hg, h1, h2, h3, h4⟩
  · simp only [Value.slice.injEq] at hv
    obtain ⟨rfl, h5, rfl⟩ := hv
    have hD : D = [] := List.length_eq_zero_iff.1 h5
    subst hD
    exact ⟨Nat.le_refl _, by omega, fun i d hi => by simp at hi⟩
  · simp only [Value.slice.injEq, true_and] at hv
    obtain ⟨rfl, rfl⟩ := hv
    refine ⟨h1, h2, fun i d hi => ⟨g, 0, rfl, hS g rfl, fun j u hu => ?_⟩⟩
    have hj : j < s := by
      have := (List.getElem?_eq_some_iff.1 hu).1
      rwa [hlen] at this
    have hh := hget i d hi j hj
    rw [hu, ← h4, List.getElem?_take] at hh
    split at hh
    · rw [Nat.zero_add]
      simp only [World.cell?, hg]
      simpa using hh
    · cases hh
end

theorem below_alloc (w : World) (o : Obj) : Below w.heap.size w (w.alloc o) := (Below.refl w.heap.size w).alloc (Nat.le_refl _) o
/-- The element at a place. -/
theorem SlAt.at_ {α : Type} {cs : α → List Value} {s c : Nat} {S : Nat → Prop} {W : World} {A : Option Addr} {D : List α} (h : SlAt cs s S W A c D) {i : Nat} {d : α} (hi : D[i]? = some d) : ∃ g o, A = some ⟨g, o, none⟩ ∧ ∀ j u, (cs d)[j]? = some u → W.cell? ⟨g, o + i * s + j, none⟩ = some u := by
  obtain ⟨g, o, h1, _, h2⟩ := h.2.2 i d hi
  exact ⟨g, o, h1, h2⟩

/-- The place of the first element with a property, counted from k; -1. -/
def idxFrom {α : Type} (p : α → Bool) : Nat → List α → Int
  | _, [] => -1
  | k, d :: D => if p d then (k : Int) else idxFrom p (k + 1) D
def idxOf {α : Type} (p : α → Bool) (D : List α) : Int := idxFrom p 0 D
theorem idxFrom_split {α : Type} (p : α → Bool) (D : List α) (d : α) (E : List α) : ∀ k, (∀ x ∈ D, p x = false) → p d = true → idxFrom p k (D ++ d :: E) = ((k + D.length : Nat) : Int) := by
  induction D with
  | nil => intro k _ hd; simp [idxFrom, hd]
  | cons x D ih =>
    intro k hD hd
    simp only [List.cons_append, idxFrom, hD x List.mem_cons_self, List.length_cons]
    rw [if_neg (by decide), ih (k + 1) (fun y hy => hD y (List.mem_cons_of_mem _ hy)) hd]
    congr 1; omega
theorem idxFrom_none {α : Type} (p : α → Bool) (D : List α) : ∀ k, (∀ x ∈ D, p x = false) → idxFrom p k D = -1 := by
  induction D with
  | nil => intro k _; rfl
  | cons x D ih =>
    intro k hD
    simp only [idxFrom, hD x List.mem_cons_self]
    rw [if_neg (by decide), ih (k + 1) (fun y hy => hD y (List.mem_cons_of_mem _ hy))]
theorem idx_hit {α : Type} {p : α → Bool} {D : List α} {i : Nat} {d : α} (hi : D[i]? = some d) (hb : ∀ x ∈ D.take i, p x = false) (hd : p d = true) : idxOf p D = ((i : Nat) : Int) := by
  obtain ⟨hl, rfl⟩ := List.getElem?_eq_some_iff.1 hi
  have e : D = D.take i ++ D[i] :: D.drop (i + 1) := by rw [← List.drop_eq_getElem_cons hl, List.take_append_drop]
  have := idxFrom_split p (D.take i) D[i] (D.drop (i + 1)) 0 hb hd
  rw [← e] at this
  unfold idxOf
  rw [this, List.length_take]
  congr 1; omega
theorem idx_miss {α : Type} {p : α → Bool} {D : List α} (hb : ∀ x ∈ D, p x = false) : idxOf p D = -1 := idxFrom_none p D 0 hb
theorem take_none {α : Type} {p : α → Bool} {D : List α} {i : Nat} {d : α} (hi : D[i]? = some d) (hb : ∀ x ∈ D.take i, p x = false) (hd : p d = false) : ∀ x ∈ D.take (i + 1), p x = false := by
  obtain ⟨hl, rfl⟩ := List.getElem?_eq_some_iff.1 hi
  intro x hx
  rw [List.take_succ_eq_append_getElem hl, List.mem_append] at hx
  rcases hx with hx | hx
  · exact hb x hx
  · simp at hx; rw [hx]; exact hd
theorem idx_nonneg {α : Type} (p : α → Bool) (D : List α) : ∀ k, (0 ≤ idxFrom p k D ↔ D.any p = true) := by
  induction D with
  | nil => intro k; simp [idxFrom]
  | cons x D ih =>
    intro k
    cases hx : p x
    · simp only [idxFrom, hx, List.any_cons]
      rw [if_neg (by decide), ih (k + 1)]
      simp
    · simp only [idxFrom, hx, List.any_cons]
      rw [if_pos trivial]
      simp
theorem idx_bounds {α : Type} (p : α → Bool) (D : List α) : ∀ k, idxFrom p k D = -1 ∨ ((k : Int) ≤ idxFrom p k D ∧ idxFrom p k D < k + D.length) := by
  induction D with
  | nil => intro k; exact .inl rfl
  | cons x D ih =>
    intro k
    simp only [idxFrom, List.length_cons]
    split
    · exact .inr (by omega)
    · rcases ih (k + 1) with h | h
      · exact .inl h
      · exact .inr (by omega)

def boolCell (b : Bool) : List Value := [.bool b]

set_option maxRecDepth 100000 in
set_option maxHeartbeats 800000 in
theorem boolsIndex (A : Option Addr) (c : Nat) (D : List Bool) (v : Bool) (S : Nat → Prop) (w : World) (h : SlAt boolCell 1 S w A c D) :
    Calls Tryz.prog 185 #[.slice A D.length c, .bool v] w fun e w' => e = .returned (.int .i64 (idxOf (fun b => v == b) D)) ∧ w' = w := by
  have hl : D.length ≤ 9223372036854775807 := Nat.le_trans h.1 h.2.1
  have H := Lib.hid h
  obtain ⟨R, hR⟩ : ∃ R, idxOf (fun b => v == b) D = R := ⟨_, rfl⟩
  rw [hR]
  have HR := Lib.hid hR
  clear h hR
  go_enter Tryz.func185, Tryz.ntmps185
  go_wp2
  go_loop [8] (fun x8 => ∃ i : Nat, i ≤ D.length ∧ x8 = .int .i64 ((i : Nat) : Int) ∧ ∀ x ∈ D.take i, (v == x) = false) (fun x8 => D.length - (intOf x8).toNat)
  case atStart => exact ⟨0, Nat.zero_le _, rfl, by simp⟩
  case round =>
    obtain ⟨i, hi, rfl, hb⟩ := hrel
    have HB := Lib.hid hb
    clear hb
    by_cases hlt : i < D.length
    · obtain ⟨d, hd⟩ : ∃ d, D[i]? = some d := ⟨_, List.getElem?_eq_getElem hlt⟩
      obtain ⟨g, o, rfl, hx⟩ := H.out.at_ hd
      have hc : w.cell? ⟨g, o + i, none⟩ = some (.bool d) := by have := hx 0 (.bool d) rfl; simpa using this
      have HD := Lib.hid hd
      clear hd hx
      cases hv : (v == d) with
      | true =>
        have hRi : R = ((i : Nat) : Int) := by rw [← HR.out]; exact idx_hit HD.out HB.out hv
        have HRI := Lib.hid hRi
        clear hRi
        go_wp2
        go_ret
        exact ⟨ret_int HRI.out.symm, rfl⟩
      | false =>
        have hn := take_none HD.out HB.out hv
        have HN := Lib.hid hn
        clear hn
        go_wp2
        go_round
        case rel => exact ⟨i + 1, by omega, by go_num, HN.out⟩
        case measure => simp [intOf]; omega
    · obtain rfl : i = D.length := by omega
      have hRi : R = -1 := by rw [← HR.out]; refine idx_miss ?_; have := HB.out; rwa [List.take_length] at this
      have HRI := Lib.hid hRi
      clear hRi
      go_wp2
      go_ret
      exact ⟨ret_int HRI.out.symm, rfl⟩

theorem all_idx (D : List Bool) : decide (idxOf (fun b => false == b) D ≥ 0) = !(D.all id) := by
  have := idx_nonneg (fun b => false == b) D 0
  rw [Bool.eq_iff_iff, decide_eq_true_iff]
  show idxFrom _ 0 D ≥ 0 ↔ _
  rw [ge_iff_le, this]
  simp

set_option maxRecDepth 100000 in
set_option maxHeartbeats 800000 in
theorem boolsContains (A : Option Addr) (c : Nat) (D : List Bool) (S : Nat → Prop) (w : World) (h : SlAt boolCell 1 S w A c D) :
    Calls Tryz.prog 175 #[.slice A D.length c, .bool false] w fun e w' => e = .returned (.bool (!(D.all id))) ∧ w' = w := by
  have H := Lib.hid (boolsIndex A c D false S w h)
  have he := all_idx D
  obtain ⟨k, hk⟩ : ∃ k, idxOf (fun b => false == b) D = k := ⟨_, rfl⟩
  obtain ⟨R, hR⟩ : ∃ R, (!(D.all id)) = R := ⟨_, rfl⟩
  rw [hk] at H he
  rw [hR] at he ⊢
  have HE := Lib.hid he
  clear h hk he hR
  go_enter Tryz.func175, Tryz.ntmps175
  go_wp2_with (go_at_call 185; refine H.out.mono ?_; rintro e w' ⟨rfl, rfl⟩)
  go_ret
  exact ⟨ret_bool HE.out, rfl⟩

set_option maxRecDepth 100000 in
set_option maxHeartbeats 800000 in
theorem sizeAll (A : Option Addr) (c : Nat) (D : List Bool) (S : Nat → Prop) (w : World) (h : SlAt boolCell 1 S w A c D) :
    Calls Tryz.prog 152 #[.slice A D.length c] w fun e w' => e = .returned (.bool (D.all id)) ∧ w' = w := by
  have H := Lib.hid (boolsContains A c D S w h)
  obtain ⟨R, hR⟩ : ∃ R, D.all id = R := ⟨_, rfl⟩
  rw [hR] at H ⊢
  clear h hR
  go_enter Tryz.func152, Tryz.ntmps152
  go_wp2_with (go_at_call 175; refine H.out.mono ?_; rintro e w' ⟨rfl, rfl⟩)
  go_ret
  exact ⟨ret_bool (by simp), rfl⟩

/-- Truth values in a block of their own. -/
theorem bools_at (W : World) (g c : Nat) (D : List Bool) (h : ∀ i b, D[i]? = some b → W.cell? ⟨g, i, none⟩ = some (.bool b)) (hl : D.length ≤ c) (hc : c ≤ 9223372036854775807) : SlAt boolCell 1 (fun _ => False) W (some ⟨g, 0, none⟩) c D :=
  ⟨hl, hc, fun i d hi => ⟨g, 0, rfl, fun e => e, fun j u hu => by
    have hj : j = 0 := by
      have := (List.getElem?_eq_some_iff.1 hu).1
      simp [boolCell] at this; omega
    subst hj
    have hu' : u = .bool d := by simpa [boolCell] using hu.symm
    subst hu'
    have := h i d hi
    simpa using this⟩⟩
theorem all_at (W : World) (g n : Nat) (D : List Bool) (t : TypeId) (h : W.heap[g]? = some (.cells (D.map Value.bool).toArray t (0, 0))) (hl : D.length = n) (hn : n ≤ 9223372036854775807) :
    Calls Tryz.prog 152 #[.slice (some ⟨g, 0, none⟩) n n] W fun e w' => e = .returned (.bool (D.all id)) ∧ w' = W := by
  subst hl
  refine sizeAll _ _ D (fun _ => False) W (bools_at W g _ D (fun i b hb => ?_) (Nat.le_refl _) hn)
  simp only [World.cell?, h]
  simp [hb]
theorem all2 (W : World) (g : Nat) (a b : Bool) (t : TypeId) (h : W.heap[g]? = some (.cells #[.bool a, .bool b] t (0, 0))) :
    Calls Tryz.prog 152 #[.slice (some ⟨g, 0, none⟩) 2 2] W fun e w' => e = .returned (.bool (a && b)) ∧ w' = W := by
  have := all_at W g 2 [a, b] t h rfl (by decide)
  simpa using this
theorem all3 (W : World) (g : Nat) (a b c : Bool) (t : TypeId) (h : W.heap[g]? = some (.cells #[.bool a, .bool b, .bool c] t (0, 0))) :
    Calls Tryz.prog 152 #[.slice (some ⟨g, 0, none⟩) 3 3] W fun e w' => e = .returned (.bool (a && (b && c))) ∧ w' = W := by
  have := all_at W g 3 [a, b, c] t h rfl (by decide)
  simpa using this
theorem all4 (W : World) (g : Nat) (a b c d : Bool) (t : TypeId) (h : W.heap[g]? = some (.cells #[.bool a, .bool b, .bool c, .bool d] t (0, 0))) :
    Calls Tryz.prog 152 #[.slice (some ⟨g, 0, none⟩) 4 4] W fun e w' => e = .returned (.bool (a && (b && (c && d)))) ∧ w' = W := by
  have := all_at W g 4 [a, b, c, d] t h rfl (by decide)
  simpa using this
end Go.Proofs.YtbpkppmbbpoohaaGreat

namespace Go.Proofs.YtbpkppmbbpoohaaGreat
open Go.RowKit Go.Shelf

theorem text_ne {a b : List UInt8} (h : a ≠ b) : ((strL a).toList == (strL b).toList) = false := by rw [strL_toList, strL_toList]; simpa using h
/-- A term of a size. -/
structure TermD where
  f : List UInt8
  k : Int
def TermD.cells (d : TermD) : List Value := [.string (strL d.f), .int .i64 d.k]
def TermD.agg (d : TermD) : Value := .agg #[.string (strL d.f), .int .i64 d.k]

set_option maxRecDepth 100000 in
set_option maxHeartbeats 1600000 in
theorem termsIndex (F : Nat) (cap : Array Value) (eg : ∀ args w, (callFunc F args).run Tryz.prog w = .ok (.enter F args) w) (p : TermD → Bool) (A : Option Addr) (c : Nat) (D : List TermD) (S : Nat → Prop) (w : World) (h : SlAt TermD.cells 2 S w A c D)
    (hF : ∀ d ∈ D, ∀ wx, Below w.heap.size w wx → Calls Tryz.prog F (#[d.agg] ++ cap) wx fun e w' => e = .returned (.bool (p d)) ∧ Below wx.heap.size wx w') :
    Calls Tryz.prog 176 #[.slice A D.length c, .func (.func F) #[] cap] w fun e w' => e = .returned (.int .i64 (idxOf p D)) ∧ Below w.heap.size w w' := by
  have hl : D.length ≤ 9223372036854775807 := Nat.le_trans h.1 h.2.1
  have H := Lib.hid h
  have HF := Lib.hid hF
  have EG := Lib.hid eg
  obtain ⟨R, hR⟩ : ∃ R, idxOf p D = R := ⟨_, rfl⟩
  rw [hR]
  have HR := Lib.hid hR
  clear h hR hF
  go_enter Tryz.func176, Tryz.ntmps176
  go_wp2
  go_loopw [8] (fun x8 wr => ∃ i : Nat, i ≤ D.length ∧ x8 = .int .i64 ((i : Nat) : Int) ∧ (∀ x ∈ D.take i, p x = false) ∧ Below w.heap.size w wr) (fun x8 _ => D.length - (intOf x8).toNat)
  case atStart => exact ⟨0, Nat.zero_le _, rfl, by simp, Below.refl _ _⟩
  case round =>
    obtain ⟨i, hi, rfl, hb, hbw⟩ := hrel
    have HB := Lib.hid hb
    have HBW := Lib.hid hbw
    clear hb hbw
    by_cases hlt : i < D.length
    · obtain ⟨d, hd⟩ : ∃ d, D[i]? = some d := ⟨_, List.getElem?_eq_getElem hlt⟩
      obtain ⟨g, o, rfl, hx⟩ := (H.out.rest (Rest.below HBW.out) (fun _ _ e => e)).at_ hd
      have HFD := Lib.hid (HF.out d (List.mem_of_getElem? hd) wr HBW.out)
      have y0 : wr.cell? ⟨g, o + i * 2, none⟩ = some (.string (strL d.f)) := hx 0 _ rfl
      have y1 : wr.cell? ⟨g, o + i * 2 + 1, none⟩ = some (.int .i64 d.k) := hx 1 _ rfl
      have HD := Lib.hid hd
      clear hd hx
      cases hv : p d with
      | true =>
        rw [hv] at HFD
        unfold TermD.agg at HFD
        have hRi : R = ((i : Nat) : Int) := by rw [← HR.out]; exact idx_hit HD.out HB.out hv
        have HRI := Lib.hid hRi
        clear hRi hv
        go_wp2_with fail
        refine HFD.out.mono ?_
        rintro e w2 ⟨rfl, hb2⟩
        have HB2 := Lib.hid (HBW.out.trans (hb2.mono HBW.out.size))
        clear hb2
        go_wp2_with fail
        go_ret
        exact ⟨ret_int HRI.out.symm, HB2.out⟩
      | false =>
        rw [hv] at HFD
        unfold TermD.agg at HFD
        have hn := take_none HD.out HB.out hv
        have HN := Lib.hid hn
        clear hn hv
        go_wp2_with fail
        refine HFD.out.mono ?_
        rintro e w2 ⟨rfl, hb2⟩
        have HB2 := Lib.hid (HBW.out.trans (hb2.mono HBW.out.size))
        clear hb2
        go_wp2_with fail
        go_roundw
        case rel => exact ⟨i + 1, by omega, by go_num, HN.out, HB2.out⟩
        case measure => simp [intOf]; omega
    · obtain rfl : i = D.length := by omega
      have hRi : R = -1 := by rw [← HR.out]; refine idx_miss ?_; have := HB.out; rwa [List.take_length] at this
      have HRI := Lib.hid hRi
      clear hRi
      go_wp2_with fail
      go_ret
      exact ⟨ret_int HRI.out.symm, HBW.out⟩

theorem Tryz.entFind1 : ∀ args w, (callFunc 177 args).run Tryz.prog w = .ok (.enter 177 args) w := enters_of Tryz.func177 (by kernel_rfl) rfl

set_option maxRecDepth 100000 in
set_option maxHeartbeats 800000 in
theorem sizeFind1 (d : TermD) (s : List UInt8) (b : Nat) (w : World) (h : w.cell? ⟨b, 0, none⟩ = some (.string (strL s))) :
    Calls Tryz.prog 177 #[d.agg, .pointer (some ⟨b, 0, none⟩)] w fun e w' => e = .returned (.bool (d.f == s)) ∧ Below w.heap.size w w' := by
  unfold TermD.agg
  have hbl := World.block_lt_of_cell? _ _ h
  have hal := below_alloc w (.cells #[.string (strL d.f), .int .i64 d.k] 67)
  have h1 := (hal.cell (p := ⟨b, 0, none⟩) hbl).trans h
  have HAL := Lib.hid hal
  clear hal h
  by_cases he : d.f = s
  · subst he
    go_enter Tryz.func177, Tryz.ntmps177
    go_wp2
    go_ret
    exact ⟨ret_bool (by simp), HAL.out⟩
  · have e1 := text_ne he
    have HE := Lib.hid he
    clear he
    go_enter Tryz.func177, Tryz.ntmps177
    go_wp2
    go_ret
    exact ⟨ret_bool (by simpa using HE.out), HAL.out⟩

set_option maxRecDepth 100000 in
set_option maxHeartbeats 800000 in
theorem sizeFind (A : Option Addr) (c : Nat) (D : List TermD) (s : List UInt8) (S : Nat → Prop) (w : World) (h : SlAt TermD.cells 2 S w A c D) :
    Calls Tryz.prog 154 #[.slice A D.length c, .string (strL s)] w fun e w' => e = .returned (.int .i64 (idxOf (fun d => d.f == s) D)) ∧ Below w.heap.size w w' := by
  have hal := below_alloc w (.cells #[.string (strL s)] 9)
  have hbx := Boxed.new w 9 (.string (strL s))
  have h1 := h.below hal
  obtain ⟨b, eb⟩ : ∃ b, w.heap.size = b := ⟨_, rfl⟩
  obtain ⟨w1, hw1⟩ : ∃ w1, w.alloc (.cells #[.string (strL s)] 9) = w1 := ⟨_, rfl⟩
  rw [hw1] at hal hbx h1
  rw [eb] at hbx
  have HI := Lib.hid (termsIndex 177 #[.pointer (some ⟨b, 0, none⟩)] Tryz.entFind1 (fun d => d.f == s) A c D S w1 h1 (fun d _ wx hb => sizeFind1 d s b wx (boxed_below hbx hb hbx.lt).cell))
  have HW := Lib.hid hw1
  have EB := Lib.hid eb
  have HAL := Lib.hid hal
  obtain ⟨R, hR⟩ : ∃ R, idxOf (fun d : TermD => d.f == s) D = R := ⟨_, rfl⟩
  rw [hR] at HI ⊢
  clear h hw1 eb hal hbx h1 hR
  go_enter Tryz.func154, Tryz.ntmps154
  go_upto_region 1 with fail
  rw [HW.out, EB.out]
  go_wp2_with fail
  refine HI.out.mono ?_
  rintro e w2 ⟨rfl, hb2⟩
  have HB2 := Lib.hid (HAL.out.trans (hb2.mono HAL.out.size))
  clear hb2
  go_wp2_with fail
  go_ret
  exact ⟨rfl, HB2.out⟩
end Go.Proofs.YtbpkppmbbpoohaaGreat
