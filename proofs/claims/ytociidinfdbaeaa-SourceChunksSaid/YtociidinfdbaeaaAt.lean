/- Acts in memory: a slice of calls, and fits on it. Conditions: the acts lie in memory. -/
import Derived.Test.YtociidinfdbaeaaIs
namespace Go.Proofs.Ytociidinfdbaeaa
open Go.RowKit Go.Shelf

/-- One call as it lies in memory. -/
structure ActD where
  kd : Nat
  V : Int
  E : Nat
  A : Option Addr
  c : Nat
  B : List Nat

def ActD.lies (d : ActD) (w : World) (g o : Nat) : Prop :=
  g < w.heap.size ∧ w.cell? ⟨g, o, none⟩ = some (.int .u8 d.kd) ∧ w.cell? ⟨g, o + 1, none⟩ = some (.slice d.A d.B.length d.c) ∧ w.cell? ⟨g, o + 2, none⟩ = some (.int .i64 d.V) ∧ w.cell? ⟨g, o + 3, none⟩ = some (.int .u8 d.E) ∧
    SrcE w (.slice d.A d.B.length d.c) d.B ∧ (∀ x ∈ d.B, x < 256) ∧ d.kd ≤ 255 ∧ d.E ≤ 255 ∧ d.B.length ≤ 9223372036854775807

theorem ActD.lies.rest {d : ActD} {w w' : World} {g o : Nat} {S : Nat → Prop} (h : d.lies w g o) (hr : Rest S w w') (hg : ¬ S g) (ho : ∀ k, k < w.heap.size → (Value.slice d.A d.B.length d.c).ownBlock = some k → ¬ S k) : d.lies w' g o := by
  obtain ⟨h0, h1, h2, h3, h4, h5, h6, h7, h8⟩ := h
  exact ⟨Nat.lt_of_lt_of_le h0 hr.size, (hr.cell (p := ⟨g, o, none⟩) h0 hg).trans h1, (hr.cell (p := ⟨g, o + 1, none⟩) h0 hg).trans h2, (hr.cell (p := ⟨g, o + 2, none⟩) h0 hg).trans h3,
    (hr.cell (p := ⟨g, o + 3, none⟩) h0 hg).trans h4, h5.rest hr ho, h6, h7, h8⟩

/-- A slice of calls: nil, or its elements, four cells each. -/
def ActsAt (w : World) (s : Value) (L : List ActD) : Prop :=
  (s = .slice none 0 0 ∧ L = []) ∨ ∃ g o c, s = .slice (some ⟨g, o, none⟩) L.length c ∧ ∀ (i : Nat) (d : ActD), L[i]? = some d → d.lies w g (o + i * 4)

/-- The acts stay as long as the blocks below a bound stay. -/
theorem ActsAt.below {w w' : World} {s : Value} {L : List ActD} (h : ActsAt w s L) (hb : Below w.heap.size w w') : ActsAt w' s L := by
  rcases h with h | ⟨g, o, c, rfl, hc⟩
  · exact .inl h
  · exact .inr ⟨g, o, c, rfl, fun i d hi => (hc i d hi).rest (S := fun k => w.heap.size ≤ k) ⟨hb.os, hb.tape, hb.output, hb.size, fun k hk _ => hb.block k hk⟩ (by have := (hc i d hi).1; omega) (fun k hk _ => by omega)⟩

/-- What fits asks. -/
def smallB (L : List ActD) : Bool := L.all (fun d => decide (d.B.length ≤ 100)) && decide (L.length ≤ 60)

set_option maxRecDepth 100000 in
set_option maxHeartbeats 800000 in
theorem fits_nil (w : World) : Calls Try.prog 8 #[.slice none 0 0] w fun e w' => e = .returned (.bool (smallB [])) ∧ w = w' := by
  go_enter Try.func8, Try.ntmps8
  go_wp2
  go_loopw [3] (fun i wr => i = .int .i64 0 ∧ wr = w) (fun _ _ => 0)
  case atStart => exact ⟨rfl, rfl⟩
  case round =>
    obtain ⟨rfl, rfl⟩ := hrel
    go_wp2
    go_ret
    exact ⟨rfl, rfl⟩

set_option maxRecDepth 100000 in
set_option maxHeartbeats 800000 in
theorem fits_some (g o : Nat) (c : Nat) (L : List ActD) (w : World) (h : ∀ (i : Nat) (d : ActD), L[i]? = some d → d.lies w g (o + i * 4)) (hl : L.length ≤ 9223372036854775807) :
    Calls Try.prog 8 #[.slice (some ⟨g, o, none⟩) L.length c] w fun e w' => e = .returned (.bool (smallB L)) ∧ w = w' := by
  have H := Lib.hid h
  clear h
  go_enter Try.func8, Try.ntmps8
  go_wp2
  go_loopw [3] (fun i wr => ∃ k : Nat, k ≤ L.length ∧ i = .int .i64 k ∧ wr = w ∧ (∀ (j : Nat) (d : ActD), j < k → L[j]? = some d → d.B.length ≤ 100)) (fun i _ => L.length - (intOf i).toNat)
  case atStart => exact ⟨0, Nat.zero_le _, rfl, rfl, fun j d hj => absurd hj (Nat.not_lt_zero _)⟩
  case round =>
    obtain ⟨k, hk, rfl, rfl, hall⟩ := hrel
    have HA := Lib.hid hall
    clear hall
    by_cases hlt : k < L.length
    · obtain ⟨d, hd⟩ : ∃ d, L[k]? = some d := ⟨_, List.getElem?_eq_getElem hlt⟩
      obtain ⟨_, _, c1, _, _, _, _, _, _, hbl⟩ := H.out k d hd
      have HD := Lib.hid hd
      clear hd
      by_cases h50 : d.B.length ≤ 100
      · have h50i : (d.B.length : Int) ≤ 100 := by omega
        go_wp2
        go_roundw
        case rel =>
          refine ⟨k + 1, by omega, by go_num, trivial, fun j e hj he => ?_⟩
          by_cases hjk : j < k
          · exact HA.out j e hjk he
          · obtain rfl : j = k := by omega
            rw [HD.out] at he
            cases he
            exact h50
        case measure => simp [intOf]; omega
      · have h50i : (100 : Int) < d.B.length := by omega
        have hs : smallB L = false := by
          unfold smallB
          rw [Bool.and_eq_false_iff]
          left
          rw [List.all_eq_false]
          exact ⟨d, List.mem_of_getElem? HD.out, by simpa using h50⟩
        have HS := Lib.hid hs
        clear hs
        go_wp2
        go_ret
        rw [HS.out]
        exact ⟨rfl, rfl⟩
    · obtain rfl : k = L.length := by omega
      have hs : smallB L = decide ((L.length : Int) ≤ 60) := by
        unfold smallB
        have h1 : L.all (fun d => decide (d.B.length ≤ 100)) = true := by
          rw [List.all_eq_true]
          intro d hd
          obtain ⟨j, hj, rfl⟩ := List.getElem_of_mem hd
          simpa using HA.out j _ hj (List.getElem?_eq_getElem hj)
        rw [h1, Bool.true_and]
        exact decide_eq_decide.2 (by omega)
      have HS := Lib.hid hs
      clear hs
      go_wp2
      go_ret
      rw [HS.out]
      exact ⟨rfl, rfl⟩

/-- fits on any slice of calls. -/
theorem acts_fit (s : Value) (L : List ActD) (w : World) (h : ActsAt w s L) (hl : L.length ≤ 9223372036854775807) :
    Calls Try.prog 8 #[s] w fun e w' => e = .returned (.bool (smallB L)) ∧ w = w' := by
  rcases h with ⟨rfl, rfl⟩ | ⟨g, o, c, rfl, hc⟩
  · exact fits_nil w
  · exact fits_some g o c L w hc hl

/-- The state of the document after calls. -/
def St.run (L : Nat) : St → List ActD → St
  | s, [] => s
  | s, d :: r => St.run L (s.next L (d.kd % 7) d.B d.V d.E) r

theorem St.run_snoc (L : Nat) (s : St) (l : List ActD) (d : ActD) : s.run L (l ++ [d]) = (s.run L l).next L (d.kd % 7) d.B d.V d.E := by
  induction l generalizing s with
  | nil => rfl
  | cons e r ih => exact ih _

/-- What a state of a source of limit L is: not more taken than fed, and bytes. -/
structure St.Ok (s : St) (m : Nat) : Prop where
  le : s.T ≤ s.F.length
  few : s.F.length ≤ m
  bytes : ∀ y ∈ s.F, y < 256

theorem St.Ok.next {s : St} {m : Nat} (h : s.Ok m) (L k : Nat) (N : List Nat) (V : Int) (E : Nat) (hk : k < 7) (hN : N.length ≤ 100) (hB : ∀ y ∈ N, y < 256) : (s.next L k N V E).Ok (m + 100) := by
  have hl := h.le
  have hf := h.few
  have hp : ∀ {n : Int}, s.T + takeN (peekCode L s.B.length s.C n) n ≤ s.F.length := fun {n} => by
    by_cases h0 : peekCode L s.B.length s.C n = 0
    · obtain ⟨a, b⟩ := peekCode_zero h0
      unfold takeN
      rw [if_pos h0]
      unfold St.B at b
      rw [List.length_drop] at b
      omega
    · rw [takeN_ne h0]; omega
  have hk7 : k = 0 ∨ k = 1 ∨ k = 2 ∨ k = 3 ∨ k = 4 ∨ k = 5 ∨ k = 6 := by omega
  rcases hk7 with rfl | rfl | rfl | rfl | rfl | rfl | rfl
  · show St.Ok ⟨if feedCode L s.B.length s.C N.length = 0 then s.F ++ N else s.F, s.T, s.C⟩ _
    split
    · exact ⟨by simp; omega, by simp; omega, fun y hy => (List.mem_append.1 hy).elim (h.bytes y) (hB y)⟩
    · exact ⟨hl, by show s.F.length ≤ _; omega, h.bytes⟩
  · exact ⟨hl, by show s.F.length ≤ _; omega, h.bytes⟩
  · exact ⟨hp, by show s.F.length ≤ _; omega, h.bytes⟩
  · exact ⟨hp, by show s.F.length ≤ _; omega, h.bytes⟩
  · refine ⟨?_, by show s.F.length ≤ _; omega, h.bytes⟩
    show s.T + untilK L s.B s.C E V ≤ s.F.length
    by_cases h0 : untilCode L s.B s.C E V = 0
    · unfold untilK
      rw [if_pos h0]
      unfold untilCode at h0
      by_cases hneg : untilI E s.B V < 0
      · simp only [hneg, if_true] at h0
        have := few_ne s.C
        repeat' split at h0
        all_goals simp_all
      · obtain ⟨i, hi, hil⟩ := idxRes_lt hneg
        have e : untilI E s.B V = i := hi
        rw [e, Int.toNat_natCast]
        rw [List.length_take] at hil
        unfold St.B at hil
        rw [List.length_drop] at hil
        omega
    · unfold untilK
      rw [if_neg h0]
      omega
  · exact ⟨hl, by show s.F.length ≤ _; omega, h.bytes⟩
  · exact ⟨hl, by show s.F.length ≤ _; omega, h.bytes⟩

theorem St.out_lt {s : St} {m : Nat} (h : s.Ok m) (L k : Nat) (V : Int) (E : Nat) : ∀ y ∈ s.out L k V E, y < 256 := by
  intro y hy
  refine h.bytes y ?_
  unfold St.out at hy
  have ht : ∀ {c n : Int}, y ∈ takeB c n s.B → y ∈ s.F := fun {c n} hy => by
    unfold takeB at hy
    split at hy
    · exact List.mem_of_mem_drop (List.mem_of_mem_take hy)
    · simp at hy
  split at hy
  · exact ht hy
  · exact ht hy
  · unfold untilB at hy
    split at hy
    · exact List.mem_of_mem_drop (List.mem_of_mem_take hy)
    · simp at hy
  · simp at hy

theorem St.out_len {s : St} {m : Nat} (h : s.Ok m) (L k : Nat) (V : Int) (E : Nat) : (s.out L k V E).length ≤ m := by
  have hB : s.B.length ≤ m := by have := h.few; unfold St.B; rw [List.length_drop]; omega
  unfold St.out
  have ht : ∀ {c n : Int}, (takeB c n s.B).length ≤ m := fun {c n} => by
    unfold takeB
    split
    · rw [List.length_take]; omega
    · simp
  split
  · exact ht
  · exact ht
  · unfold untilB
    split
    · rw [List.length_take]; omega
    · simp
  · simp
end Go.Proofs.Ytociidinfdbaeaa
