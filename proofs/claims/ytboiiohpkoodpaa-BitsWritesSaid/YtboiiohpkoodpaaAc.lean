/- Acts in memory: a slice of calls as an argument, and fits on it. Conditions: the acts lie in memory. -/
import Derived.Test.YtboiiohpkoodpaaPy
namespace Go.Proofs.Ytboiiohpkoodpaa
open Go.RowKit Go.Shelf

/-- Bytes of a call: as SrcAt, or none, at any place. -/
def SrcE (w : World) (s : Value) (B : List Nat) : Prop := SrcAt w s B ∨ (B = [] ∧ ∃ a c, s = .slice (some a) 0 c)

theorem SrcE.later {w w' : World} {s : Value} {B : List Nat} (h : SrcE w s B) (hb : Below w.heap.size w w') : SrcE w' s B := by
  rcases h with h | h
  · exact .inl (h.later hb)
  · exact .inr h

set_option maxRecDepth 100000 in
set_option maxHeartbeats 800000 in
theorem bytes_empty (b : Nat) (vv : Value) (l : List Bool) (a : Addr) (c : Nat) (w : World) (h : WAt w b vv l) (hl : l.length ≤ 8388608) (ha : l.length % 8 = 0) :
    Calls Try.prog 36 #[.pointer (some ⟨b, 0, none⟩), .slice (some a) 0 c] w (Wrote b vv (l ++ unpack []) 0 w) := by
  have hc : bytesCode l.length 0 = 0 := by
    unfold bytesCode
    rw [if_pos (by simp; omega), if_neg (by omega)]
  have hF := bytes_first b vv l (some a) 0 c w h hl (by omega)
  rw [hc] at hF
  have HF := Lib.hid hF
  have hbx := box2_below w (.pointer (some ⟨b, 0, none⟩)) (.slice (some a) 0 c) 25 28
  have HB1 := Lib.hid (box2_1 w (.pointer (some ⟨b, 0, none⟩)) (.slice (some a) 0 c) 25 28)
  have HB2 := Lib.hid (box2_2 w (.pointer (some ⟨b, 0, none⟩)) (.slice (some a) 0 c) 25 28)
  have HBX := Lib.hid hbx
  have H := Lib.hid h
  have HA := Lib.hid ha
  clear hF h hc ha hbx
  go_enter Try.func36, Try.ntmps36
  go_wp2_with fail
  refine HF.out.mono ?_
  rintro e w1 ⟨rfl, hb⟩
  have c1 := (boxed_below HB1.out hb (by omega)).cell
  have c2 := (boxed_below HB2.out hb (by omega)).cell
  have hbw : Below w.heap.size w w1 := HBX.out.trans (hb.mono (by omega))
  have HBW := Lib.hid hbw
  have hext : Calls Try.prog 82 #[.pointer (some ⟨b, 0, none⟩), .slice (some a) 0 c] w1 (Added b vv (l ++ unpack []) w1) :=
    extend_some b vv l w1 (H.out.below hbw) HA.out a c [] (by simp) (fun j u hu => by simp [u8s] at hu) (by simpa using hl)
  have HE := Lib.hid hext
  clear hb hbw hext
  go_wp2_with fail
  refine HE.out.mono ?_
  rintro e w2 ⟨rfl, v2, hW2, hst2⟩
  have HW2 := Lib.hid hW2
  have HST := Lib.hid hst2
  clear hW2 hst2
  go_wp2
  go_ret
  exact ⟨rfl, v2, HW2.out, (WStep.below HBW.out).trans HST.out⟩

/-- Bytes, with the bytes of a call. -/
theorem bytes_okE (b : Nat) (vv : Value) (l : List Bool) (s : Value) (B : List Nat) (w : World) (h : WAt w b vv l) (hs : SrcE w s B) (hl : l.length ≤ 8388608) (hB : ∀ x ∈ B, x < 256) (ha : l.length % 8 = 0) (hroom : l.length + 8 * B.length ≤ 8388608) :
    Calls Try.prog 36 #[.pointer (some ⟨b, 0, none⟩), s] w (Wrote b vv (l ++ unpack B) 0 w) := by
  rcases hs with hs | ⟨rfl, a, c, rfl⟩
  · exact bytes_ok b vv l s B w h hs hl hB ha hroom
  · exact bytes_empty b vv l a c w h hl ha

/-- One call as it lies in memory. -/
structure ActD where
  kd : Nat
  V : Int
  N : Int
  A : Option Addr
  c : Nat
  B : List Nat

def ActD.lies (d : ActD) (w : World) (g o : Nat) : Prop :=
  g < w.heap.size ∧ w.cell? ⟨g, o, none⟩ = some (.int .u8 d.kd) ∧ w.cell? ⟨g, o + 1, none⟩ = some (.int .i64 d.V) ∧ w.cell? ⟨g, o + 2, none⟩ = some (.int .i64 d.N) ∧ w.cell? ⟨g, o + 3, none⟩ = some (.slice d.A d.B.length d.c) ∧
    SrcE w (.slice d.A d.B.length d.c) d.B ∧ (∀ x ∈ d.B, x < 256) ∧ d.kd ≤ 255 ∧ d.B.length ≤ 9223372036854775807

theorem ActD.lies.later {d : ActD} {w w' : World} {g o : Nat} (h : d.lies w g o) (hb : Below w.heap.size w w') : d.lies w' g o := by
  obtain ⟨h0, h1, h2, h3, h4, h5, h6, h7, h8⟩ := h
  exact ⟨Nat.lt_of_lt_of_le h0 hb.size, (hb.cell (p := ⟨g, o, none⟩) h0).trans h1, (hb.cell (p := ⟨g, o + 1, none⟩) h0).trans h2, (hb.cell (p := ⟨g, o + 2, none⟩) h0).trans h3,
    (hb.cell (p := ⟨g, o + 3, none⟩) h0).trans h4, h5.later hb, h6, h7, h8⟩

/-- A slice of calls: nil, or its elements, four cells each. -/
def ActsAt (w : World) (s : Value) (L : List ActD) : Prop :=
  (s = .slice none 0 0 ∧ L = []) ∨ ∃ g o c, s = .slice (some ⟨g, o, none⟩) L.length c ∧ ∀ (i : Nat) (d : ActD), L[i]? = some d → d.lies w g (o + i * 4)

theorem ActsAt.later {w w' : World} {s : Value} {L : List ActD} (h : ActsAt w s L) (hb : Below w.heap.size w w') : ActsAt w' s L := by
  rcases h with h | ⟨g, o, c, rfl, hc⟩
  · exact .inl h
  · exact .inr ⟨g, o, c, rfl, fun i d hi => (hc i d hi).later hb⟩

/-- What fits asks. -/
def smallB (L : List ActD) : Bool := L.all (fun d => decide (d.B.length ≤ 50)) && decide (L.length ≤ 60)

set_option maxRecDepth 100000 in
set_option maxHeartbeats 800000 in
theorem fits_nil (w : World) : Calls Try.prog 9 #[.slice none 0 0] w fun e w' => e = .returned (.bool (smallB [])) ∧ w = w' := by
  go_enter Try.func9, Try.ntmps9
  go_wp2
  go_loopw [3] (fun i wr => i = .int .i64 0 ∧ wr = w) (fun _ _ => 0)
  case atStart => exact ⟨rfl, rfl⟩
  case round =>
    obtain ⟨rfl, rfl⟩ := hrel
    go_wp2
    go_ret
    exact ⟨rfl, rfl⟩

set_option maxRecDepth 100000 in
set_option maxHeartbeats 800000 in
theorem fits_some (g o : Nat) (c : Nat) (L : List ActD) (w : World) (h : ∀ (i : Nat) (d : ActD), L[i]? = some d → d.lies w g (o + i * 4)) (hl : L.length ≤ 9223372036854775807) :
    Calls Try.prog 9 #[.slice (some ⟨g, o, none⟩) L.length c] w fun e w' => e = .returned (.bool (smallB L)) ∧ w = w' := by
  have H := Lib.hid h
  clear h
  go_enter Try.func9, Try.ntmps9
  go_wp2
  go_loopw [3] (fun i wr => ∃ k : Nat, k ≤ L.length ∧ i = .int .i64 k ∧ wr = w ∧ (∀ (j : Nat) (d : ActD), j < k → L[j]? = some d → d.B.length ≤ 50)) (fun i _ => L.length - (intOf i).toNat)
  case atStart => exact ⟨0, Nat.zero_le _, rfl, rfl, fun j d hj => absurd hj (Nat.not_lt_zero _)⟩
  case round =>
    obtain ⟨k, hk, rfl, rfl, hall⟩ := hrel
    have HA := Lib.hid hall
    clear hall
    by_cases hlt : k < L.length
    · obtain ⟨d, hd⟩ : ∃ d, L[k]? = some d := ⟨_, List.getElem?_eq_getElem hlt⟩
      obtain ⟨_, _, _, _, c3, _, _, _, hbl⟩ := H.out k d hd
      have HD := Lib.hid hd
      clear hd
      by_cases h50 : d.B.length ≤ 50
      · have h50i : (d.B.length : Int) ≤ 50 := by omega
        go_wp2
        go_roundw
        case rel =>
          refine ⟨k + 1, by omega, by go_num, trivial, fun j e hj he => ?_⟩
          by_cases hjk : j < k
          · exact HA.out j e hjk he
          · obtain rfl : j = k := by omega
            rw [HD.out] at he
            cases he
            exact h50
        case measure => simp [intOf]; omega
      · have h50i : (50 : Int) < d.B.length := by omega
        have hs : smallB L = false := by
          unfold smallB
          rw [Bool.and_eq_false_iff]
          left
          rw [List.all_eq_false]
          exact ⟨d, List.mem_of_getElem? HD.out, by simpa using h50⟩
        have HS := Lib.hid hs
        clear hs
        go_wp2
        go_ret
        rw [HS.out]
        exact ⟨rfl, rfl⟩
    · obtain rfl : k = L.length := by omega
      have hs : smallB L = decide ((L.length : Int) ≤ 60) := by
        unfold smallB
        have h1 : L.all (fun d => decide (d.B.length ≤ 50)) = true := by
          rw [List.all_eq_true]
          intro d hd
          obtain ⟨j, hj, rfl⟩ := List.getElem_of_mem hd
          simpa using HA.out j _ hj (List.getElem?_eq_getElem hj)
        rw [h1, Bool.true_and]
        exact decide_eq_decide.2 (by omega)
      have HS := Lib.hid hs
      clear hs
      go_wp2
      go_ret
      rw [HS.out]
      exact ⟨rfl, rfl⟩

/-- fits on any slice of calls. -/
theorem acts_fit (s : Value) (L : List ActD) (w : World) (h : ActsAt w s L) (hl : L.length ≤ 9223372036854775807) :
    Calls Try.prog 9 #[s] w fun e w' => e = .returned (.bool (smallB L)) ∧ w = w' := by
  rcases h with ⟨rfl, rfl⟩ | ⟨g, o, c, rfl, hc⟩
  · exact fits_nil w
  · exact fits_some g o c L w hc hl
end Go.Proofs.Ytboiiohpkoodpaa
