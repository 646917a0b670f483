/- A call on a source in memory, as the statements make it (play), and what it answers. Conditions: the source and the chunk lie in memory; the bounds of the kinds. -/
import Derived.Test.YtociidinfdbaeaaRu
import Derived.Test.YtociidinfdbaeaaPl
namespace Go.Proofs.Ytociidinfdbaeaa
open Go.RowKit Go.Shelf

/-- The document's state of a source: all bytes fed, how many were taken, whether it is closed. -/
structure St where
  F : List Nat
  T : Nat
  C : Bool

def St.B (s : St) : List Nat := s.F.drop s.T

/-- The error of a call by its kind. -/
def St.code (L : Nat) (s : St) (k : Nat) (N : List Nat) (V : Int) (E : Nat) : Int :=
  match k with
  | 0 => feedCode L s.B.length s.C N.length
  | 1 => peekCode L s.B.length s.C V
  | 2 => peekCode L s.B.length s.C V
  | 3 => peekCode L s.B.length s.C V
  | 4 => untilCode L s.B s.C E V
  | 6 => if s.C then 8 else 0
  | _ => 0

/-- The bytes that a call answers. -/
def St.out (L : Nat) (s : St) (k : Nat) (V : Int) (E : Nat) : List Nat :=
  match k with
  | 1 => takeB (peekCode L s.B.length s.C V) V s.B
  | 2 => takeB (peekCode L s.B.length s.C V) V s.B
  | 4 => untilB L s.B s.C E V
  | _ => []

/-- The state after a call. -/
def St.next (L : Nat) (s : St) (k : Nat) (N : List Nat) (V : Int) (E : Nat) : St :=
  match k with
  | 0 => ⟨if feedCode L s.B.length s.C N.length = 0 then s.F ++ N else s.F, s.T, s.C⟩
  | 2 => ⟨s.F, s.T + takeN (peekCode L s.B.length s.C V) V, s.C⟩
  | 3 => ⟨s.F, s.T + takeN (peekCode L s.B.length s.C V) V, s.C⟩
  | 4 => ⟨s.F, s.T + untilK L s.B s.C E V, s.C⟩
  | 6 => ⟨s.F, s.T, true⟩
  | _ => s

/-- What play answers: bytes of its own, the error, and the source in its next state. -/
def Played (p : Nat) (v : Value) (L : Nat) (s : St) (k : Nat) (N : List Nat) (V : Int) (E : Nat) (w : World) (e : Ending) (w' : World) : Prop :=
  ∃ b, e = .returned (.tuple #[b, .int .i64 (s.code L k N V E)]) ∧ w'.ownsRow w.heap.size 5 1 b (s.out L k V E).length (u8s (s.out L k V E)) ∧ (b = .slice none 0 0 ∨ ∃ g c, b = .slice (some ⟨g, 0, none⟩) (s.out L k V E).length c) ∧
    ∃ v', SAt w' p v' (s.next L k N V E).B L (s.next L k N V E).T (s.next L k N V E).C ∧ SStep p v v' w w' ∧ ∀ j, b.ownBlock = some j → ¬ Mine p v' j

theorem nil_apart {p : Nat} {v' : Value} : ∀ j, (Value.slice none 0 0).ownBlock = some j → ¬ Mine p v' j := fun j hj => by simp [Value.ownBlock] at hj
theorem row_apart {w w' : World} {p m n : Nat} {v v' b : Value} {B : List Nat} {L T : Nat} {C : Bool} {xs : List Value} (h : SAt w p v B L T C) (hr : w'.ownsRow m 5 1 b n xs) (hm : w.heap.size ≤ m) (hv : ∀ k, v'.ownBlock = some k → v.ownBlock = some k) : ∀ j, b.ownBlock = some j → ¬ Mine p v' j := by
  intro j hj hmn
  have h1 := (hr.lt j hj).1
  rcases hmn with e | e
  · have := h.lt; omega
  · have := h.buf.lt j (hv j e); omega

theorem SStep.after {p : Nat} {v v' : Value} {w w1 w2 : World} (h : Below w.heap.size w w1) (k : SStep p v v' w1 w2) : SStep p v v' w w2 := (SStep.below h).trans k

set_option maxRecDepth 100000 in
set_option maxHeartbeats 1600000 in
theorem play_any (p L : Nat) (v : Value) (s : St) (kd E c : Nat) (V : Int) (X : Option Addr) (N : List Nat) (w : World) (h : SAt w p v s.B L s.T s.C) (hT : s.T ≤ s.F.length) (hF : s.F.length ≤ 1000000) (hX : SrcAt w (.slice X N.length c) N) (hk2 : kd ≤ 255) :
    Calls Try.prog 23 #[.pointer (some ⟨p, 0, none⟩), .agg #[.int .u8 kd, .slice X N.length c, .int .i64 V, .int .u8 E]] w (Played p v L s (kd % 7) N V E w) := by
  have hb0 := (Below.refl w.heap.size w).alloc (Nat.le_refl _) (.cells #[.int .u8 kd, .slice X N.length c, .int .i64 V, .int .u8 E] 53)
  have HK := Lib.hid (kind_any kd E V (.slice X N.length c) (w.alloc (.cells #[.int .u8 kd, .slice X N.length c, .int .i64 V, .int .u8 E] 53)) (by omega) (by omega))
  have HB0 := Lib.hid hb0
  have hx : ∀ j, (w.alloc (.cells #[.int .u8 kd, .slice X N.length c, .int .i64 V, .int .u8 E] 53)).cell? ⟨w.heap.size, j, none⟩ = (#[.int .u8 kd, .slice X N.length c, .int .i64 V, .int .u8 E] : Array Value)[j]? := fun j => World.cell?_alloc_new w _ _ j
  have HX := Lib.hid hx
  have HH := Lib.hid h
  have HN := Lib.hid hX
  clear hb0 hx h hX
  obtain ⟨k, hkk⟩ : ∃ k, kd % 7 = k := ⟨_, rfl⟩
  have hk7 : k = 0 ∨ k = 1 ∨ k = 2 ∨ k = 3 ∨ k = 4 ∨ k = 5 ∨ k = 6 := by omega
  have hkz : ((kd : Nat) : Int) % 7 = (k : Nat) := by omega
  rw [hkz] at HK
  rw [hkk]
  clear hkk hkz
  rcases hk7 with rfl | rfl | rfl | rfl | rfl | rfl | rfl
  · go_enter Try.func23, Try.ntmps23
    go_wp2_with fail
    refine HK.out.mono ?_
    rintro e w1 ⟨rfl, hb1⟩
    have q1 := (hb1.cell (p := ⟨w.heap.size, 1, none⟩) (by simp)).trans (HX.out 1)
    have q2 := (hb1.cell (p := ⟨w.heap.size, 2, none⟩) (by simp)).trans (HX.out 2)
    have q3 := (hb1.cell (p := ⟨w.heap.size, 3, none⟩) (by simp)).trans (HX.out 3)
    simp at q1 q2 q3
    have hb := HB0.out.trans (hb1.mono (by simp))
    have HB := Lib.hid hb
    have H1 := Lib.hid (HH.out.below hb)
    have N1 := Lib.hid (HN.out.below hb HN.out.lt)
    clear hb1 hb
    go_wp2_with fail
    refine (feed_any p v (.slice X N.length c) s.B N L s.T s.C _ H1.out N1.out).mono ?_
    rintro e w2 ⟨rfl, v', hs, hk⟩
    have HS := Lib.hid hs
    have HKK := Lib.hid hk
    clear hs hk
    go_wp2
    go_ret2
    refine ⟨_, rfl, World.ownsRow_nil _ _ _ _, .inl rfl, v', ?_, HKK.out.after HB.out, nil_apart⟩
    have e1 : (s.next L 0 N V E).B = (if feedCode L s.B.length s.C N.length = 0 then s.B ++ N else s.B) := by
      show (if feedCode L s.B.length s.C N.length = 0 then s.F ++ N else s.F).drop s.T = _
      split
      · rw [List.drop_append_of_le_length hT]; rfl
      · rfl
    rw [e1]
    exact HS.out
  · go_enter Try.func23, Try.ntmps23
    go_wp2_with fail
    refine HK.out.mono ?_
    rintro e w1 ⟨rfl, hb1⟩
    have q1 := (hb1.cell (p := ⟨w.heap.size, 1, none⟩) (by simp)).trans (HX.out 1)
    have q2 := (hb1.cell (p := ⟨w.heap.size, 2, none⟩) (by simp)).trans (HX.out 2)
    have q3 := (hb1.cell (p := ⟨w.heap.size, 3, none⟩) (by simp)).trans (HX.out 3)
    simp at q1 q2 q3
    have hb := HB0.out.trans (hb1.mono (by simp))
    have HB := Lib.hid hb
    have H1 := Lib.hid (HH.out.below hb)
    have N1 := Lib.hid (HN.out.below hb HN.out.lt)
    clear hb1 hb
    go_wp2_with fail
    refine (peek_any p v s.B L s.T V s.C _ H1.out).mono ?_
    rintro e w2 ⟨b, rfl, hf⟩
    have HFR := Lib.hid hf
    clear hf
    go_wp2
    go_ret2
    exact ⟨b, rfl, Joins.ownsRow_le HFR.out.1 HB.out.size, HFR.out.2.2, v, (H1.out.below HFR.out.2.1), SStep.below (HB.out.trans (HFR.out.2.1.mono HB.out.size)), row_apart H1.out HFR.out.1 (Nat.le_refl _) (fun _ e => e)⟩
  · go_enter Try.func23, Try.ntmps23
    go_wp2_with fail
    refine HK.out.mono ?_
    rintro e w1 ⟨rfl, hb1⟩
    have q1 := (hb1.cell (p := ⟨w.heap.size, 1, none⟩) (by simp)).trans (HX.out 1)
    have q2 := (hb1.cell (p := ⟨w.heap.size, 2, none⟩) (by simp)).trans (HX.out 2)
    have q3 := (hb1.cell (p := ⟨w.heap.size, 3, none⟩) (by simp)).trans (HX.out 3)
    simp at q1 q2 q3
    have hb := HB0.out.trans (hb1.mono (by simp))
    have HB := Lib.hid hb
    have H1 := Lib.hid (HH.out.below hb)
    have N1 := Lib.hid (HN.out.below hb HN.out.lt)
    clear hb1 hb
    go_wp2_with fail
    refine (take_any p v s.B L s.T V s.C _ H1.out (by omega)).mono ?_
    rintro e w2 ⟨b, rfl, hr, hf, v', hs, hk⟩
    have HR := Lib.hid hr
    have HFF := Lib.hid hf
    have HS := Lib.hid hs
    have HKK := Lib.hid hk
    clear hr hf hs hk
    go_wp2
    go_ret2
    refine ⟨b, rfl, Joins.ownsRow_le HR.out HB.out.size, HFF.out, v', ?_, HKK.out.step.after HB.out, row_apart H1.out HR.out (Nat.le_refl _) HKK.out.own⟩
    have e1 : (s.next L 2 N V E).B = s.B.drop (takeN (peekCode L s.B.length s.C V) V) := by
      show s.F.drop (s.T + _) = (s.F.drop s.T).drop _
      rw [List.drop_drop]
    rw [e1]
    exact HS.out
  · go_enter Try.func23, Try.ntmps23
    go_wp2_with fail
    refine HK.out.mono ?_
    rintro e w1 ⟨rfl, hb1⟩
    have q1 := (hb1.cell (p := ⟨w.heap.size, 1, none⟩) (by simp)).trans (HX.out 1)
    have q2 := (hb1.cell (p := ⟨w.heap.size, 2, none⟩) (by simp)).trans (HX.out 2)
    have q3 := (hb1.cell (p := ⟨w.heap.size, 3, none⟩) (by simp)).trans (HX.out 3)
    simp at q1 q2 q3
    have hb := HB0.out.trans (hb1.mono (by simp))
    have HB := Lib.hid hb
    have H1 := Lib.hid (HH.out.below hb)
    have N1 := Lib.hid (HN.out.below hb HN.out.lt)
    clear hb1 hb
    go_wp2_with fail
    refine (skip_any p v s.B L s.T V s.C _ H1.out (by omega)).mono ?_
    rintro e w2 ⟨rfl, v', hs, hk⟩
    have HS := Lib.hid hs
    have HKK := Lib.hid hk
    clear hs hk
    go_wp2
    go_ret2
    refine ⟨_, rfl, World.ownsRow_nil _ _ _ _, .inl rfl, v', ?_, HKK.out.step.after HB.out, nil_apart⟩
    have e1 : (s.next L 3 N V E).B = s.B.drop (takeN (peekCode L s.B.length s.C V) V) := by
      show s.F.drop (s.T + _) = (s.F.drop s.T).drop _
      rw [List.drop_drop]
    rw [e1]
    exact HS.out
  · go_enter Try.func23, Try.ntmps23
    go_wp2_with fail
    refine HK.out.mono ?_
    rintro e w1 ⟨rfl, hb1⟩
    have q1 := (hb1.cell (p := ⟨w.heap.size, 1, none⟩) (by simp)).trans (HX.out 1)
    have q2 := (hb1.cell (p := ⟨w.heap.size, 2, none⟩) (by simp)).trans (HX.out 2)
    have q3 := (hb1.cell (p := ⟨w.heap.size, 3, none⟩) (by simp)).trans (HX.out 3)
    simp at q1 q2 q3
    have hb := HB0.out.trans (hb1.mono (by simp))
    have HB := Lib.hid hb
    have H1 := Lib.hid (HH.out.below hb)
    have N1 := Lib.hid (HN.out.below hb HN.out.lt)
    clear hb1 hb
    go_wp2_with fail
    refine (until_any p v s.B L s.T E V s.C _ H1.out (by omega)).mono ?_
    rintro e w2 ⟨b, rfl, hr, hf, v', hs, hk⟩
    have HR := Lib.hid hr
    have HFF := Lib.hid hf
    have HS := Lib.hid hs
    have HKK := Lib.hid hk
    clear hr hf hs hk
    go_wp2
    go_ret2
    refine ⟨b, rfl, Joins.ownsRow_le HR.out HB.out.size, HFF.out, v', ?_, HKK.out.step.after HB.out, row_apart H1.out HR.out (Nat.le_refl _) HKK.out.own⟩
    have e1 : (s.next L 4 N V E).B = s.B.drop (untilK L s.B s.C E V) := by
      show s.F.drop (s.T + _) = (s.F.drop s.T).drop _
      rw [List.drop_drop]
    rw [e1]
    exact HS.out
  · go_enter Try.func23, Try.ntmps23
    go_wp2_with fail
    refine HK.out.mono ?_
    rintro e w1 ⟨rfl, hb1⟩
    have q1 := (hb1.cell (p := ⟨w.heap.size, 1, none⟩) (by simp)).trans (HX.out 1)
    have q2 := (hb1.cell (p := ⟨w.heap.size, 2, none⟩) (by simp)).trans (HX.out 2)
    have q3 := (hb1.cell (p := ⟨w.heap.size, 3, none⟩) (by simp)).trans (HX.out 3)
    simp at q1 q2 q3
    have hb := HB0.out.trans (hb1.mono (by simp))
    have HB := Lib.hid hb
    have H1 := Lib.hid (HH.out.below hb)
    have N1 := Lib.hid (HN.out.below hb HN.out.lt)
    clear hb1 hb
    go_wp2
    go_ret2
    exact ⟨_, rfl, World.ownsRow_nil _ _ _ _, .inl rfl, v, H1.out, SStep.below HB.out, nil_apart⟩
  · go_enter Try.func23, Try.ntmps23
    go_wp2_with fail
    refine HK.out.mono ?_
    rintro e w1 ⟨rfl, hb1⟩
    have q1 := (hb1.cell (p := ⟨w.heap.size, 1, none⟩) (by simp)).trans (HX.out 1)
    have q2 := (hb1.cell (p := ⟨w.heap.size, 2, none⟩) (by simp)).trans (HX.out 2)
    have q3 := (hb1.cell (p := ⟨w.heap.size, 3, none⟩) (by simp)).trans (HX.out 3)
    simp at q1 q2 q3
    have hb := HB0.out.trans (hb1.mono (by simp))
    have HB := Lib.hid hb
    have H1 := Lib.hid (HH.out.below hb)
    have N1 := Lib.hid (HN.out.below hb HN.out.lt)
    clear hb1 hb
    go_wp2_with fail
    refine (close_any p v s.B L s.T s.C _ H1.out).mono ?_
    rintro e w2 ⟨rfl, hs, hk⟩
    have HS := Lib.hid hs
    have HKK := Lib.hid hk
    clear hs hk
    go_wp2
    all_goals
      go_ret2
      refine ⟨.slice none 0 0, ?_, World.ownsRow_nil _ _ _ _, .inl rfl, v, HS.out, HKK.out.step.after HB.out, nil_apart⟩
      simp [St.code, *]
end Go.Proofs.Ytociidinfdbaeaa
