/- Messages and definitions are compared as package schema compares them. Conditions: they lie in memory. -/
import Derived.Test.YtbpkppmbbpoohaaEe
import Derived.Test.YtbpkppmbbpoohaaEf
namespace Go.Proofs.Ytbpkppmbbpoohaa
open Go.RowKit Go.Shelf

theorem Try.entEqF : ∀ args w, (callFunc 72 args).run Try.prog w = .ok (.enter 72 args) w := enters_of Try.func72 (by kernel_rfl) rfl
theorem Try.entEqM : ∀ args w, (callFunc 58 args).run Try.prog w = .ok (.enter 58 args) w := enters_of Try.func58 (by kernel_rfl) rfl
def sameR (d e : FieldD) : Bool := decide (sameP d e)
def sameM (m n : MsgD) : Bool := decide (m.name = n.name) && eqL sameR m.fields n.fields

set_option maxRecDepth 100000 in
set_option maxHeartbeats 3200000 in
theorem equalMessages_any (m n : MsgD) (S : Nat → Prop) (w : World) (hm : MsgOk S w m) (hn : MsgOk S w n) :
    Calls Try.prog 58 #[m.agg, n.agg] w fun x w' => x = .returned (.bool (sameM m n)) ∧ Below w.heap.size w w' := by
  obtain ⟨na, fa, fc, D⟩ := m
  obtain ⟨na2, fa2, fc2, D2⟩ := n
  show Calls Try.prog 58 #[.agg #[.string (strL na), .slice fa D.length fc], .agg #[.string (strL na2), .slice fa2 D2.length fc2]] w fun x w' => x = .returned (.bool (decide (na = na2) && eqL sameR D D2)) ∧ Below w.heap.size w w'
  obtain ⟨wa, hwa⟩ : ∃ wa, w.alloc (.cells #[.string (strL na), .slice fa D.length fc] 50) = wa := ⟨_, rfl⟩
  obtain ⟨w1, hw1⟩ : ∃ w1, wa.alloc (.cells #[.string (strL na2), .slice fa2 D2.length fc2] 50) = w1 := ⟨_, rfl⟩
  have hw : (w.alloc (.cells #[.string (strL na), .slice fa D.length fc] 50)).alloc (.cells #[.string (strL na2), .slice fa2 D2.length fc2] 50) = w1 := by rw [hwa, hw1]
  have ba : Below w.heap.size w wa := by rw [← hwa]; exact below_alloc _ _
  have b1 : Below wa.heap.size wa w1 := by rw [← hw1]; exact below_alloc _ _
  have sa : wa.heap.size = w.heap.size + 1 := by rw [← hwa]; simp
  have hb1 : Below w.heap.size w w1 := ba.trans (b1.mono (by omega))
  have x1 : w1.heap[w.heap.size]? = some (.cells #[.string (strL na), .slice fa D.length fc] 50 (0, 0)) := (b1.block _ (by omega)).trans (by rw [← hwa]; exact heap_alloc_new w _)
  have y1 : w1.heap[w.heap.size + 1]? = some (.cells #[.string (strL na2), .slice fa2 D2.length fc2] 50 (0, 0)) := by rw [← hw1, ← sa]; exact heap_alloc_new wa _
  obtain ⟨b, eb⟩ : ∃ b, w.heap.size = b := ⟨_, rfl⟩
  rw [eb] at x1 y1
  have HW := Lib.hid hw
  have EB := Lib.hid eb
  have HB1 := Lib.hid hb1
  have p0 : w1.cell? ⟨b, 0, none⟩ = some (.string (strL na)) := by simp [World.cell?, x1]
  have p1 : w1.cell? ⟨b, 1, none⟩ = some (.slice fa D.length fc) := by simp [World.cell?, x1]
  have q0 : w1.cell? ⟨b + 1, 0, none⟩ = some (.string (strL na2)) := by simp [World.cell?, y1]
  have q1 : w1.cell? ⟨b + 1, 1, none⟩ = some (.slice fa2 D2.length fc2) := by simp [World.cell?, y1]
  have k1 : FieldsAt S w1 fa fc D := FieldsAt.rest hm (Rest.below (S := fun _ => False) hb1) (fun _ _ e => e.elim)
  have k2 : FieldsAt S w1 fa2 fc2 D2 := FieldsAt.rest hn (Rest.below (S := fun _ => False) hb1) (fun _ _ e => e.elim)
  have HE := Lib.hid (eqFields 72 Try.entEqF sameR fa fa2 fc fc2 D D2 S w1 k1.1 k2.1 (fun d e hd he wx hb => equalFields_any d e S wx ((k1.2 d hd).rest (Rest.below (S := fun _ => False) hb) (fun _ _ e => e.elim)) ((k2.2 e he).rest (Rest.below (S := fun _ => False) hb) (fun _ _ e => e.elim))))
  obtain ⟨rv, hrv⟩ : ∃ r, eqL sameR D D2 = r := ⟨_, rfl⟩
  rw [hrv] at HE ⊢
  clear hm hn hwa hw1 hw ba b1 sa hb1 x1 y1 eb k1 k2 hrv
  go_enter Try.func58, Try.ntmps58
  go_upto_region 1 with fail
  rw [HW.out, EB.out]
  by_cases h : na = na2
  · have HX := Lib.hid h
    subst h
    go_wp2_with fail
    refine HE.out.mono ?_
    rintro x w2 ⟨rfl, hb2⟩
    have HB2 := Lib.hid (HB1.out.trans (hb2.mono HB1.out.size))
    clear hb2
    go_wp2_with fail
    go_ret
    exact ⟨by simp; try rfl, HB2.out⟩
  · have hs := text_ne h
    have HX := Lib.hid h
    clear h
    go_wp2_with fail
    go_ret
    exact ⟨by simp [HX.out]; try rfl, HB1.out⟩

/-- Two definitions that are equal but for the places of their lists. -/
def sameD (na st na2 st2 : List UInt8) (D D2 : List MsgD) : Bool := decide (na = na2) && (decide (st = st2) && eqL sameM D D2)

set_option maxRecDepth 100000 in
set_option maxHeartbeats 3200000 in
theorem equal_any (na st na2 st2 : List UInt8) (A A2 : Option Addr) (c c2 : Nat) (D D2 : List MsgD) (S : Nat → Prop) (w : World) (hm : MsgsAt S w A c D) (hn : MsgsAt S w A2 c2 D2) :
    Calls Try.prog 33 #[.agg #[.string (strL na), .slice A D.length c, .string (strL st)], .agg #[.string (strL na2), .slice A2 D2.length c2, .string (strL st2)]] w fun x w' => x = .returned (.bool (sameD na st na2 st2 D D2)) ∧ Below w.heap.size w w' := by
  obtain ⟨wa, hwa⟩ : ∃ wa, w.alloc (.cells #[.string (strL na), .slice A D.length c, .string (strL st)] 44) = wa := ⟨_, rfl⟩
  obtain ⟨w1, hw1⟩ : ∃ w1, wa.alloc (.cells #[.string (strL na2), .slice A2 D2.length c2, .string (strL st2)] 44) = w1 := ⟨_, rfl⟩
  have hw : (w.alloc (.cells #[.string (strL na), .slice A D.length c, .string (strL st)] 44)).alloc (.cells #[.string (strL na2), .slice A2 D2.length c2, .string (strL st2)] 44) = w1 := by rw [hwa, hw1]
  have ba : Below w.heap.size w wa := by rw [← hwa]; exact below_alloc _ _
  have b1 : Below wa.heap.size wa w1 := by rw [← hw1]; exact below_alloc _ _
  have sa : wa.heap.size = w.heap.size + 1 := by rw [← hwa]; simp
  have hb1 : Below w.heap.size w w1 := ba.trans (b1.mono (by omega))
  have x1 : w1.heap[w.heap.size]? = some (.cells #[.string (strL na), .slice A D.length c, .string (strL st)] 44 (0, 0)) := (b1.block _ (by omega)).trans (by rw [← hwa]; exact heap_alloc_new w _)
  have y1 : w1.heap[w.heap.size + 1]? = some (.cells #[.string (strL na2), .slice A2 D2.length c2, .string (strL st2)] 44 (0, 0)) := by rw [← hw1, ← sa]; exact heap_alloc_new wa _
  obtain ⟨b, eb⟩ : ∃ b, w.heap.size = b := ⟨_, rfl⟩
  rw [eb] at x1 y1
  have HW := Lib.hid hw
  have EB := Lib.hid eb
  have HB1 := Lib.hid hb1
  have p0 : w1.cell? ⟨b, 0, none⟩ = some (.string (strL na)) := by simp [World.cell?, x1]
  have p1 : w1.cell? ⟨b, 1, none⟩ = some (.slice A D.length c) := by simp [World.cell?, x1]
  have p2 : w1.cell? ⟨b, 2, none⟩ = some (.string (strL st)) := by simp [World.cell?, x1]
  have q0 : w1.cell? ⟨b + 1, 0, none⟩ = some (.string (strL na2)) := by simp [World.cell?, y1]
  have q1 : w1.cell? ⟨b + 1, 1, none⟩ = some (.slice A2 D2.length c2) := by simp [World.cell?, y1]
  have q2 : w1.cell? ⟨b + 1, 2, none⟩ = some (.string (strL st2)) := by simp [World.cell?, y1]
  have k1 : MsgsAt S w1 A c D := MsgsAt.rest hm (Rest.below (S := fun _ => False) hb1) (fun _ _ e => e.elim)
  have k2 : MsgsAt S w1 A2 c2 D2 := MsgsAt.rest hn (Rest.below (S := fun _ => False) hb1) (fun _ _ e => e.elim)
  have HE := Lib.hid (eqMsgs 58 Try.entEqM sameM A A2 c c2 D D2 S w1 k1.1 k2.1 (fun d e hd he wx hb => equalMessages_any d e S wx (FieldsAt.rest (k1.2 d hd) (Rest.below (S := fun _ => False) hb) (fun _ _ e => e.elim)) (FieldsAt.rest (k2.2 e he) (Rest.below (S := fun _ => False) hb) (fun _ _ e => e.elim))))
  unfold sameD
  obtain ⟨rv, hrv⟩ : ∃ r, eqL sameM D D2 = r := ⟨_, rfl⟩
  rw [hrv] at HE ⊢
  clear hm hn hwa hw1 hw ba b1 sa hb1 x1 y1 eb k1 k2 hrv
  go_enter Try.func33, Try.ntmps33
  go_upto_region 1 with fail
  rw [HW.out, EB.out]
  by_cases h : na = na2
  · subst h
    by_cases h2 : st = st2
    · subst h2
      go_wp2_with fail
      refine HE.out.mono ?_
      rintro x w2 ⟨rfl, hb2⟩
      have HB2 := Lib.hid (HB1.out.trans (hb2.mono HB1.out.size))
      clear hb2
      go_wp2_with fail
      go_ret
      exact ⟨by simp; try rfl, HB2.out⟩
    · have hs := text_ne h2
      have HX := Lib.hid h2
      clear h2
      go_wp2_with fail
      go_ret
      exact ⟨by simp [HX.out]; try rfl, HB1.out⟩
  · have hs := text_ne h
    have HX := Lib.hid h
    clear h
    go_wp2_with fail
    go_ret
    exact ⟨by simp [HX.out]; try rfl, HB1.out⟩
end Go.Proofs.Ytbpkppmbbpoohaa
