/- A definition is copied. Conditions: its messages lie in memory, few enough. -/
import Derived.Test.YtbpkppmbbpoohaaCc
namespace Go.Proofs.Ytbpkppmbbpoohaa
open Go.RowKit Go.Shelf

/-- Messages and their copies. -/
structure CopD (lo : Nat) (W : World) (D : List MsgD) (A' : Option Addr) (D' : List MsgD) : Prop where
  len : D'.length = D.length
  row : W.ownsRow lo 50 2 (.slice A' D.length D.length) D.length (D'.flatMap MsgD.cells)
  cop : ∀ (j : Nat) (m m' : MsgD), D[j]? = some m → D'[j]? = some m' → CopM lo W m m'
theorem CopD.rest {lo : Nat} {S : Nat → Prop} {W W' : World} {D D' : List MsgD} {A' : Option Addr} (h : CopD lo W D A' D') (hr : Rest S W W') (hs : ∀ k, lo ≤ k → k < W.heap.size → ¬ S k) : CopD lo W' D A' D' :=
  ⟨h.len, hr.row h.row (fun k hk => hs k (own_ge h.row k hk).1 (own_ge h.row k hk).2), fun j d d' a b => (h.cop j d d' a b).rest hr hs⟩
theorem CopD.below {lo : Nat} {W W' : World} {D D' : List MsgD} {A' : Option Addr} (h : CopD lo W D A' D') (hb : Below W.heap.size W W') : CopD lo W' D A' D' := ⟨h.len, own_below h.row hb, fun j d d' a b => (h.cop j d d' a b).below hb⟩
theorem CopD.mono {lo lo' : Nat} {W : World} {D D' : List MsgD} {A' : Option Addr} (h : CopD lo W D A' D') (hl : lo' ≤ lo) : CopD lo' W D A' D' := ⟨h.len, own_mono h.row hl, fun j d d' a b => (h.cop j d d' a b).mono hl⟩
theorem CopD.ok {lo : Nat} {W : World} {D D' : List MsgD} {A' : Option Addr} (h : CopD lo W D A' D') : MsgsAt (fun k => k < lo) W A' D.length D' := ⟨slAt_own (t := 50) (fun _ => rfl) (by rw [h.len]; exact h.row), fun m' hm' => by
  obtain ⟨j, hj, e⟩ := List.getElem_of_mem hm'
  have hj' : D'[j]? = some m' := by rw [List.getElem?_eq_getElem hj, e]
  exact (h.cop j _ m' (List.getElem?_eq_getElem (by rw [← h.len]; exact hj)) hj').ok⟩

set_option maxRecDepth 100000 in
set_option maxHeartbeats 3200000 in
theorem copyDef (nm st : List UInt8) (A : Option Addr) (c : Nat) (D : List MsgD) (S : Nat → Prop) (w : World) (h : MsgsAt S w A c D) (hn : D.length ≤ 1000000) (hk : ∀ m ∈ D, FewM m) :
    Calls Try.prog 24 #[.agg #[.string (strL nm), .slice A D.length c, .string (strL st)]] w fun e w' => ∃ A' D', e = .returned (.agg #[.string (strL nm), .slice A' D.length D.length, .string (strL st)]) ∧ CopD w.heap.size w' D A' D' ∧ Below w.heap.size w w' := by
  obtain ⟨wa, hwa⟩ : ∃ wa, w.alloc (.cells #[.string (strL nm), .slice A D.length c, .string (strL st)] 44) = wa := ⟨_, rfl⟩
  obtain ⟨w1, hw1⟩ : ∃ w1, wa.alloc (.cells #[.string ⟨#[]⟩, .slice none 0 0, .string ⟨#[]⟩] 44) = w1 := ⟨_, rfl⟩
  have hw : (w.alloc (.cells #[.string (strL nm), .slice A D.length c, .string (strL st)] 44)).alloc (.cells #[.string ⟨#[]⟩, .slice none 0 0, .string ⟨#[]⟩] 44) = w1 := by rw [hwa, hw1]
  have ba : Below w.heap.size w wa := by rw [← hwa]; exact below_alloc _ _
  have b1 : Below wa.heap.size wa w1 := by rw [← hw1]; exact below_alloc _ _
  have sa : wa.heap.size = w.heap.size + 1 := by rw [← hwa]; simp
  have s1 : w1.heap.size = w.heap.size + 2 := by rw [← hw1]; simp; omega
  have hb1 : Below w.heap.size w w1 := ba.trans (b1.mono (by omega))
  have x1 : w1.heap[w.heap.size]? = some (.cells #[.string (strL nm), .slice A D.length c, .string (strL st)] 44 (0, 0)) := (b1.block _ (by omega)).trans (by rw [← hwa]; exact heap_alloc_new w _)
  have x2 : w1.heap[w.heap.size + 1]? = some (.cells #[.string ⟨#[]⟩, .slice none 0 0, .string ⟨#[]⟩] 44 (0, 0)) := by rw [← hw1, ← sa]; exact heap_alloc_new wa _
  have k1 : MsgsAt S w1 A c D := h.rest (Rest.below hb1) (fun _ _ e => e)
  obtain ⟨b, eb⟩ : ∃ b, w.heap.size = b := ⟨_, rfl⟩
  rw [eb] at x1 x2 s1
  have HRP := replacedM A c D S w1 k1 hn hk
  have HW := Lib.hid hw
  have EB := Lib.hid eb
  have HB1 := Lib.hid hb1
  have X1 := Lib.hid x1
  have X2 := Lib.hid x2
  have S1 := Lib.hid s1
  have HRP := Lib.hid HRP
  have q1 : w1.cell? ⟨b, 1, none⟩ = some (.slice A D.length c) := by simp [World.cell?, x1]
  clear h hk hn hwa hw1 hw ba b1 sa s1 hb1 x1 x2 k1 eb
  go_enter Try.func24, Try.ntmps24
  go_upto_region 1 with fail
  rw [HW.out, EB.out]
  go_wp2_with fail
  refine HRP.out.mono ?_
  rintro e w2 ⟨D', rfl, hl2, ho2, hc2, hb2⟩
  obtain ⟨g0, eg0⟩ : ∃ g0, w1.heap.size = g0 := ⟨_, rfl⟩
  rw [eg0] at ho2 hc2 ⊢
  have hcd : CopD g0 w2 D (some ⟨g0, 0, none⟩) D' := ⟨hl2, ho2, fun j d d' a c => (hc2 j d d' a c).mono (by omega)⟩
  have hx2 := (hb2.block b (by have := S1.out; omega)).trans X1.out
  have hy2 := (hb2.block (b + 1) (by have := S1.out; omega)).trans X2.out
  have f1 : w2.frozen? ⟨b, 1, none⟩ = false := by simp [World.frozen?, hx2]
  have c1 : w2.cell? ⟨b, 1, none⟩ = some (.slice A D.length c) := by simp [World.cell?, hx2]
  have hr3 := (Rest.refl (fun k => k = b) w2).setCell (S := fun k => k = b) (p := ⟨b, 1, none⟩) (fun _ => rfl) (.slice (some ⟨g0, 0, none⟩) D.length D.length)
  have hx3 := heap_setCell_same w2 b 1 _ 44 (.slice (some ⟨g0, 0, none⟩) D.length D.length) hx2
  simp only [List.setIfInBounds_toArray, List.set_cons_zero, List.set_cons_succ] at hx3
  have hy3 := (hr3.block (b + 1) (Array.getElem?_eq_some_iff.1 hy2).1 (show ¬ b + 1 = b by omega)).trans hy2
  have hc3 := hcd.rest hr3 (fun k h1 h2 e => by have := S1.out; omega)
  have hbb := (HB1.out.trans (hb2.mono HB1.out.size)).trans (hr3.toBelow w.heap.size (by have := HB1.out.size; have := hb2.size; omega) (fun k hk e => by have := EB.out; omega))
  obtain ⟨w3, hw3⟩ : ∃ w3, w2.setCell ⟨b, 1, none⟩ (.slice (some ⟨g0, 0, none⟩) D.length D.length) = w3 := ⟨_, rfl⟩
  rw [hw3] at hr3 hx3 hy3 hc3 hbb
  have W3 := Lib.hid hw3
  have Y3 := Lib.hid hy3
  have C3 := Lib.hid hc3
  have BB3 := Lib.hid hbb
  have EG := Lib.hid eg0
  have z0 : w3.cell? ⟨b, 0, none⟩ = some (.string (strL nm)) := by simp [World.cell?, hx3]
  have z1 : w3.cell? ⟨b, 1, none⟩ = some (.slice (some ⟨g0, 0, none⟩) D.length D.length) := by simp [World.cell?, hx3]
  have z2 : w3.cell? ⟨b, 2, none⟩ = some (.string (strL st)) := by simp [World.cell?, hx3]
  have v0 : w3.cell? ⟨b + 1, 0, none⟩ = some (.string ⟨#[]⟩) := by simp [World.cell?, hy3]
  have v1 : w3.cell? ⟨b + 1, 1, none⟩ = some (.slice none 0 0) := by simp [World.cell?, hy3]
  have v2 : w3.cell? ⟨b + 1, 2, none⟩ = some (.string ⟨#[]⟩) := by simp [World.cell?, hy3]
  have fr0 : w3.frozen? ⟨b + 1, 0, none⟩ = false := by simp [World.frozen?, hy3]
  have fr1 : w3.frozen? ⟨b + 1, 1, none⟩ = false := by simp [World.frozen?, hy3]
  have fr2 : w3.frozen? ⟨b + 1, 2, none⟩ = false := by simp [World.frozen?, hy3]
  clear q1 ho2 hb2 hx2 hr3 hx3 hy3 hc3 hbb hw3 hl2 hc2 hy2 eg0 hcd
  go_upto_region 2 with fail
  rw [W3.out]
  clear f1 c1
  go_wp2_with fail
  obtain ⟨cur', a1, a2, a3, a4, a5⟩ := setsAt_spec (b + 1) 44 [.string (strL nm), .slice (some ⟨g0, 0, none⟩) D.length D.length, .string (strL st)] w3 0 _ Y3.out
  have p0' := a4 0 _ rfl (by simp)
  have p1' := a4 1 _ rfl (by simp)
  have p2' := a4 2 _ rfl (by simp)
  obtain ⟨w4, hw4⟩ : ∃ w4, ((w3.setCell ⟨b + 1, 0, none⟩ (.string (strL nm))).setCell ⟨b + 1, 1, none⟩ (.slice (some ⟨g0, 0, none⟩) D.length D.length)).setCell ⟨b + 1, 2, none⟩ (.string (strL st)) = w4 := ⟨_, rfl⟩
  have he : setsAt w3 (b + 1) 0 [.string (strL nm), .slice (some ⟨g0, 0, none⟩) D.length D.length, .string (strL st)] = w4 := hw4
  rw [he] at a1 a5
  rw [hw4]
  have p0 : w4.cell? ⟨b + 1, 0, none⟩ = some (.string (strL nm)) := by simpa [World.cell?, a1] using p0'
  have p1 : w4.cell? ⟨b + 1, 1, none⟩ = some (.slice (some ⟨g0, 0, none⟩) D.length D.length) := by simpa [World.cell?, a1] using p1'
  have p2 : w4.cell? ⟨b + 1, 2, none⟩ = some (.string (strL st)) := by simpa [World.cell?, a1] using p2'
  have B5 := Lib.hid (BB3.out.trans (a5.toBelow w.heap.size (by have := BB3.out.size; have := EB.out; have := (Array.getElem?_eq_some_iff.1 Y3.out).1; omega) (fun k hk e => by have := EB.out; omega)))
  have C5 := Lib.hid ((C3.out.rest a5 (fun k h1 h2 e => by have := S1.out; have := EG.out; omega)).mono (show w.heap.size ≤ g0 by have := S1.out; have := EG.out; have := EB.out; omega))
  clear a1 a2 a3 a4 a5 p0' p1' p2' hw4 he
  refine bodyPost_ret (by simp [results, Try.results24, go_sem, p0, p1, p2]; try rfl) rfl ?_
  exact ⟨some ⟨g0, 0, none⟩, D', rfl, C5.out, B5.out⟩
end Go.Proofs.Ytbpkppmbbpoohaa
