/- examine: a valid size whose fields all have allowed ranges has no fault. Conditions: the terms and the ranges lie in memory. -/
import Derived.Test.YtbpkppmbbpoohaaRf
import Derived.Test.YtbpkppmbbpoohaaGe
namespace Go.Proofs.Ytbpkppmbbpoohaa
open Go.RowKit Go.Shelf
attribute [local go_sem] Oper.semAt_some

abbrev PEnts := List (List UInt8 × (Int × Int))
def pE (E : PEnts) : Ents := E.map fun p => (p.1, ranV p.2)
def getP : PEnts → List UInt8 → Option (Int × Int)
  | [], _ => none
  | p :: E, k => if p.1 = k then some p.2 else getP E k
def setP : PEnts → List UInt8 → Int × Int → PEnts
  | [], k, v => [(k, v)]
  | p :: E, k, v => if p.1 = k then (k, v) :: E else p :: setP E k v
theorem getE_p (E : PEnts) (k : List UInt8) : getE (pE E) k = (getP E k).map ranV := by
  induction E with
  | nil => rfl
  | cons p E ih =>
    simp only [pE, List.map_cons, getE, getP]
    split
    · rfl
    · exact ih
theorem setE_p (E : PEnts) (k : List UInt8) (v : Int × Int) : setE (pE E) k (ranV v) = pE (setP E k v) := by
  induction E with
  | nil => rfl
  | cons p E ih =>
    simp only [pE, List.map_cons, setE, setP]
    split
    · simp
    · simp only [List.map_cons, List.cons.injEq, true_and]
      exact ih
def ransP (D : List FieldD) : PEnts := D.foldl (fun E d => if numB d then setP E d.name (ranP d) else E) []
theorem ransP_snoc (D : List FieldD) (d : FieldD) : ransP (D ++ [d]) = if numB d then setP (ransP D) d.name (ranP d) else ransP D := by simp [ransP, List.foldl_append]
theorem ransE_p (D : List FieldD) : ransE D = pE (ransP D) := by
  suffices h : ∀ n, ransE (D.take n) = pE (ransP (D.take n)) by
    have := h D.length
    rwa [List.take_length] at this
  intro n
  induction n with
  | zero => rfl
  | succ n ih =>
    cases hd : D[n]? with
    | none =>
      have hl : D.length ≤ n := by rwa [List.getElem?_eq_none_iff] at hd
      rw [List.take_of_length_le (by omega)]
      rwa [List.take_of_length_le hl] at ih
    | some d =>
      rw [(drop_of hd).2, ransE_snoc, ransP_snoc]
      unfold ranStep
      split
      · rw [ih, setE_p]
      · exact ih

def allowP (p : Int × Int) : Bool := decide (0 ≤ p.1) && (decide (p.1 ≤ p.2) && decide (p.2 < 34359738368))

set_option maxRecDepth 100000 in
set_option maxHeartbeats 1600000 in
theorem allow_any (p : Int × Int) (w : World) : Calls Try.prog 122 #[.agg #[.int .i64 p.1, .int .i64 p.2]] w fun e w' => e = .returned (.bool (allowP p)) ∧ Below w.heap.size w w' := by
  have hal := below_alloc w (.cells #[.int .i64 p.1, .int .i64 p.2] 31)
  have hbx := PBox.new w p.1 p.2
  obtain ⟨b, eb⟩ : ∃ b, w.heap.size = b := ⟨_, rfl⟩
  obtain ⟨w1, hw1⟩ : ∃ w1, w.alloc (.cells #[.int .i64 p.1, .int .i64 p.2] 31) = w1 := ⟨_, rfl⟩
  rw [hw1] at hal hbx
  rw [eb] at hbx
  have y0 := hbx.c0
  have y1 := hbx.c1
  have HW := Lib.hid hw1
  have EB := Lib.hid eb
  have HAL := Lib.hid hal
  obtain ⟨R, hR⟩ : ∃ R, allowP p = R := ⟨_, rfl⟩
  rw [hR]
  obtain ⟨s0, e0⟩ : ∃ s, decide (0 ≤ p.1) = s := ⟨_, rfl⟩
  obtain ⟨s1, e1⟩ : ∃ s, decide (p.1 ≤ p.2) = s := ⟨_, rfl⟩
  obtain ⟨s2, e2⟩ : ∃ s, decide (p.2 < 34359738368) = s := ⟨_, rfl⟩
  have hr : (s0 && (s1 && s2)) = R := by rw [← hR]; unfold allowP; rw [e0, e1, e2]
  have HALL : ∀ wx g, wx.heap[g]? = some (.cells #[.bool s0, .bool s1, .bool s2] 4 (0, 0)) → Hid (Calls Try.prog 118 #[.slice (some ⟨g, 0, none⟩) 3 3] wx fun e w' => e = .returned (.bool R) ∧ w' = wx) := fun wx g h => Lib.hid (by
    have := all3 wx g s0 s1 s2 _ h
    rwa [hr] at this)
  clear hw1 eb hal hbx hr hR
  go_enter Try.func122, Try.ntmps122
  go_upto_region 1 with fail
  rw [HW.out, EB.out]
  go_wp2_with fail
  refine ((HALL _ _ (by exact heap_alloc_new w1 _)).out).mono ?_
  rintro e w2 ⟨rfl, rfl⟩
  have HB2 := Lib.hid (HAL.out.trans ((below_alloc w1 (.cells #[.bool s0, .bool s1, .bool s2] 4)).mono HAL.out.size))
  go_wp2_with fail
  go_ret
  exact ⟨rfl, HB2.out⟩
theorem Try.entAllow : ∀ args w, (callFunc 122 args).run Try.prog w = .ok (.enter 122 args) w := enters_of Try.func122 (by kernel_rfl) rfl
end Go.Proofs.Ytbpkppmbbpoohaa
