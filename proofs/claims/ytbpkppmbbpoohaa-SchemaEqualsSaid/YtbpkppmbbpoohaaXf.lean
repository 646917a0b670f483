/- Definitions that are equal: the other way round, and a copy; bounds. No conditions beyond those named. -/
import Derived.Test.YtbpkppmbbpoohaaEy
import Derived.Test.YtbpkppmbbpoohaaXc
import Derived.Test.YtbpkppmbbpoohaaFb
namespace Go.Proofs.Ytbpkppmbbpoohaa
open Go.RowKit Go.Shelf

theorem eqL_symm {α : Type} {R : α → α → Bool} (hs : ∀ a b, R a b = R b a) : ∀ D E : List α, eqL R D E = eqL R E D
  | [], [] => rfl
  | [], _ :: _ => rfl
  | _ :: _, [] => rfl
  | a :: D, b :: E => by rw [eqL, eqL, hs a b, eqL_symm hs D E]
theorem sameP_symm {d e : FieldD} (h : sameP d e) : sameP e d := by
  obtain ⟨⟨h0, h1, h2, h3, h4, h5, h6, h7, h8, h9, h10, h11, h12, h13, h14⟩, h15, h16⟩ := h
  exact ⟨⟨h0.symm, h1.symm, h2.symm, h3.symm, h4.symm, h5.symm, h6.symm, h7.symm, h8.symm, h9.symm, h10.symm, h11.symm, h12.symm, h13.symm, h14.symm⟩, h15.symm, h16.symm⟩
theorem sameR_symm (d e : FieldD) : sameR d e = sameR e d := decide_eq_decide.2 ⟨sameP_symm, sameP_symm⟩
theorem sameM_symm (m n : MsgD) : sameM m n = sameM n m := by
  unfold sameM
  rw [eqL_symm sameR_symm, decide_eq_decide.2 (⟨Eq.symm, Eq.symm⟩ : m.name = n.name ↔ n.name = m.name)]
theorem sameD_symm (na st na2 st2 : List UInt8) (D D2 : List MsgD) : sameD na st na2 st2 D D2 = sameD na2 st2 na st D2 D := by
  unfold sameD
  rw [eqL_symm sameM_symm, decide_eq_decide.2 (⟨Eq.symm, Eq.symm⟩ : na = na2 ↔ na2 = na), decide_eq_decide.2 (⟨Eq.symm, Eq.symm⟩ : st = st2 ↔ st2 = st)]
theorem eqL_of {α : Type} {R : α → α → Bool} : ∀ D E : List α, E.length = D.length → (∀ (i : Nat) (a b : α), D[i]? = some a → E[i]? = some b → R a b = true) → eqL R D E = true
  | [], [], _, _ => rfl
  | [], _ :: _, h, _ => by simp at h
  | _ :: _, [], h, _ => by simp at h
  | a :: D, b :: E, h, hk => by
    rw [eqL, hk 0 a b rfl rfl, eqL_of D E (by simpa using h) (fun i x y hx hy => hk (i + 1) x y (by simpa using hx) (by simpa using hy))]
    rfl
theorem copF_same {lo : Nat} {W : World} {d d' : FieldD} (h : CopF lo W d d') : sameR d d' = true := by
  have := h.same
  unfold sameR
  apply decide_eq_true
  rw [this]
  exact ⟨⟨rfl, rfl, rfl, rfl, rfl, rfl, rfl, rfl, rfl, rfl, rfl, rfl, rfl, rfl, rfl⟩, rfl, rfl⟩
theorem copM_same {lo : Nat} {W : World} {m m' : MsgD} (h : CopM lo W m m') : sameM m m' = true := by
  unfold sameM
  rw [h.name, eqL_of _ _ h.len (fun i a b ha hb => copF_same (h.cop i a b ha hb))]
  simp
theorem copD_same {lo : Nat} {W : World} {D D' : List MsgD} {A : Option Addr} (h : CopD lo W D A D') (na st : List UInt8) : sameD na st na st D D' = true := by
  unfold sameD
  rw [eqL_of _ _ h.len (fun i a b ha hb => copM_same (h.cop i a b ha hb))]
  simp
theorem sum_mem : ∀ {D : List MsgD} {m : MsgD}, m ∈ D → m.fields.length ≤ sumF D
  | x :: D, m, h => by
    simp only [sumF, List.map_cons, List.sum_cons]
    rcases List.mem_cons.1 h with rfl | h
    · omega
    · have := sum_mem h
      unfold sumF at this
      omega
  | [], _, h => by simp at h
theorem slAt_free {α : Type} {cf : α → List Value} {s c : Nat} {S : Nat → Prop} {W : World} {A : Option Addr} {D : List α} (h : SlAt cf s S W A c D) : SlAt cf s (fun _ => False) W A c D :=
  ⟨h.1, h.2.1, fun i d hd => by
    obtain ⟨g, o, e, _, hx⟩ := h.2.2 i d hd
    exact ⟨g, o, e, fun x => x, hx⟩⟩
theorem fields_free {c : Nat} {S : Nat → Prop} {W : World} {A : Option Addr} {D : List FieldD} (h : FieldsAt S W A c D) : FieldsAt (fun _ => False) W A c D :=
  ⟨slAt_free h.1, fun d hd => ⟨slAt_free (h.2 d hd).1, slAt_free (h.2 d hd).2⟩⟩
theorem msgs_free {c : Nat} {S : Nat → Prop} {W : World} {A : Option Addr} {D : List MsgD} (h : MsgsAt S W A c D) : MsgsAt (fun _ => False) W A c D :=
  ⟨slAt_free h.1, fun d hd => fields_free (h.2 d hd)⟩
/-- A copy's fields, as few as those that were copied. -/
theorem copM_few {lo : Nat} {W : World} {m m' : MsgD} (h : CopM lo W m m') (hk : ∀ f ∈ m.fields, okF f) : ∀ f ∈ m'.fields, okF f := fun f hf => by
  obtain ⟨j, hj, e⟩ := List.getElem_of_mem hf
  have hj' : m'.fields[j]? = some f := by rw [List.getElem?_eq_getElem hj, e]
  have hl : j < m.fields.length := by rw [← h.len]; exact hj
  have := (h.cop j _ f (List.getElem?_eq_getElem hl) hj').same
  have h2 := hk _ (List.getElem_mem hl)
  rw [this]
  exact h2
theorem copD_few {lo : Nat} {W : World} {D D' : List MsgD} {A : Option Addr} (h : CopD lo W D A D') (hf : FitsP D) : D'.length ≤ 70 ∧ ∀ m ∈ D', m.fields.length ≤ 400 ∧ ∀ f ∈ m.fields, okF f := by
  refine ⟨by rw [h.len]; exact hf.1, fun m hm => ?_⟩
  obtain ⟨j, hj, e⟩ := List.getElem_of_mem hm
  have hj' : D'[j]? = some m := by rw [List.getElem?_eq_getElem hj, e]
  have hl : j < D.length := by rw [← h.len]; exact hj
  have hc := h.cop j _ m (List.getElem?_eq_getElem hl) hj'
  exact ⟨by have := sum_mem (List.getElem_mem hl); have := hf.2.1; rw [hc.len]; omega, copM_few hc (hf.2.2 _ (List.getElem_mem hl))⟩
end Go.Proofs.Ytbpkppmbbpoohaa
