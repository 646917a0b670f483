/- The memory of VarintExact. No conditions: plain facts on memory. -/
import Derived.Test.YtfkaghfbngicmaaQ9
import Derived.Test.YtfkaghfbngicmaaQ6
import Derived.Test.YtfkaghfbngicmaaRs
import Derived.Test.YtfkaghfbngicmaaRa
namespace Go.Proofs.Ytfkaghfbngicmaa
open Go.RowKit Go.Shelf

theorem not_undef {b : Bool} (h : some undef = some (Value.bool b)) : False := by simp [undef] at h
theorem str_beq {S T : ByteArray} (h : S ≠ T) : (S.toList == T.toList) = false := by
  rw [beq_eq_false_iff_ne]
  intro e
  rw [ByteArray.toList_eq, ByteArray.toList_eq] at e
  exact h (by cases S; cases T; simp at e; rw [e])
theorem below_drew (w : World) : Below w.heap.size w w.drew := (Below.refl _ w).drew

/-- The boxes of the call, the loop's record. -/
structure VX (w W : World) (b lr Dd : Nat) (r : Loop) (v : Int) (x : Value) (fst : Bool) (S : ByteArray) : Prop where
  bel : Below b w W
  vb : Boxed W b 3 (.int .i64 v)
  fb : Boxed W (b + 1) 22 x
  rb : Boxed W (b + 2) 4 (.bool false)
  cb : Boxed W (b + 3) 3 (.int .i64 v)
  ib : Boxed W (b + 4) 4 (.bool fst)
  sb : Boxed W (b + 5) 9 (.string S)
  rec_ : RecAt W lr Dd r
  o1 : b + 5 < Dd
  o2 : Dd < lr
section
variable {w W W' : World} {b lr Dd : Nat} {r : Loop} {v : Int} {x : Value} {fst : Bool} {S : ByteArray}
theorem VX.lt (h : VX w W b lr Dd r v x fst S) : lr < W.heap.size := (Array.getElem?_eq_some_iff.1 h.rec_.rec_).1
theorem VX.later (h : VX w W b lr Dd r v x fst S) (hb : Below W.heap.size W W') : VX w W' b lr Dd r v x fst S := by
  have h1 := h.o1
  have h2 := h.o2
  have hl := h.lt
  exact ⟨h.bel.trans (hb.mono (by omega)), boxed_below h.vb hb (by omega), boxed_below h.fb hb (by omega), boxed_below h.rb hb (by omega), boxed_below h.cb hb (by omega), boxed_below h.ib hb (by omega), boxed_below h.sb hb (by omega), h.rec_.below hb hl (by omega), h1, h2⟩
theorem VX.put (h : VX w W b lr Dd r v x fst S) (r' : Loop) : VX w (W.putObj lr (.loop r')) b lr Dd r' v x fst S := by
  have h1 := h.o1
  have h2 := h.o2
  have hl := h.lt
  exact ⟨h.bel.trans ((rest_putObj W lr (.loop r')).toBelow b (by omega) (fun i hi e => by omega)), boxed_put h.vb _ (by omega), boxed_put h.fb _ (by omega), boxed_put h.rb _ (by omega), boxed_put h.cb _ (by omega), boxed_put h.ib _ (by omega), boxed_put h.sb _ (by omega), h.rec_.put (by omega) r', h1, h2⟩
theorem VX.setI (h : VX w W b lr Dd r v x fst S) (c : Bool) : VX w (W.setCell ⟨b + 4, 0, none⟩ (.bool c)) b lr Dd r v x c S := by
  have h1 := h.o1
  have h2 := h.o2
  exact ⟨h.bel.setCell (p := ⟨b + 4, 0, none⟩) (show b ≤ b + 4 by omega) _, boxed_setQ h.vb _ _ _ (by omega), boxed_setQ h.fb _ _ _ (by omega), boxed_setQ h.rb _ _ _ (by omega), boxed_setQ h.cb _ _ _ (by omega), Boxed.set _ h.ib, boxed_setQ h.sb _ _ _ (by omega), h.rec_.rest (S := fun i => i = b + 4) ((Rest.refl (fun i => i = b + 4) W).setCell (S := fun i => i = b + 4) (p := ⟨b + 4, 0, none⟩) (fun _ => rfl) _) (by omega) (by omega), h1, h2⟩
theorem VX.setS (h : VX w W b lr Dd r v x fst S) (c : ByteArray) : VX w (W.setCell ⟨b + 5, 0, none⟩ (.string c)) b lr Dd r v x fst c := by
  have h1 := h.o1
  have h2 := h.o2
  exact ⟨h.bel.setCell (p := ⟨b + 5, 0, none⟩) (show b ≤ b + 5 by omega) _, boxed_setQ h.vb _ _ _ (by omega), boxed_setQ h.fb _ _ _ (by omega), boxed_setQ h.rb _ _ _ (by omega), boxed_setQ h.cb _ _ _ (by omega), boxed_setQ h.ib _ _ _ (by omega), Boxed.set _ h.sb, h.rec_.rest (S := fun i => i = b + 5) ((Rest.refl (fun i => i = b + 5) W).setCell (S := fun i => i = b + 5) (p := ⟨b + 5, 0, none⟩) (fun _ => rfl) _) (by omega) (by omega), h1, h2⟩

/-- Behind the forms. -/
structure VY (w W : World) (b Dd : Nat) (v : Int) (fst : Bool) : Prop where
  bel : Below b w W
  vb : Boxed W b 3 (.int .i64 v)
  rb : Boxed W (b + 2) 4 (.bool false)
  ib : Boxed W (b + 4) 4 (.bool fst)
  dfr : W.heap[Dd]? = some (.deferred (some []))
theorem VX.go (h : VX w W b lr Dd r v x fst S) (o : Obj) : VY w (W.putObj lr o) b Dd v fst := by
  have h1 := h.o1
  have h2 := h.o2
  have hl := h.lt
  exact ⟨h.bel.trans ((rest_putObj W lr o).toBelow b (by omega) (fun i hi e => by omega)), boxed_put h.vb _ (by omega), boxed_put h.rb _ (by omega), boxed_put h.ib _ (by omega), (World.putObj_heap_other (by omega)).trans h.rec_.dfr⟩
end

/-- Between two forms. -/
def JX (w : World) (b lr Dd : Nat) (r : Loop) (v : Nat) (x : Value) (q k : Nat) (W : World) : Prop :=
  (k ≤ q ∧ VX w W b lr Dd r v x true ⟨#[]⟩) ∨ (q < k ∧ VX w W b lr Dd r v x false (strOf (formV v (k - 1))))
theorem JX.vx {w W : World} {b lr Dd : Nat} {r : Loop} {v : Nat} {x : Value} {q k : Nat} (h : JX w b lr Dd r v x q k W) : ∃ fst S, VX w W b lr Dd r v x fst S := by
  rcases h with ⟨_, h⟩ | ⟨_, h⟩
  · exact ⟨_, _, h⟩
  · exact ⟨_, _, h⟩
theorem JX.later {w W W' : World} {b lr Dd : Nat} {r : Loop} {v : Nat} {x : Value} {q k : Nat} (h : JX w b lr Dd r v x q k W) (hb : Below W.heap.size W W') : JX w b lr Dd r v x q k W' := by
  rcases h with ⟨h1, h⟩ | ⟨h1, h⟩
  · exact .inl ⟨h1, h.later hb⟩
  · exact .inr ⟨h1, h.later hb⟩

/-- What is said of the values of the region that lays the bytes behind a form. -/
def XR (b k n g : Nat) (x : Value) (D B : List Nat) (i : Nat) (v : Value) (w : World) : Prop :=
  match i with
  | 0 => ∃ g0, v = .slice (some ⟨g0, 0, none⟩) 0 0 ∧ w.heap[g0]? = some (.cells #[] 5 (0, 0)) ∧ b ≤ g0
  | 1 => v = .slice (some ⟨g, 0, none⟩) k k
  | 2 => ∃ A' c, v = .slice A' k c ∧ w.ownsRow b 5 1 (.slice A' k c) k (u8s D)
  | 3 => v = x
  | _ => ∃ A' c, v = .slice A' (k + n) c ∧ SrcAt w (.slice A' (k + n) c) (D ++ B) ∧ k + n ≤ c ∧ c ≤ 9223372036854775807
def XK (i : Nat) : Nat := match i with | 0 => 2 | 2 => 4 | _ => 6
def XL (i j : Nat) : Bool := !(i == 4 && (j == 0 || decide (4 < j)))
theorem XR.below {b k n g : Nat} {x : Value} {D B : List Nat} {w w' : World} (hb : Below w.heap.size w w') (j : Nat) (u : Value) (h : XR b k n g x D B j u w) : XR b k n g x D B j u w' := by
  unfold XR at h ⊢
  match j, h with
  | 0, ⟨g, e, hg, hbg⟩ => exact ⟨g, e, (hb.block g (Array.getElem?_eq_some_iff.1 hg).1).trans hg, hbg⟩
  | 1, h => exact h
  | 2, ⟨A', c, e, hr⟩ => exact ⟨A', c, e, Rest.row (S := fun _ => False) (Rest.below hb) hr (fun _ _ e => e)⟩
  | 3, h => exact h
  | j + 4, ⟨A', c, e, hs, h1, h2⟩ => exact ⟨A', c, e, hs.below hb hs.lt, h1, h2⟩
end Go.Proofs.Ytfkaghfbngicmaa
