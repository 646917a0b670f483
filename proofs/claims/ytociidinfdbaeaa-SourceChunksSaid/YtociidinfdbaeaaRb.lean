/- The document's answers on a source: Close and Feed. Conditions: the bytes that were fed, and the chunk, lie in memory. -/
import Derived.Test.YtociidinfdbaeaaRa
import Derived.Test.YtociidinfdbaeaaEa
import Derived.Deep.RegionHeld3
namespace Go.Proofs.Ytociidinfdbaeaa
open Go.RowKit Go.Shelf

set_option maxRecDepth 100000 in
set_option maxHeartbeats 800000 in
theorem refClose_any (L n c T : Nat) (A : Option Addr) (C : Bool) (w : World) :
    Calls Try.prog 50 #[refV L A n c T C] w fun e w' => e = .returned (.tuple #[refV L A n c T true, .int .i64 (if C then 8 else 0)]) ∧ Below w.heap.size w w' := by
  cases C
  all_goals
    go_enter Try.func50, Try.ntmps50
    go_wp2
    (try simp only [Exit.inBlock, Exit.then]); refine bodyPost_ret (by simp [results, Try.results50, go_sem]; try rfl) rfl ?_
    exact ⟨rfl, ((Below.refl _ _).alloc (Nat.le_refl _) _).alloc (by simp) _⟩

/-- What Feed of the document leaves when it takes the chunk. -/
def RefFed (w : World) (L : Nat) (A : Option Addr) (n c T : Nat) (C : Bool) (F N : List Nat) (code : Int) (e : Ending) (w' : World) : Prop :=
  ∃ A' n' c', e = .returned (.tuple #[refV L A' n' c' T C, .int .i64 code]) ∧ SrcAt w' (.slice A' n' c') (if code = 0 then F ++ N else F) ∧ n' ≤ c' ∧
    (∀ k, (Value.slice A' n' c').ownBlock = some k → (Value.slice A n c).ownBlock = some k ∨ w.heap.size ≤ k) ∧ Below w.heap.size w w'

set_option maxRecDepth 100000 in
set_option maxHeartbeats 1600000 in
theorem refFeed_any (L c T : Nat) (A : Option Addr) (F N : List Nat) (C : Bool) (B : Option Addr) (d : Nat) (w : World) (hF : SrcAt w (.slice A F.length c) F) (hc : F.length ≤ c) (hT : T ≤ F.length) (hFl : F.length ≤ 1000000) (hN : SrcE w (.slice B N.length d) N) (hNl : N.length ≤ 1000000) :
    Calls Try.prog 46 #[refV L A F.length c T C, .slice B N.length d] w (RefFed w L A F.length c T C F N (feedCode L (F.drop T).length C N.length)) := by
  cases C
  case true =>
    have e : feedCode L (F.drop T).length true N.length = 8 := rfl
    rw [e]
    have HF := Lib.hid hF
    clear hF hN e
    go_enter Try.func46, Try.ntmps46
    go_wp2
    (try simp only [Exit.inBlock, Exit.then]); refine bodyPost_ret (by simp [results, Try.results46, go_sem]; try rfl) rfl ?_
    have hb : Below w.heap.size w ((w.alloc (.cells #[.int .i64 L, .slice A F.length c, .int .i64 T, .bool true] 31)).alloc (.cells #[.int .i64 L, .slice A F.length c, .int .i64 T, .bool true] 31)) := ((Below.refl _ _).alloc (Nat.le_refl _) _).alloc (by simp) _
    exact ⟨A, F.length, c, rfl, HF.out.below hb HF.out.lt, hc, fun k hk => .inl hk, hb⟩
  case false =>
    have HL := fun wx (hx : Below w.heap.size w wx) => Lib.hid (refLeft_any L c T A F false wx (hF.below hx hF.lt) hc hT)
    obtain ⟨m, hm⟩ : ∃ m, (F.drop T).length = m := ⟨_, rfl⟩
    have hml : m ≤ F.length := by rw [← hm, List.length_drop]; omega
    simp only [hm] at HL ⊢
    have HF := Lib.hid hF
    have HN := Lib.hid hN
    clear hF hN hm
    obtain ⟨code, hcd⟩ : ∃ code, feedCode L m false N.length = code := ⟨_, rfl⟩
    rw [hcd]
    have HCD := Lib.hid hcd
    clear hcd
    go_enter Try.func46, Try.ntmps46
    go_wp2_with fail
    have hq1 := (qbox_new w (.int .i64 L) (.slice A F.length c) (.int .i64 T) (.bool false)).alloc (.cells #[.int .i64 0, .slice none 0 0, .int .i64 0, .bool false] 31)
    have hq2 := qbox_next w (.cells #[.int .i64 L, .slice A F.length c, .int .i64 T, .bool false] 31) (.int .i64 0) (.slice none 0 0) (.int .i64 0) (.bool false)
    have hb0 : Below w.heap.size w ((w.alloc (.cells #[.int .i64 L, .slice A F.length c, .int .i64 T, .bool false] 31)).alloc (.cells #[.int .i64 0, .slice none 0 0, .int .i64 0, .bool false] 31)) := ((Below.refl _ _).alloc (Nat.le_refl _) _).alloc (by simp) _
    have hsz : ((w.alloc (.cells #[.int .i64 L, .slice A F.length c, .int .i64 T, .bool false] 31)).alloc (.cells #[.int .i64 0, .slice none 0 0, .int .i64 0, .bool false] 31)).heap.size = w.heap.size + 2 := by simp
    generalize hw2 : (w.alloc (.cells #[.int .i64 L, .slice A F.length c, .int .i64 T, .bool false] 31)).alloc (.cells #[.int .i64 0, .slice none 0 0, .int .i64 0, .bool false] 31) = w2 at *
    obtain ⟨q1, e1⟩ : ∃ q1, w.heap.size = q1 := ⟨_, rfl⟩
    obtain ⟨q2, e2⟩ : ∃ q2, q1 + 1 = q2 := ⟨_, rfl⟩
    have hne : q1 ≠ q2 := by omega
    rw [e1, e2] at hq2
    rw [e1] at hq1 ⊢
    rw [e2]
    have HS : ∀ wy, Below w2.heap.size w2 wy → wy.cell? ⟨q1, 0, none⟩ = some (.int .i64 L) ∧ wy.cell? ⟨q1, 1, none⟩ = some (.slice A F.length c) ∧ wy.cell? ⟨q1, 2, none⟩ = some (.int .i64 T) ∧ wy.cell? ⟨q1, 3, none⟩ = some (.bool false) := fun wy hy => by
      have h := hq1.below hy (by omega)
      exact ⟨h.c0, h.c1, h.c2, h.c3⟩
    have HQ1 := Lib.hid hq1
    have HQ2 := Lib.hid hq2
    have HB0 := Lib.hid hb0
    have HSZ := Lib.hid hsz
    have HSS := Lib.hid HS
    have E1 := Lib.hid e1
    have E2 := Lib.hid e2
    clear hw2 hq1 hq2 hb0 hsz HS e1 e2
    have hw : IntKind.i64.wrap ((m : Int) + (N.length : Int)) = (m : Int) + (N.length : Int) := IntWalk.i64_in _ (by omega)
    go_region_held (fun w' => w'.cell? ⟨q1, 0, none⟩ = some (.int .i64 L) ∧ w'.cell? ⟨q1, 1, none⟩ = some (.slice A F.length c) ∧ w'.cell? ⟨q1, 2, none⟩ = some (.int .i64 T) ∧ w'.cell? ⟨q1, 3, none⟩ = some (.bool false)) (first | exact HSS.out _ (Below.refl _ _).drew | exact HSS.out _ HBC.out) (first | (go_at_call 16; refine ((HL _ (HB0.out.drew)).out).mono ?_; rintro e w3 ⟨a, d3, rfl, hp, hd, hb⟩; have HBC := Lib.hid ((Below.refl _ _).drew.trans hb); clear hp hd hb))
    clear hw
    have hq1 := HQ1.out.below HBC.out HQ1.out.lt
    have hq2 := HQ2.out.below HBC.out HQ2.out.lt
    have HB3 := Lib.hid (HB0.out.trans (HBC.out.mono (show w.heap.size ≤ w2.heap.size by have := HSZ.out; omega)))
    have k0 := hq1.c0
    have k1 := hq1.c1
    have k2 := hq1.c2
    have k3 := hq1.c3
    have f1 := hq1.fr 1
    have l0 := hq2.c0
    have l1 := hq2.c1
    have l2 := hq2.c2
    have l3 := hq2.c3
    have g0 := hq2.fr 0
    have g1 := hq2.fr 1
    have g2 := hq2.fr 2
    have g3 := hq2.fr 3
    have HR1 := Lib.hid hq1
    have HR2 := Lib.hid hq2
    clear hq1 hq2 HL
    by_cases hL : (L : Int) < (m : Int) + (N.length : Int)
    · have hcode : code = 7 := by rw [← HCD.out]; unfold feedCode; rw [if_neg (by simp), if_pos (by omega)]
      subst hcode
      go_wp2
      (try simp only [Exit.inBlock, Exit.then]); refine bodyPost_ret (by simp [results, Try.results46, go_sem, *]; try rfl) rfl ?_
      have hb : Below w.heap.size w3 ((((w3.setCell ⟨q2, 0, none⟩ (.int .i64 L)).setCell ⟨q2, 1, none⟩ (.slice A F.length c)).setCell ⟨q2, 2, none⟩ (.int .i64 (T : Int))).setCell ⟨q2, 3, none⟩ (.bool false)) :=
        (((((Below.refl _ _).setCell (by have := E1.out; have := E2.out; show w.heap.size ≤ q2; omega) _).setCell (by have := E1.out; have := E2.out; show w.heap.size ≤ q2; omega) _).setCell (by have := E1.out; have := E2.out; show w.heap.size ≤ q2; omega) _).setCell (by have := E1.out; have := E2.out; show w.heap.size ≤ q2; omega) _)
      have hb' := HB3.out.trans hb
      exact ⟨A, F.length, c, rfl, HF.out.below hb' HF.out.lt, hc, fun k hk => .inl hk, hb'⟩
    · have hcode : code = 0 := by rw [← HCD.out]; unfold feedCode; rw [if_neg (by simp), if_neg (by omega)]
      subst hcode
      have kk1 := (HR1.out.alloc (.cells #[] 5)).c1
      have hba : Below w.heap.size w (w3.alloc (.cells #[] 5)) := HB3.out.alloc HB3.out.size _
      have HX1 := Lib.hid (HF.out.below hba HF.out.lt)
      have HBU := Lib.hid (buf_empty (w := w3.alloc (.cells #[] 5)) (some ⟨w3.heap.size, 0, none⟩) (fun a ha => by simp only [Option.some.injEq] at ha; subst ha; simp))
      clear hba
      go_wp2_with (at_builtin; go_must (refine wpList_append_buf _ rfl _ _ rfl rfl HBU.out rfl HX1.out (by simp; omega) ?_))
      intro v1 w5 h1 gr1 o1
      have hb35 : Below w3.heap.size w3 w5 := ((Below.refl _ w3).alloc (Nat.le_refl _) _).grown gr1 (by simp) (fun k hk => by simp [Value.ownBlock] at hk; omega)
      have HB35 := Lib.hid hb35
      have HY5 := Lib.hid (HN.out.below (HB3.out.trans (hb35.mono HB3.out.size)))
      have HV1 := Lib.hid h1
      have HO1 : ∀ k, v1.ownBlock = some k → w3.heap.size ≤ k := fun k hk => by
        rcases o1 k hk with e | e
        · simp [Value.ownBlock] at e; omega
        · simp at e; omega
      have O1 := Lib.hid HO1
      obtain ⟨ao, cap, hv, _, _⟩ := h1.form
      subst hv
      clear h1 gr1 o1 hb35 HO1 k0 k1 k2 k3 f1 l0 l1 l2 l3 g0 g1 g2 g3 kk1 HX1 HBU
      go_wp2_with (at_builtin; go_must (refine wpList_append_src _ rfl _ _ rfl rfl HV1.out rfl HY5.out.src (by omega) ?_))
      intro v2 w6 h2 gr2 o2
      have hb56 : Below w3.heap.size w5 w6 := (Below.refl _ w5).grown gr2 HB35.out.size (fun k hk => O1.out k hk)
      have hb36 : Below w3.heap.size w3 w6 := HB35.out.trans hb56
      have hq1 := HR1.out.below hb36 HR1.out.lt
      have hq2 := HR2.out.below hb36 HR2.out.lt
      have k0 := hq1.c0
      have k1 := hq1.c1
      have k2 := hq1.c2
      have k3 := hq1.c3
      have f1 := hq1.fr 1
      have l0 := hq2.c0
      have l1 := hq2.c1
      have l2 := hq2.c2
      have l3 := hq2.c3
      have g0 := hq2.fr 0
      have g1 := hq2.fr 1
      have g2 := hq2.fr 2
      have g3 := hq2.fr 3
      have HO2 : ∀ k, v2.ownBlock = some k → w3.heap.size ≤ k := fun k hk => by
        rcases o2 k hk with e | e
        · exact O1.out k e
        · have := HB35.out.size; omega
      have O2 := Lib.hid HO2
      clear HO2
      have HV2 := Lib.hid h2
      obtain ⟨ao2, cap2, hv, hle, _⟩ := h2.form
      subst hv
      have HB36 := Lib.hid hb36
      clear h2 gr2 o2 hb56 hb36 hq1 hq2
      go_wp2
      (try simp only [Exit.inBlock, Exit.then]); refine bodyPost_ret (by simp [results, Try.results46, go_sem, *]; try rfl) rfl ?_
      have hz1 := E1.out
      have hz2 := E2.out
      have hz3 := HSZ.out
      have hz4 := HBC.out.size
      have hz5 := HB36.out.size
      rw [List.length_append] at HV2 O2
      have hr : Rest (fun k => k = q1 ∨ k = q2) w6 (((((w6.setCell ⟨q1, 1, none⟩ (.slice ao2 (F.length + N.length) cap2)).setCell ⟨q2, 0, none⟩ (.int .i64 L)).setCell ⟨q2, 1, none⟩ (.slice ao2 (F.length + N.length) cap2)).setCell ⟨q2, 2, none⟩ (.int .i64 (T : Int))).setCell ⟨q2, 3, none⟩ (.bool false)) :=
        (((((Rest.refl _ _).setCell (fun _ => .inl rfl) _).setCell (fun _ => .inr rfl) _).setCell (fun _ => .inr rfl) _).setCell (fun _ => .inr rfl) _).setCell (fun _ => .inr rfl) _
      have hb := hr.toBelow w.heap.size (by omega) (fun i hi hm => by rcases hm with e | e <;> omega)
      refine ⟨ao2, F.length + N.length, cap2, rfl, ?_, by rw [List.length_append] at hle; exact hle, fun k hk => .inr ?_, (HB3.out.trans (HB36.out.mono HB3.out.size)).trans hb⟩
      · rw [if_pos rfl]
        exact HV2.out.src.rest hr (fun k hk hm => by have := O2.out k hk; rcases hm with e | e <;> omega)
      · have := O2.out k hk
        omega
end Go.Proofs.Ytociidinfdbaeaa
