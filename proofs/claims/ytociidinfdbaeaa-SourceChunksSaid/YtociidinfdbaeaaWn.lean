/- A call on the document's source, as the statements make it (want). Conditions: the bytes that were fed, and the chunk, lie in memory; the bounds of the kinds. -/
import Derived.Test.YtociidinfdbaeaaPr
namespace Go.Proofs.Ytociidinfdbaeaa
open Go.RowKit Go.Shelf

/-- What want answers: the next state with its bytes, the bytes, the error. -/
def Wanted (L : Nat) (A : Option Addr) (n c : Nat) (s : St) (k : Nat) (N : List Nat) (V : Int) (E : Nat) (w : World) (e : Ending) (w' : World) : Prop :=
  ∃ A' c' a d, e = .returned (.tuple #[refV L A' (s.next L k N V E).F.length c' (s.next L k N V E).T (s.next L k N V E).C, .slice a (s.out L k V E).length d, .int .i64 (s.code L k N V E)]) ∧
    SrcAt w' (.slice a (s.out L k V E).length d) (s.out L k V E) ∧ SrcAt w' (.slice A' (s.next L k N V E).F.length c') (s.next L k N V E).F ∧ (s.next L k N V E).F.length ≤ c' ∧
    (∀ j, (Value.slice A' (s.next L k N V E).F.length c').ownBlock = some j → (Value.slice A n c).ownBlock = some j ∨ w.heap.size ≤ j) ∧ Below w.heap.size w w' ∧ ∀ j, (Value.slice a (s.out L k V E).length d).ownBlock = some j → (Value.slice A n c).ownBlock = some j

theorem nil_own {P : Nat → Prop} : ∀ j, (Value.slice none 0 0).ownBlock = some j → P j := fun j hj => by simp [Value.ownBlock] at hj

theorem own_len {A : Option Addr} {n m c d j : Nat} (h : (Value.slice A n c).ownBlock = some j) : (Value.slice A m d).ownBlock = some j := by
  cases A
  · simp [Value.ownBlock] at h
  · simpa [Value.ownBlock] using h

theorem abox_next (w : World) (o : Obj) (C : Array Value) (j : Nat) : ((w.alloc o).alloc (.cells C 53)).cell? ⟨w.heap.size + 1, j, none⟩ = C[j]? := by
  have := World.cell?_alloc_new (w.alloc o) C 53 j
  rw [World.size_alloc] at this
  exact this

set_option maxRecDepth 100000 in
set_option maxHeartbeats 3200000 in
theorem want_any (L : Nat) (A : Option Addr) (c : Nat) (s : St) (kd E d : Nat) (V : Int) (X : Option Addr) (N : List Nat) (w : World) (hF : SrcAt w (.slice A s.F.length c) s.F) (hc : s.F.length ≤ c) (hT : s.T ≤ s.F.length) (hFl : s.F.length ≤ 1000000) (hL : L ≤ 1048576) (hX : SrcE w (.slice X N.length d) N) (hNl : N.length ≤ 1000000) (hk2 : kd ≤ 255) :
    Calls Try.prog 29 #[refV L A s.F.length c s.T s.C, .agg #[.int .u8 kd, .slice X N.length d, .int .i64 V, .int .u8 E]] w (Wanted L A s.F.length c s (kd % 7) N V E w) := by
  have HK := fun wx => Lib.hid (kind_any kd E V (.slice X N.length d) wx (by omega) (by omega))
  have HH := Lib.hid hF
  have HN := Lib.hid hX
  clear hF hX
  obtain ⟨k, hkk⟩ : ∃ k, kd % 7 = k := ⟨_, rfl⟩
  have hk7 : k = 0 ∨ k = 1 ∨ k = 2 ∨ k = 3 ∨ k = 4 ∨ k = 5 ∨ k = 6 := by omega
  have hkz : ((kd : Nat) : Int) % 7 = (k : Nat) := by omega
  rw [hkz] at HK
  rw [hkk]
  clear hkk hkz
  rcases hk7 with rfl | rfl | rfl | rfl | rfl | rfl | rfl
  · obtain ⟨code, hcd⟩ : ∃ code, feedCode L s.B.length s.C N.length = code := ⟨_, rfl⟩
    have HC := fun wx (hx : Below w.heap.size w wx) => Lib.hid (refFeed_any L c s.T A s.F N s.C X d wx (HH.out.below hx HH.out.lt) hc hT hFl (HN.out.below hx) hNl)
    have hcd' : feedCode L (s.F.drop s.T).length s.C N.length = code := hcd
    simp only [hcd'] at HC
    have HCD := Lib.hid hcd
    clear hcd hcd'
    go_enter Try.func29, Try.ntmps29
    go_wp2_with fail
    refine ((HK _).out).mono ?_
    rintro e w1 ⟨rfl, hb1⟩
    have hq1 := (((qbox_new w (.int .i64 L) (.slice A s.F.length c) (.int .i64 s.T) (.bool s.C)).alloc _).alloc _).below hb1 (by simp; omega)
    have hq3 := (qbox_next (w.alloc (.cells #[.int .i64 L, .slice A s.F.length c, .int .i64 s.T, .bool s.C] 31)) (.cells #[.int .u8 kd, .slice X N.length d, .int .i64 V, .int .u8 E] 53) (.int .i64 0) (.slice none 0 0) (.int .i64 0) (.bool false)).below hb1 (by simp)
    have q1 := (hb1.cell (p := ⟨w.heap.size + 1, 1, none⟩) (by simp)).trans ((World.cell?_alloc_lt _ _ _ (by simp)).trans (abox_next w (.cells #[.int .i64 L, .slice A s.F.length c, .int .i64 s.T, .bool s.C] 31) #[.int .u8 kd, .slice X N.length d, .int .i64 V, .int .u8 E] 1))
    have q2 := (hb1.cell (p := ⟨w.heap.size + 1, 2, none⟩) (by simp)).trans ((World.cell?_alloc_lt _ _ _ (by simp)).trans (abox_next w (.cells #[.int .i64 L, .slice A s.F.length c, .int .i64 s.T, .bool s.C] 31) #[.int .u8 kd, .slice X N.length d, .int .i64 V, .int .u8 E] 2))
    have q3 := (hb1.cell (p := ⟨w.heap.size + 1, 3, none⟩) (by simp)).trans ((World.cell?_alloc_lt _ _ _ (by simp)).trans (abox_next w (.cells #[.int .i64 L, .slice A s.F.length c, .int .i64 s.T, .bool s.C] 31) #[.int .u8 kd, .slice X N.length d, .int .i64 V, .int .u8 E] 3))
    simp at q1 q2 q3
    rw [World.size_alloc] at hq3
    have hb := ((((Below.refl w.heap.size w).alloc (Nat.le_refl _) (.cells #[.int .i64 L, .slice A s.F.length c, .int .i64 s.T, .bool s.C] 31)).alloc (by simp) (.cells #[.int .u8 kd, .slice X N.length d, .int .i64 V, .int .u8 E] 53)).alloc (by simp; omega) (.cells #[.int .i64 0, .slice none 0 0, .int .i64 0, .bool false] 31)).trans (hb1.mono (by simp; omega))
    obtain ⟨b1, e1⟩ : ∃ b1, w.heap.size = b1 := ⟨_, rfl⟩
    obtain ⟨b2, e2⟩ : ∃ b2, b1 + 1 = b2 := ⟨_, rfl⟩
    obtain ⟨b3, e3⟩ : ∃ b3, b2 + 1 = b3 := ⟨_, rfl⟩
    have n12 : b1 ≠ b2 := by omega
    have n13 : b1 ≠ b3 := by omega
    have n23 : b2 ≠ b3 := by omega
    have HB := Lib.hid hb
    clear hb1 hb
    simp only [e1, e2, e3] at hq1 hq3 q1 q2 q3 ⊢
    have E1 := Lib.hid e1
    have E2 := Lib.hid e2
    have E3 := Lib.hid e3
    have HQ1 := Lib.hid hq1
    have HQ3 := Lib.hid hq3
    have k0 := hq1.c0
    have k1 := hq1.c1
    have k2 := hq1.c2
    have k3 := hq1.c3
    clear hq1 hq3 e1 e2 e3
    go_wp2_with fail
    refine ((HC _ HB.out).out).mono ?_
    rintro e w2 ⟨A', n', c', rfl, hs', hle, hown, hb2⟩
    have FIN : ∀ wf, Rest (fun j => j = b3) w2 wf → Wanted L A s.F.length c s 0 N V E w (.returned (.tuple #[.agg #[.int .i64 L, .slice A' n' c', .int .i64 s.T, .bool s.C], .slice none 0 0, .int .i64 code])) wf := fun wf hf => by
      have hsz := HB.out.size
      have hsz2 := hb2.size
      have z1 := E1.out
      have z2 := E2.out
      have z3 := E3.out
      have hl3 := HQ3.out.lt
      have hbf : Below w.heap.size w wf := (HB.out.trans (hb2.mono hsz)).trans (hf.toBelow w.heap.size (by omega) (fun i hi e => by omega))
      obtain rfl := src_len hs'
      have hN : (s.next L 0 N V E) = ⟨if code = 0 then s.F ++ N else s.F, s.T, s.C⟩ := by rw [← HCD.out]; rfl
      have hown' : ∀ j, (Value.slice A' (if code = 0 then s.F ++ N else s.F).length c').ownBlock = some j → (Value.slice A s.F.length c).ownBlock = some j ∨ w1.heap.size ≤ j := fun j hj => hown j hj
      unfold Wanted
      rw [hN]
      refine ⟨A', c', none, 0, ?_, .inl ⟨rfl, rfl⟩, ?_, hle, fun j hj => ?_, hbf, nil_own⟩
      · rw [← HCD.out]; rfl
      · refine hs'.rest hf (fun j hj e => ?_)
        rcases hown j hj with e' | e'
        · have := HH.out.lt j e'; omega
        · omega
      · rcases hown' j hj with e' | e'
        · exact .inl e'
        · exact .inr (by omega)
    have FIN := Lib.hid FIN
    have HB2 := Lib.hid hb2
    clear hs' hle hown hb2 k0 k1 k2 k3 q1 q2 q3
    have hq1 := HQ1.out.below HB2.out HQ1.out.lt
    have hq3 := HQ3.out.below HB2.out HQ3.out.lt
    have k0 := hq1.c0
    have k1 := hq1.c1
    have k2 := hq1.c2
    have k3 := hq1.c3
    have l0 := hq3.c0
    have l1 := hq3.c1
    have l2 := hq3.c2
    have l3 := hq3.c3
    have g0 := hq3.fr 0
    have g1 := hq3.fr 1
    have g2 := hq3.fr 2
    have g3 := hq3.fr 3
    have l0' := fun o => (hq3.alloc o).c0
    have l1' := fun o => (hq3.alloc o).c1
    have l2' := fun o => (hq3.alloc o).c2
    have l3' := fun o => (hq3.alloc o).c3
    have g0' := fun o => (hq3.alloc o).fr 0
    have g1' := fun o => (hq3.alloc o).fr 1
    have g2' := fun o => (hq3.alloc o).fr 2
    have g3' := fun o => (hq3.alloc o).fr 3
    clear hq1 hq3
    go_wp2
    (try simp only [Exit.inBlock, Exit.then]); refine bodyPost_ret (by simp [results, Try.results29, go_sem, *]; try rfl) rfl ?_
    refine FIN.out _ ?_
    repeat' first | exact Rest.refl _ _ | refine Rest.setCell (S := fun j => j = b3) (p := ⟨b3, _, none⟩) ?_ (fun _ => rfl) _ | refine Rest.alloc ?_ _
  · obtain ⟨code, hcd⟩ : ∃ code, peekCode L s.B.length s.C V = code := ⟨_, rfl⟩
    obtain ⟨out, ho⟩ : ∃ out, takeB code V s.B = out := ⟨_, rfl⟩
    have HC := fun wx (hx : Below w.heap.size w wx) => Lib.hid (refPeek_any L c s.T V A s.F s.C wx (HH.out.below hx HH.out.lt) hc hT)
    have hcd' : peekCode L (s.F.drop s.T).length s.C V = code := hcd
    have ho' : takeB code V (s.F.drop s.T) = out := ho
    simp only [hcd', ho'] at HC
    have HO := Lib.hid (show takeB (peekCode L s.B.length s.C V) V s.B = out by rw [hcd]; exact ho)
    clear ho
    have HCD := Lib.hid hcd
    clear hcd hcd' ho'
    go_enter Try.func29, Try.ntmps29
    go_wp2_with fail
    refine ((HK _).out).mono ?_
    rintro e w1 ⟨rfl, hb1⟩
    have hq1 := (((qbox_new w (.int .i64 L) (.slice A s.F.length c) (.int .i64 s.T) (.bool s.C)).alloc _).alloc _).below hb1 (by simp; omega)
    have hq3 := (qbox_next (w.alloc (.cells #[.int .i64 L, .slice A s.F.length c, .int .i64 s.T, .bool s.C] 31)) (.cells #[.int .u8 kd, .slice X N.length d, .int .i64 V, .int .u8 E] 53) (.int .i64 0) (.slice none 0 0) (.int .i64 0) (.bool false)).below hb1 (by simp)
    have q1 := (hb1.cell (p := ⟨w.heap.size + 1, 1, none⟩) (by simp)).trans ((World.cell?_alloc_lt _ _ _ (by simp)).trans (abox_next w (.cells #[.int .i64 L, .slice A s.F.length c, .int .i64 s.T, .bool s.C] 31) #[.int .u8 kd, .slice X N.length d, .int .i64 V, .int .u8 E] 1))
    have q2 := (hb1.cell (p := ⟨w.heap.size + 1, 2, none⟩) (by simp)).trans ((World.cell?_alloc_lt _ _ _ (by simp)).trans (abox_next w (.cells #[.int .i64 L, .slice A s.F.length c, .int .i64 s.T, .bool s.C] 31) #[.int .u8 kd, .slice X N.length d, .int .i64 V, .int .u8 E] 2))
    have q3 := (hb1.cell (p := ⟨w.heap.size + 1, 3, none⟩) (by simp)).trans ((World.cell?_alloc_lt _ _ _ (by simp)).trans (abox_next w (.cells #[.int .i64 L, .slice A s.F.length c, .int .i64 s.T, .bool s.C] 31) #[.int .u8 kd, .slice X N.length d, .int .i64 V, .int .u8 E] 3))
    simp at q1 q2 q3
    rw [World.size_alloc] at hq3
    have hb := ((((Below.refl w.heap.size w).alloc (Nat.le_refl _) (.cells #[.int .i64 L, .slice A s.F.length c, .int .i64 s.T, .bool s.C] 31)).alloc (by simp) (.cells #[.int .u8 kd, .slice X N.length d, .int .i64 V, .int .u8 E] 53)).alloc (by simp; omega) (.cells #[.int .i64 0, .slice none 0 0, .int .i64 0, .bool false] 31)).trans (hb1.mono (by simp; omega))
    obtain ⟨b1, e1⟩ : ∃ b1, w.heap.size = b1 := ⟨_, rfl⟩
    obtain ⟨b2, e2⟩ : ∃ b2, b1 + 1 = b2 := ⟨_, rfl⟩
    obtain ⟨b3, e3⟩ : ∃ b3, b2 + 1 = b3 := ⟨_, rfl⟩
    have n12 : b1 ≠ b2 := by omega
    have n13 : b1 ≠ b3 := by omega
    have n23 : b2 ≠ b3 := by omega
    have HB := Lib.hid hb
    clear hb1 hb
    simp only [e1, e2, e3] at hq1 hq3 q1 q2 q3 ⊢
    have E1 := Lib.hid e1
    have E2 := Lib.hid e2
    have E3 := Lib.hid e3
    have HQ1 := Lib.hid hq1
    have HQ3 := Lib.hid hq3
    have k0 := hq1.c0
    have k1 := hq1.c1
    have k2 := hq1.c2
    have k3 := hq1.c3
    clear hq1 hq3 e1 e2 e3
    go_wp2_with fail
    refine ((HC _ HB.out).out).mono ?_
    rintro e w2 ⟨a, d2, rfl, hp, hb2⟩
    have FIN : ∀ wf, Rest (fun j => j = b3) w2 wf → Wanted L A s.F.length c s 1 N V E w (.returned (.tuple #[.agg #[.int .i64 L, .slice A s.F.length c, .int .i64 (s.T : Nat), .bool s.C], .slice a out.length d2, .int .i64 code])) wf := fun wf hf => by
      have hsz := HB.out.size
      have hsz2 := hb2.size
      have z1 := E1.out
      have z2 := E2.out
      have z3 := E3.out
      have hl3 := HQ3.out.lt
      have hbf : Below w.heap.size w wf := (HB.out.trans (hb2.mono hsz)).trans (hf.toBelow w.heap.size (by omega) (fun i hi e => by omega))
      have hN : (s.next L 1 N V E) = ⟨s.F, s.T, s.C⟩ := rfl
      unfold Wanted
      rw [hN]
      refine ⟨A, c, a, d2, ?_, ?_, HH.out.below hbf HH.out.lt, hc, fun j hj => .inl hj, hbf, ?_⟩
      · rw [← HCD.out, ← HO.out]; rfl
      · have ho : s.out L 1 V E = out := HO.out
        rw [ho]
        exact hp.1.rest hf (fun j hj e => by have := HH.out.lt j (hp.2.2 j hj); omega)
      · have ho : s.out L 1 V E = out := HO.out
        rw [ho]
        exact fun j hj => hp.2.2 j hj
    have FIN := Lib.hid FIN
    have HB2 := Lib.hid hb2
    clear hp hb2 k0 k1 k2 k3 q1 q2 q3
    have hq1 := HQ1.out.below HB2.out HQ1.out.lt
    have hq3 := HQ3.out.below HB2.out HQ3.out.lt
    have k0 := hq1.c0
    have k1 := hq1.c1
    have k2 := hq1.c2
    have k3 := hq1.c3
    have l0 := hq3.c0
    have l1 := hq3.c1
    have l2 := hq3.c2
    have l3 := hq3.c3
    have g0 := hq3.fr 0
    have g1 := hq3.fr 1
    have g2 := hq3.fr 2
    have g3 := hq3.fr 3
    have l0' := fun o => (hq3.alloc o).c0
    have l1' := fun o => (hq3.alloc o).c1
    have l2' := fun o => (hq3.alloc o).c2
    have l3' := fun o => (hq3.alloc o).c3
    have g0' := fun o => (hq3.alloc o).fr 0
    have g1' := fun o => (hq3.alloc o).fr 1
    have g2' := fun o => (hq3.alloc o).fr 2
    have g3' := fun o => (hq3.alloc o).fr 3
    clear hq1 hq3
    go_wp2
    (try simp only [Exit.inBlock, Exit.then]); refine bodyPost_ret (by simp [results, Try.results29, go_sem, *]; try rfl) rfl ?_
    refine FIN.out _ ?_
    repeat' first | exact Rest.refl _ _ | refine Rest.setCell (S := fun j => j = b3) (p := ⟨b3, _, none⟩) ?_ (fun _ => rfl) _ | refine Rest.alloc ?_ _
  · obtain ⟨code, hcd⟩ : ∃ code, peekCode L s.B.length s.C V = code := ⟨_, rfl⟩
    obtain ⟨out, ho⟩ : ∃ out, takeB code V s.B = out := ⟨_, rfl⟩
    obtain ⟨T', hT'⟩ : ∃ T', s.T + takeN code V = T' := ⟨_, rfl⟩
    have HC := fun wx (hx : Below w.heap.size w wx) => Lib.hid (refTake_any L c s.T V A s.F s.C wx (HH.out.below hx HH.out.lt) hc hT hFl)
    have hcd' : peekCode L (s.F.drop s.T).length s.C V = code := hcd
    have ho' : takeB code V (s.F.drop s.T) = out := ho
    simp only [hcd', ho', hT'] at HC
    have HO := Lib.hid (show takeB (peekCode L s.B.length s.C V) V s.B = out by rw [hcd]; exact ho)
    have HT := Lib.hid (show s.T + takeN (peekCode L s.B.length s.C V) V = T' by rw [hcd]; exact hT')
    have HCD := Lib.hid hcd
    clear hcd hcd' ho ho' hT'
    go_enter Try.func29, Try.ntmps29
    go_wp2_with fail
    refine ((HK _).out).mono ?_
    rintro e w1 ⟨rfl, hb1⟩
    have hq1 := (((qbox_new w (.int .i64 L) (.slice A s.F.length c) (.int .i64 s.T) (.bool s.C)).alloc _).alloc _).below hb1 (by simp; omega)
    have hq3 := (qbox_next (w.alloc (.cells #[.int .i64 L, .slice A s.F.length c, .int .i64 s.T, .bool s.C] 31)) (.cells #[.int .u8 kd, .slice X N.length d, .int .i64 V, .int .u8 E] 53) (.int .i64 0) (.slice none 0 0) (.int .i64 0) (.bool false)).below hb1 (by simp)
    have q1 := (hb1.cell (p := ⟨w.heap.size + 1, 1, none⟩) (by simp)).trans ((World.cell?_alloc_lt _ _ _ (by simp)).trans (abox_next w (.cells #[.int .i64 L, .slice A s.F.length c, .int .i64 s.T, .bool s.C] 31) #[.int .u8 kd, .slice X N.length d, .int .i64 V, .int .u8 E] 1))
    have q2 := (hb1.cell (p := ⟨w.heap.size + 1, 2, none⟩) (by simp)).trans ((World.cell?_alloc_lt _ _ _ (by simp)).trans (abox_next w (.cells #[.int .i64 L, .slice A s.F.length c, .int .i64 s.T, .bool s.C] 31) #[.int .u8 kd, .slice X N.length d, .int .i64 V, .int .u8 E] 2))
    have q3 := (hb1.cell (p := ⟨w.heap.size + 1, 3, none⟩) (by simp)).trans ((World.cell?_alloc_lt _ _ _ (by simp)).trans (abox_next w (.cells #[.int .i64 L, .slice A s.F.length c, .int .i64 s.T, .bool s.C] 31) #[.int .u8 kd, .slice X N.length d, .int .i64 V, .int .u8 E] 3))
    simp at q1 q2 q3
    rw [World.size_alloc] at hq3
    have hb := ((((Below.refl w.heap.size w).alloc (Nat.le_refl _) (.cells #[.int .i64 L, .slice A s.F.length c, .int .i64 s.T, .bool s.C] 31)).alloc (by simp) (.cells #[.int .u8 kd, .slice X N.length d, .int .i64 V, .int .u8 E] 53)).alloc (by simp; omega) (.cells #[.int .i64 0, .slice none 0 0, .int .i64 0, .bool false] 31)).trans (hb1.mono (by simp; omega))
    obtain ⟨b1, e1⟩ : ∃ b1, w.heap.size = b1 := ⟨_, rfl⟩
    obtain ⟨b2, e2⟩ : ∃ b2, b1 + 1 = b2 := ⟨_, rfl⟩
    obtain ⟨b3, e3⟩ : ∃ b3, b2 + 1 = b3 := ⟨_, rfl⟩
    have n12 : b1 ≠ b2 := by omega
    have n13 : b1 ≠ b3 := by omega
    have n23 : b2 ≠ b3 := by omega
    have HB := Lib.hid hb
    clear hb1 hb
    simp only [e1, e2, e3] at hq1 hq3 q1 q2 q3 ⊢
    have E1 := Lib.hid e1
    have E2 := Lib.hid e2
    have E3 := Lib.hid e3
    have HQ1 := Lib.hid hq1
    have HQ3 := Lib.hid hq3
    have k0 := hq1.c0
    have k1 := hq1.c1
    have k2 := hq1.c2
    have k3 := hq1.c3
    clear hq1 hq3 e1 e2 e3
    go_wp2_with fail
    refine ((HC _ HB.out).out).mono ?_
    rintro e w2 ⟨a, d2, rfl, hp, hb2⟩
    have FIN : ∀ wf, Rest (fun j => j = b3) w2 wf → Wanted L A s.F.length c s 2 N V E w (.returned (.tuple #[.agg #[.int .i64 L, .slice A s.F.length c, .int .i64 (T' : Nat), .bool s.C], .slice a out.length d2, .int .i64 code])) wf := fun wf hf => by
      have hsz := HB.out.size
      have hsz2 := hb2.size
      have z1 := E1.out
      have z2 := E2.out
      have z3 := E3.out
      have hl3 := HQ3.out.lt
      have hbf : Below w.heap.size w wf := (HB.out.trans (hb2.mono hsz)).trans (hf.toBelow w.heap.size (by omega) (fun i hi e => by omega))
      have hN : (s.next L 2 N V E) = ⟨s.F, T', s.C⟩ := by rw [← HT.out]; rfl
      unfold Wanted
      rw [hN]
      refine ⟨A, c, a, d2, ?_, ?_, HH.out.below hbf HH.out.lt, hc, fun j hj => .inl hj, hbf, ?_⟩
      · rw [← HCD.out, ← HO.out]; rfl
      · have ho : s.out L 2 V E = out := HO.out
        rw [ho]
        exact hp.1.rest hf (fun j hj e => by have := HH.out.lt j (hp.2.2 j hj); omega)
      · have ho : s.out L 2 V E = out := HO.out
        rw [ho]
        exact fun j hj => hp.2.2 j hj
    have FIN := Lib.hid FIN
    have HB2 := Lib.hid hb2
    clear hp hb2 k0 k1 k2 k3 q1 q2 q3
    have hq1 := HQ1.out.below HB2.out HQ1.out.lt
    have hq3 := HQ3.out.below HB2.out HQ3.out.lt
    have k0 := hq1.c0
    have k1 := hq1.c1
    have k2 := hq1.c2
    have k3 := hq1.c3
    have l0 := hq3.c0
    have l1 := hq3.c1
    have l2 := hq3.c2
    have l3 := hq3.c3
    have g0 := hq3.fr 0
    have g1 := hq3.fr 1
    have g2 := hq3.fr 2
    have g3 := hq3.fr 3
    have l0' := fun o => (hq3.alloc o).c0
    have l1' := fun o => (hq3.alloc o).c1
    have l2' := fun o => (hq3.alloc o).c2
    have l3' := fun o => (hq3.alloc o).c3
    have g0' := fun o => (hq3.alloc o).fr 0
    have g1' := fun o => (hq3.alloc o).fr 1
    have g2' := fun o => (hq3.alloc o).fr 2
    have g3' := fun o => (hq3.alloc o).fr 3
    clear hq1 hq3
    go_wp2
    (try simp only [Exit.inBlock, Exit.then]); refine bodyPost_ret (by simp [results, Try.results29, go_sem, *]; try rfl) rfl ?_
    refine FIN.out _ ?_
    repeat' first | exact Rest.refl _ _ | refine Rest.setCell (S := fun j => j = b3) (p := ⟨b3, _, none⟩) ?_ (fun _ => rfl) _ | refine Rest.alloc ?_ _
  · obtain ⟨code, hcd⟩ : ∃ code, peekCode L s.B.length s.C V = code := ⟨_, rfl⟩
    obtain ⟨out, ho⟩ : ∃ out, takeB code V s.B = out := ⟨_, rfl⟩
    obtain ⟨T', hT'⟩ : ∃ T', s.T + takeN code V = T' := ⟨_, rfl⟩
    have HC := fun wx (hx : Below w.heap.size w wx) => Lib.hid (refTake_any L c s.T V A s.F s.C wx (HH.out.below hx HH.out.lt) hc hT hFl)
    have hcd' : peekCode L (s.F.drop s.T).length s.C V = code := hcd
    have ho' : takeB code V (s.F.drop s.T) = out := ho
    simp only [hcd', ho', hT'] at HC
    have HO := Lib.hid (show takeB (peekCode L s.B.length s.C V) V s.B = out by rw [hcd]; exact ho)
    have HT := Lib.hid (show s.T + takeN (peekCode L s.B.length s.C V) V = T' by rw [hcd]; exact hT')
    have HCD := Lib.hid hcd
    clear hcd hcd' ho ho' hT'
    go_enter Try.func29, Try.ntmps29
    go_wp2_with fail
    refine ((HK _).out).mono ?_
    rintro e w1 ⟨rfl, hb1⟩
    have hq1 := (((qbox_new w (.int .i64 L) (.slice A s.F.length c) (.int .i64 s.T) (.bool s.C)).alloc _).alloc _).below hb1 (by simp; omega)
    have hq3 := (qbox_next (w.alloc (.cells #[.int .i64 L, .slice A s.F.length c, .int .i64 s.T, .bool s.C] 31)) (.cells #[.int .u8 kd, .slice X N.length d, .int .i64 V, .int .u8 E] 53) (.int .i64 0) (.slice none 0 0) (.int .i64 0) (.bool false)).below hb1 (by simp)
    have q1 := (hb1.cell (p := ⟨w.heap.size + 1, 1, none⟩) (by simp)).trans ((World.cell?_alloc_lt _ _ _ (by simp)).trans (abox_next w (.cells #[.int .i64 L, .slice A s.F.length c, .int .i64 s.T, .bool s.C] 31) #[.int .u8 kd, .slice X N.length d, .int .i64 V, .int .u8 E] 1))
    have q2 := (hb1.cell (p := ⟨w.heap.size + 1, 2, none⟩) (by simp)).trans ((World.cell?_alloc_lt _ _ _ (by simp)).trans (abox_next w (.cells #[.int .i64 L, .slice A s.F.length c, .int .i64 s.T, .bool s.C] 31) #[.int .u8 kd, .slice X N.length d, .int .i64 V, .int .u8 E] 2))
    have q3 := (hb1.cell (p := ⟨w.heap.size + 1, 3, none⟩) (by simp)).trans ((World.cell?_alloc_lt _ _ _ (by simp)).trans (abox_next w (.cells #[.int .i64 L, .slice A s.F.length c, .int .i64 s.T, .bool s.C] 31) #[.int .u8 kd, .slice X N.length d, .int .i64 V, .int .u8 E] 3))
    simp at q1 q2 q3
    rw [World.size_alloc] at hq3
    have hb := ((((Below.refl w.heap.size w).alloc (Nat.le_refl _) (.cells #[.int .i64 L, .slice A s.F.length c, .int .i64 s.T, .bool s.C] 31)).alloc (by simp) (.cells #[.int .u8 kd, .slice X N.length d, .int .i64 V, .int .u8 E] 53)).alloc (by simp; omega) (.cells #[.int .i64 0, .slice none 0 0, .int .i64 0, .bool false] 31)).trans (hb1.mono (by simp; omega))
    obtain ⟨b1, e1⟩ : ∃ b1, w.heap.size = b1 := ⟨_, rfl⟩
    obtain ⟨b2, e2⟩ : ∃ b2, b1 + 1 = b2 := ⟨_, rfl⟩
    obtain ⟨b3, e3⟩ : ∃ b3, b2 + 1 = b3 := ⟨_, rfl⟩
    have n12 : b1 ≠ b2 := by omega
    have n13 : b1 ≠ b3 := by omega
    have n23 : b2 ≠ b3 := by omega
    have HB := Lib.hid hb
    clear hb1 hb
    simp only [e1, e2, e3] at hq1 hq3 q1 q2 q3 ⊢
    have E1 := Lib.hid e1
    have E2 := Lib.hid e2
    have E3 := Lib.hid e3
    have HQ1 := Lib.hid hq1
    have HQ3 := Lib.hid hq3
    have k0 := hq1.c0
    have k1 := hq1.c1
    have k2 := hq1.c2
    have k3 := hq1.c3
    clear hq1 hq3 e1 e2 e3
    go_wp2_with fail
    refine ((HC _ HB.out).out).mono ?_
    rintro e w2 ⟨a, d2, rfl, hp, hb2⟩
    have FIN : ∀ wf, Rest (fun j => j = b3) w2 wf → Wanted L A s.F.length c s 3 N V E w (.returned (.tuple #[.agg #[.int .i64 L, .slice A s.F.length c, .int .i64 (T' : Nat), .bool s.C], .slice none 0 0, .int .i64 code])) wf := fun wf hf => by
      have hsz := HB.out.size
      have hsz2 := hb2.size
      have z1 := E1.out
      have z2 := E2.out
      have z3 := E3.out
      have hl3 := HQ3.out.lt
      have hbf : Below w.heap.size w wf := (HB.out.trans (hb2.mono hsz)).trans (hf.toBelow w.heap.size (by omega) (fun i hi e => by omega))
      have hN : (s.next L 3 N V E) = ⟨s.F, T', s.C⟩ := by rw [← HT.out]; rfl
      unfold Wanted
      rw [hN]
      refine ⟨A, c, none, 0, ?_, ?_, HH.out.below hbf HH.out.lt, hc, fun j hj => .inl hj, hbf, ?_⟩
      · rw [← HCD.out]; rfl
      · exact .inl ⟨rfl, rfl⟩
      · exact nil_own
    have FIN := Lib.hid FIN
    have HB2 := Lib.hid hb2
    clear hp hb2 k0 k1 k2 k3 q1 q2 q3
    have hq1 := HQ1.out.below HB2.out HQ1.out.lt
    have hq3 := HQ3.out.below HB2.out HQ3.out.lt
    have k0 := hq1.c0
    have k1 := hq1.c1
    have k2 := hq1.c2
    have k3 := hq1.c3
    have l0 := hq3.c0
    have l1 := hq3.c1
    have l2 := hq3.c2
    have l3 := hq3.c3
    have g0 := hq3.fr 0
    have g1 := hq3.fr 1
    have g2 := hq3.fr 2
    have g3 := hq3.fr 3
    have l0' := fun o => (hq3.alloc o).c0
    have l1' := fun o => (hq3.alloc o).c1
    have l2' := fun o => (hq3.alloc o).c2
    have l3' := fun o => (hq3.alloc o).c3
    have g0' := fun o => (hq3.alloc o).fr 0
    have g1' := fun o => (hq3.alloc o).fr 1
    have g2' := fun o => (hq3.alloc o).fr 2
    have g3' := fun o => (hq3.alloc o).fr 3
    clear hq1 hq3
    go_wp2
    (try simp only [Exit.inBlock, Exit.then]); refine bodyPost_ret (by simp [results, Try.results29, go_sem, *]; try rfl) rfl ?_
    refine FIN.out _ ?_
    repeat' first | exact Rest.refl _ _ | refine Rest.setCell (S := fun j => j = b3) (p := ⟨b3, _, none⟩) ?_ (fun _ => rfl) _ | refine Rest.alloc ?_ _
  · obtain ⟨code, hcd⟩ : ∃ code, untilCode L s.B s.C E V = code := ⟨_, rfl⟩
    obtain ⟨out, ho⟩ : ∃ out, untilB L s.B s.C E V = out := ⟨_, rfl⟩
    obtain ⟨T', hT'⟩ : ∃ T', s.T + untilK L s.B s.C E V = T' := ⟨_, rfl⟩
    have HC := fun wx (hx : Below w.heap.size w wx) => Lib.hid (refUntil_any L c s.T E V A s.F s.C wx (HH.out.below hx HH.out.lt) hc hT hFl hL)
    have hcd' : untilCode L (s.F.drop s.T) s.C E V = code := hcd
    have ho' : untilB L (s.F.drop s.T) s.C E V = out := ho
    have hT2 : s.T + untilK L (s.F.drop s.T) s.C E V = T' := hT'
    simp only [hcd', ho', hT2] at HC
    have HO := Lib.hid ho
    have HT := Lib.hid hT'
    have HCD := Lib.hid hcd
    clear hcd hcd' ho ho' hT' hT2
    go_enter Try.func29, Try.ntmps29
    go_wp2_with fail
    refine ((HK _).out).mono ?_
    rintro e w1 ⟨rfl, hb1⟩
    have hq1 := (((qbox_new w (.int .i64 L) (.slice A s.F.length c) (.int .i64 s.T) (.bool s.C)).alloc _).alloc _).below hb1 (by simp; omega)
    have hq3 := (qbox_next (w.alloc (.cells #[.int .i64 L, .slice A s.F.length c, .int .i64 s.T, .bool s.C] 31)) (.cells #[.int .u8 kd, .slice X N.length d, .int .i64 V, .int .u8 E] 53) (.int .i64 0) (.slice none 0 0) (.int .i64 0) (.bool false)).below hb1 (by simp)
    have q1 := (hb1.cell (p := ⟨w.heap.size + 1, 1, none⟩) (by simp)).trans ((World.cell?_alloc_lt _ _ _ (by simp)).trans (abox_next w (.cells #[.int .i64 L, .slice A s.F.length c, .int .i64 s.T, .bool s.C] 31) #[.int .u8 kd, .slice X N.length d, .int .i64 V, .int .u8 E] 1))
    have q2 := (hb1.cell (p := ⟨w.heap.size + 1, 2, none⟩) (by simp)).trans ((World.cell?_alloc_lt _ _ _ (by simp)).trans (abox_next w (.cells #[.int .i64 L, .slice A s.F.length c, .int .i64 s.T, .bool s.C] 31) #[.int .u8 kd, .slice X N.length d, .int .i64 V, .int .u8 E] 2))
    have q3 := (hb1.cell (p := ⟨w.heap.size + 1, 3, none⟩) (by simp)).trans ((World.cell?_alloc_lt _ _ _ (by simp)).trans (abox_next w (.cells #[.int .i64 L, .slice A s.F.length c, .int .i64 s.T, .bool s.C] 31) #[.int .u8 kd, .slice X N.length d, .int .i64 V, .int .u8 E] 3))
    simp at q1 q2 q3
    rw [World.size_alloc] at hq3
    have hb := ((((Below.refl w.heap.size w).alloc (Nat.le_refl _) (.cells #[.int .i64 L, .slice A s.F.length c, .int .i64 s.T, .bool s.C] 31)).alloc (by simp) (.cells #[.int .u8 kd, .slice X N.length d, .int .i64 V, .int .u8 E] 53)).alloc (by simp; omega) (.cells #[.int .i64 0, .slice none 0 0, .int .i64 0, .bool false] 31)).trans (hb1.mono (by simp; omega))
    obtain ⟨b1, e1⟩ : ∃ b1, w.heap.size = b1 := ⟨_, rfl⟩
    obtain ⟨b2, e2⟩ : ∃ b2, b1 + 1 = b2 := ⟨_, rfl⟩
    obtain ⟨b3, e3⟩ : ∃ b3, b2 + 1 = b3 := ⟨_, rfl⟩
    have n12 : b1 ≠ b2 := by omega
    have n13 : b1 ≠ b3 := by omega
    have n23 : b2 ≠ b3 := by omega
    have HB := Lib.hid hb
    clear hb1 hb
    simp only [e1, e2, e3] at hq1 hq3 q1 q2 q3 ⊢
    have E1 := Lib.hid e1
    have E2 := Lib.hid e2
    have E3 := Lib.hid e3
    have HQ1 := Lib.hid hq1
    have HQ3 := Lib.hid hq3
    have k0 := hq1.c0
    have k1 := hq1.c1
    have k2 := hq1.c2
    have k3 := hq1.c3
    clear hq1 hq3 e1 e2 e3
    go_wp2_with fail
    refine ((HC _ HB.out).out).mono ?_
    rintro e w2 ⟨a, d2, rfl, hp, hb2⟩
    have FIN : ∀ wf, Rest (fun j => j = b3) w2 wf → Wanted L A s.F.length c s 4 N V E w (.returned (.tuple #[.agg #[.int .i64 L, .slice A s.F.length c, .int .i64 (T' : Nat), .bool s.C], .slice a out.length d2, .int .i64 code])) wf := fun wf hf => by
      have hsz := HB.out.size
      have hsz2 := hb2.size
      have z1 := E1.out
      have z2 := E2.out
      have z3 := E3.out
      have hl3 := HQ3.out.lt
      have hbf : Below w.heap.size w wf := (HB.out.trans (hb2.mono hsz)).trans (hf.toBelow w.heap.size (by omega) (fun i hi e => by omega))
      have hN : (s.next L 4 N V E) = ⟨s.F, T', s.C⟩ := by rw [← HT.out]; rfl
      unfold Wanted
      rw [hN]
      refine ⟨A, c, a, d2, ?_, ?_, HH.out.below hbf HH.out.lt, hc, fun j hj => .inl hj, hbf, ?_⟩
      · rw [← HCD.out, ← HO.out]; rfl
      · have ho : s.out L 4 V E = out := HO.out
        rw [ho]
        exact hp.1.rest hf (fun j hj e => by have := HH.out.lt j (hp.2.2 j hj); omega)
      · have ho : s.out L 4 V E = out := HO.out
        rw [ho]
        exact fun j hj => hp.2.2 j hj
    have FIN := Lib.hid FIN
    have HB2 := Lib.hid hb2
    clear hp hb2 k0 k1 k2 k3 q1 q2 q3
    have hq1 := HQ1.out.below HB2.out HQ1.out.lt
    have hq3 := HQ3.out.below HB2.out HQ3.out.lt
    have k0 := hq1.c0
    have k1 := hq1.c1
    have k2 := hq1.c2
    have k3 := hq1.c3
    have l0 := hq3.c0
    have l1 := hq3.c1
    have l2 := hq3.c2
    have l3 := hq3.c3
    have g0 := hq3.fr 0
    have g1 := hq3.fr 1
    have g2 := hq3.fr 2
    have g3 := hq3.fr 3
    have l0' := fun o => (hq3.alloc o).c0
    have l1' := fun o => (hq3.alloc o).c1
    have l2' := fun o => (hq3.alloc o).c2
    have l3' := fun o => (hq3.alloc o).c3
    have g0' := fun o => (hq3.alloc o).fr 0
    have g1' := fun o => (hq3.alloc o).fr 1
    have g2' := fun o => (hq3.alloc o).fr 2
    have g3' := fun o => (hq3.alloc o).fr 3
    clear hq1 hq3
    go_wp2
    (try simp only [Exit.inBlock, Exit.then]); refine bodyPost_ret (by simp [results, Try.results29, go_sem, *]; try rfl) rfl ?_
    refine FIN.out _ ?_
    repeat' first | exact Rest.refl _ _ | refine Rest.setCell (S := fun j => j = b3) (p := ⟨b3, _, none⟩) ?_ (fun _ => rfl) _ | refine Rest.alloc ?_ _
  · go_enter Try.func29, Try.ntmps29
    go_wp2_with fail
    refine ((HK _).out).mono ?_
    rintro e w1 ⟨rfl, hb1⟩
    have hq1 := (((qbox_new w (.int .i64 L) (.slice A s.F.length c) (.int .i64 s.T) (.bool s.C)).alloc _).alloc _).below hb1 (by simp; omega)
    have hq3 := (qbox_next (w.alloc (.cells #[.int .i64 L, .slice A s.F.length c, .int .i64 s.T, .bool s.C] 31)) (.cells #[.int .u8 kd, .slice X N.length d, .int .i64 V, .int .u8 E] 53) (.int .i64 0) (.slice none 0 0) (.int .i64 0) (.bool false)).below hb1 (by simp)
    have q1 := (hb1.cell (p := ⟨w.heap.size + 1, 1, none⟩) (by simp)).trans ((World.cell?_alloc_lt _ _ _ (by simp)).trans (abox_next w (.cells #[.int .i64 L, .slice A s.F.length c, .int .i64 s.T, .bool s.C] 31) #[.int .u8 kd, .slice X N.length d, .int .i64 V, .int .u8 E] 1))
    have q2 := (hb1.cell (p := ⟨w.heap.size + 1, 2, none⟩) (by simp)).trans ((World.cell?_alloc_lt _ _ _ (by simp)).trans (abox_next w (.cells #[.int .i64 L, .slice A s.F.length c, .int .i64 s.T, .bool s.C] 31) #[.int .u8 kd, .slice X N.length d, .int .i64 V, .int .u8 E] 2))
    have q3 := (hb1.cell (p := ⟨w.heap.size + 1, 3, none⟩) (by simp)).trans ((World.cell?_alloc_lt _ _ _ (by simp)).trans (abox_next w (.cells #[.int .i64 L, .slice A s.F.length c, .int .i64 s.T, .bool s.C] 31) #[.int .u8 kd, .slice X N.length d, .int .i64 V, .int .u8 E] 3))
    simp at q1 q2 q3
    rw [World.size_alloc] at hq3
    have hb := ((((Below.refl w.heap.size w).alloc (Nat.le_refl _) (.cells #[.int .i64 L, .slice A s.F.length c, .int .i64 s.T, .bool s.C] 31)).alloc (by simp) (.cells #[.int .u8 kd, .slice X N.length d, .int .i64 V, .int .u8 E] 53)).alloc (by simp; omega) (.cells #[.int .i64 0, .slice none 0 0, .int .i64 0, .bool false] 31)).trans (hb1.mono (by simp; omega))
    obtain ⟨b1, e1⟩ : ∃ b1, w.heap.size = b1 := ⟨_, rfl⟩
    obtain ⟨b2, e2⟩ : ∃ b2, b1 + 1 = b2 := ⟨_, rfl⟩
    obtain ⟨b3, e3⟩ : ∃ b3, b2 + 1 = b3 := ⟨_, rfl⟩
    have n12 : b1 ≠ b2 := by omega
    have n13 : b1 ≠ b3 := by omega
    have n23 : b2 ≠ b3 := by omega
    have HB := Lib.hid hb
    clear hb1 hb
    simp only [e1, e2, e3] at hq1 hq3 q1 q2 q3 ⊢
    have E1 := Lib.hid e1
    have E2 := Lib.hid e2
    have E3 := Lib.hid e3
    have HQ1 := Lib.hid hq1
    have HQ3 := Lib.hid hq3
    have k0 := hq1.c0
    have k1 := hq1.c1
    have k2 := hq1.c2
    have k3 := hq1.c3
    clear hq1 hq3 e1 e2 e3
    have FIN : ∀ wf, Rest (fun j => j = b3) w1 wf → Wanted L A s.F.length c s 5 N V E w (.returned (.tuple #[.agg #[.int .i64 L, .slice A s.F.length c, .int .i64 s.T, .bool s.C], .slice none 0 0, .int .i64 0])) wf := fun wf hf => by
      have hsz := HB.out.size
      have z1 := E1.out
      have z2 := E2.out
      have z3 := E3.out
      have hbf : Below w.heap.size w wf := HB.out.trans (hf.toBelow w.heap.size (by omega) (fun i hi e => by omega))
      exact ⟨A, c, none, 0, rfl, .inl ⟨rfl, rfl⟩, HH.out.below hbf HH.out.lt, hc, fun j hj => .inl hj, hbf, nil_own⟩
    have FIN := Lib.hid FIN
    have hq3 := HQ3.out
    have l0 := hq3.c0
    have l1 := hq3.c1
    have l2 := hq3.c2
    have l3 := hq3.c3
    have g0 := hq3.fr 0
    have g1 := hq3.fr 1
    have g2 := hq3.fr 2
    have g3 := hq3.fr 3
    clear hq3
    go_wp2
    (try simp only [Exit.inBlock, Exit.then]); refine bodyPost_ret (by simp [results, Try.results29, go_sem, *]; try rfl) rfl ?_
    refine FIN.out _ ?_
    repeat' first | exact Rest.refl _ _ | refine Rest.setCell (S := fun j => j = b3) (p := ⟨b3, _, none⟩) ?_ (fun _ => rfl) _ | refine Rest.alloc ?_ _
  · obtain ⟨code, hcd⟩ : ∃ code : Int, (if s.C then (8 : Int) else 0) = code := ⟨_, rfl⟩
    have HC := fun wx => Lib.hid (refClose_any L s.F.length c s.T A s.C wx)
    simp only [hcd] at HC
    have HCD := Lib.hid hcd
    clear hcd
    go_enter Try.func29, Try.ntmps29
    go_wp2_with fail
    refine ((HK _).out).mono ?_
    rintro e w1 ⟨rfl, hb1⟩
    have hq1 := (((qbox_new w (.int .i64 L) (.slice A s.F.length c) (.int .i64 s.T) (.bool s.C)).alloc _).alloc _).below hb1 (by simp; omega)
    have hq3 := (qbox_next (w.alloc (.cells #[.int .i64 L, .slice A s.F.length c, .int .i64 s.T, .bool s.C] 31)) (.cells #[.int .u8 kd, .slice X N.length d, .int .i64 V, .int .u8 E] 53) (.int .i64 0) (.slice none 0 0) (.int .i64 0) (.bool false)).below hb1 (by simp)
    have q1 := (hb1.cell (p := ⟨w.heap.size + 1, 1, none⟩) (by simp)).trans ((World.cell?_alloc_lt _ _ _ (by simp)).trans (abox_next w (.cells #[.int .i64 L, .slice A s.F.length c, .int .i64 s.T, .bool s.C] 31) #[.int .u8 kd, .slice X N.length d, .int .i64 V, .int .u8 E] 1))
    have q2 := (hb1.cell (p := ⟨w.heap.size + 1, 2, none⟩) (by simp)).trans ((World.cell?_alloc_lt _ _ _ (by simp)).trans (abox_next w (.cells #[.int .i64 L, .slice A s.F.length c, .int .i64 s.T, .bool s.C] 31) #[.int .u8 kd, .slice X N.length d, .int .i64 V, .int .u8 E] 2))
    have q3 := (hb1.cell (p := ⟨w.heap.size + 1, 3, none⟩) (by simp)).trans ((World.cell?_alloc_lt _ _ _ (by simp)).trans (abox_next w (.cells #[.int .i64 L, .slice A s.F.length c, .int .i64 s.T, .bool s.C] 31) #[.int .u8 kd, .slice X N.length d, .int .i64 V, .int .u8 E] 3))
    simp at q1 q2 q3
    rw [World.size_alloc] at hq3
    have hb := ((((Below.refl w.heap.size w).alloc (Nat.le_refl _) (.cells #[.int .i64 L, .slice A s.F.length c, .int .i64 s.T, .bool s.C] 31)).alloc (by simp) (.cells #[.int .u8 kd, .slice X N.length d, .int .i64 V, .int .u8 E] 53)).alloc (by simp; omega) (.cells #[.int .i64 0, .slice none 0 0, .int .i64 0, .bool false] 31)).trans (hb1.mono (by simp; omega))
    obtain ⟨b1, e1⟩ : ∃ b1, w.heap.size = b1 := ⟨_, rfl⟩
    obtain ⟨b2, e2⟩ : ∃ b2, b1 + 1 = b2 := ⟨_, rfl⟩
    obtain ⟨b3, e3⟩ : ∃ b3, b2 + 1 = b3 := ⟨_, rfl⟩
    have n12 : b1 ≠ b2 := by omega
    have n13 : b1 ≠ b3 := by omega
    have n23 : b2 ≠ b3 := by omega
    have HB := Lib.hid hb
    clear hb1 hb
    simp only [e1, e2, e3] at hq1 hq3 q1 q2 q3 ⊢
    have E1 := Lib.hid e1
    have E2 := Lib.hid e2
    have E3 := Lib.hid e3
    have HQ1 := Lib.hid hq1
    have HQ3 := Lib.hid hq3
    have k0 := hq1.c0
    have k1 := hq1.c1
    have k2 := hq1.c2
    have k3 := hq1.c3
    clear hq1 hq3 e1 e2 e3
    go_wp2_with fail
    refine ((HC _).out).mono ?_
    rintro e w2 ⟨rfl, hb2⟩
    have FIN : ∀ wf, Rest (fun j => j = b3) w2 wf → Wanted L A s.F.length c s 6 N V E w (.returned (.tuple #[.agg #[.int .i64 L, .slice A s.F.length c, .int .i64 s.T, .bool true], .slice none 0 0, .int .i64 code])) wf := fun wf hf => by
      have hsz := HB.out.size
      have hsz2 := hb2.size
      have z1 := E1.out
      have z2 := E2.out
      have z3 := E3.out
      have hl3 := HQ3.out.lt
      have hbf : Below w.heap.size w wf := (HB.out.trans (hb2.mono hsz)).trans (hf.toBelow w.heap.size (by omega) (fun i hi e => by omega))
      have hN : (s.next L 6 N V E) = ⟨s.F, s.T, true⟩ := rfl
      unfold Wanted
      rw [hN]
      refine ⟨A, c, none, 0, ?_, .inl ⟨rfl, rfl⟩, HH.out.below hbf HH.out.lt, hc, fun j hj => .inl hj, hbf, nil_own⟩
      rw [← HCD.out]; rfl
    have FIN := Lib.hid FIN
    have HB2 := Lib.hid hb2
    clear hb2 k0 k1 k2 k3 q1 q2 q3
    have hq1 := HQ1.out.below HB2.out HQ1.out.lt
    have hq3 := HQ3.out.below HB2.out HQ3.out.lt
    have k0 := hq1.c0
    have k1 := hq1.c1
    have k2 := hq1.c2
    have k3 := hq1.c3
    have l0 := hq3.c0
    have l1 := hq3.c1
    have l2 := hq3.c2
    have l3 := hq3.c3
    have g0 := hq3.fr 0
    have g1 := hq3.fr 1
    have g2 := hq3.fr 2
    have g3 := hq3.fr 3
    have l0' := fun o => (hq3.alloc o).c0
    have l1' := fun o => (hq3.alloc o).c1
    have l2' := fun o => (hq3.alloc o).c2
    have l3' := fun o => (hq3.alloc o).c3
    have g0' := fun o => (hq3.alloc o).fr 0
    have g1' := fun o => (hq3.alloc o).fr 1
    have g2' := fun o => (hq3.alloc o).fr 2
    have g3' := fun o => (hq3.alloc o).fr 3
    clear hq1 hq3
    go_wp2
    (try simp only [Exit.inBlock, Exit.then]); refine bodyPost_ret (by simp [results, Try.results29, go_sem, *]; try rfl) rfl ?_
    refine FIN.out _ ?_
    repeat' first | exact Rest.refl _ _ | refine Rest.setCell (S := fun j => j = b3) (p := ⟨b3, _, none⟩) ?_ (fun _ => rfl) _ | refine Rest.alloc ?_ _
end Go.Proofs.Ytociidinfdbaeaa
