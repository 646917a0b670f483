/- scan, Scan: the tokens of a text with their places, or the place and the error. Conditions: the text has at most 1048576 bytes. -/
import Derived.Test.YtgdjfifnnhfonaaN
namespace Go.Proofs.Ytgdjfifnnhfonaa
open Go.RowKit Go.Shelf

/-- What scan answers. -/
def ScanR (r : SRes) (w : World) (e : Ending) (w' : World) : Prop :=
  Below w.heap.size w w' ∧ match r with
  | .ok ts q => ∃ v, e = .returned (.tuple #[v, .agg #[.int .i64 q.1, .int .i64 q.2], .int .i64 0]) ∧ w'.ownsRow w.heap.size 36 5 v ts.length (tokCells ts)
  | .bad q c => e = .returned (.tuple #[.slice none 0 0, .agg #[.int .i64 q.1, .int .i64 q.2], .int .i64 c])

theorem r3_set {W : World} {lb : Nat} {x a b c : Value} (h : R3 W lb x a b c) (x' : Value) :
    R3 (W.setCell ⟨lb, 0, none⟩ x') lb x' a b c ∧ Rest (fun i => i = lb) W (W.setCell ⟨lb, 0, none⟩ x') :=
  ⟨⟨Boxed.set x' h.l, (Below.heap_setCell W ⟨lb, 0, none⟩ x' (lb + 1) (by show lb + 1 ≠ lb; omega)).trans h.p, bother h.e lb 0 (by omega) x'⟩, (Rest.refl (fun i => i = lb) W).setCell (S := fun i => i = lb) (p := ⟨lb, 0, none⟩) (fun _ => rfl) _⟩

theorem r3_all {W : World} {lb : Nat} {x a b c : Value} (h : R3 W lb x a b c) (x' a' b' c' : Value) :
    R3 ((((W.setCell ⟨lb, 0, none⟩ x').setCell ⟨lb + 1, 0, none⟩ a').setCell ⟨lb + 1, 1, none⟩ b').setCell ⟨lb + 2, 0, none⟩ c').drew lb x' a' b' c' ∧
    Rest (fun i => i = lb ∨ i = lb + 1 ∨ i = lb + 2) W ((((W.setCell ⟨lb, 0, none⟩ x').setCell ⟨lb + 1, 0, none⟩ a').setCell ⟨lb + 1, 1, none⟩ b').setCell ⟨lb + 2, 0, none⟩ c').drew := by
  have h1 := (r3_set h x').1
  have t2 := heap_setCell_same _ (lb + 1) 0 _ 25 a' h1.p
  have u2 := heap_setCell_same _ (lb + 1) 1 _ 25 b' t2
  have s1' := bother (bother h1.l (lb + 1) 0 (by omega) a') (lb + 1) 1 (by omega) b'
  have s3' := bother (bother h1.e (lb + 1) 0 (by omega) a') (lb + 1) 1 (by omega) b'
  refine ⟨⟨bother s1' (lb + 2) 0 (by omega) c', (Below.heap_setCell _ ⟨lb + 2, 0, none⟩ c' (lb + 1) (by show lb + 1 ≠ lb + 2; omega)).trans u2, Boxed.set c' s3'⟩, ?_⟩
  exact (((((Rest.refl (fun i => i = lb ∨ i = lb + 1 ∨ i = lb + 2) W).setCell (p := ⟨lb, 0, none⟩) (fun _ => .inl rfl) _).setCell (p := ⟨lb + 1, 0, none⟩) (fun _ => .inr (.inl rfl)) _).setCell (p := ⟨lb + 1, 1, none⟩) (fun _ => .inr (.inl rfl)) _).setCell (p := ⟨lb + 2, 0, none⟩) (fun _ => .inr (.inr rfl)) _).drew

set_option maxRecDepth 100000 in
set_option maxHeartbeats 3200000 in
theorem scan_any (l : List UInt8) (w : World) (h3 : l.length ≤ 1048576) :
    Calls Try.prog 27 #[.string (strL l)] w (ScanR (scanS l) w) := by
  have hb0 := (((((Below.refl w.heap.size w).alloc (Nat.le_refl _) (.cells #[.slice none 0 0] 23)).alloc (by simp) (.cells #[.int .i64 0, .int .i64 0] 25)).alloc (by simp; omega) (.cells #[.int .i64 0] 26)).alloc (by simp; omega) (.cells #[.int .i64 1, .int .i64 1, .string (strL l)] 93))
  obtain ⟨lb, elb⟩ : ∃ lb, w.heap.size = lb := ⟨_, rfl⟩
  have hR0 : R3 ((((w.alloc (.cells #[.slice none 0 0] 23)).alloc (.cells #[.int .i64 0, .int .i64 0] 25)).alloc (.cells #[.int .i64 0] 26)).alloc (.cells #[.int .i64 1, .int .i64 1, .string (strL l)] 93)) lb (.slice none 0 0) (.int .i64 0) (.int .i64 0) (.int .i64 0) := by
    have x1 := (((Boxed.new w 23 (.slice none 0 0)).alloc (.cells #[.int .i64 0, .int .i64 0] 25)).alloc (.cells #[.int .i64 0] 26)).alloc (.cells #[.int .i64 1, .int .i64 1, .string (strL l)] 93)
    have x3 := (Boxed.new ((w.alloc (.cells #[.slice none 0 0] 23)).alloc (.cells #[.int .i64 0, .int .i64 0] 25)) 26 (.int .i64 0)).alloc (.cells #[.int .i64 1, .int .i64 1, .string (strL l)] 93)
    rw [World.size_alloc, World.size_alloc, elb] at x3
    rw [elb] at x1
    have y := heap_alloc_new (w.alloc (.cells #[.slice none 0 0] 23)) (.cells #[.int .i64 0, .int .i64 0] 25)
    rw [World.size_alloc, elb] at y
    refine ⟨x1, ?_, x3⟩
    exact (Below.heap_alloc _ _ _ (by simp; omega)).trans ((Below.heap_alloc _ _ _ (by simp; omega)).trans y)
  have hk0 : KAt ((((w.alloc (.cells #[.slice none 0 0] 23)).alloc (.cells #[.int .i64 0, .int .i64 0] 25)).alloc (.cells #[.int .i64 0] 26)).alloc (.cells #[.int .i64 1, .int .i64 1, .string (strL l)] 93)) (lb + 3) l 1 1 := ⟨by
    have := heap_alloc_new (((w.alloc (.cells #[.slice none 0 0] 23)).alloc (.cells #[.int .i64 0, .int .i64 0] 25)).alloc (.cells #[.int .i64 0] 26)) (.cells #[.int .i64 1, .int .i64 1, .string (strL l)] 93)
    rw [World.size_alloc, World.size_alloc, World.size_alloc, elb] at this
    exact this⟩
  have hsz : ((((w.alloc (.cells #[.slice none 0 0] 23)).alloc (.cells #[.int .i64 0, .int .i64 0] 25)).alloc (.cells #[.int .i64 0] 26)).alloc (.cells #[.int .i64 1, .int .i64 1, .string (strL l)] 93)).heap.size = lb + 4 := by simp; omega
  obtain ⟨w1, hw1⟩ : ∃ w1, (((w.alloc (.cells #[.slice none 0 0] 23)).alloc (.cells #[.int .i64 0, .int .i64 0] 25)).alloc (.cells #[.int .i64 0] 26)).alloc (.cells #[.int .i64 1, .int .i64 1, .string (strL l)] 93) = w1 := ⟨_, rfl⟩
  rw [hw1] at hb0 hR0 hk0 hsz
  obtain ⟨R, hR⟩ : ∃ R, scanS l = R := ⟨_, rfl⟩
  have htk := tokens_any (lb + 3) 1 1 (l.length + 1) l w1 hk0 (by omega) (by omega) (by omega) (by omega) h3
  change Calls Try.prog 50 _ w1 (ToksR (scanS l) w1 (lb + 3)) at htk
  rw [hR] at htk ⊢
  have HTK := Lib.hid htk
  have HW1 := Lib.hid hw1
  have HB0 := Lib.hid hb0
  have HR0 := Lib.hid hR0
  have HSZ := Lib.hid hsz
  have ELB := Lib.hid elb
  clear htk hw1 hb0 hR0 hk0 hsz elb hR
  have hmf : ∀ (fn : Fn) (first cap : Array Value) (w : World), (Instr.makeFunc fn first cap).run Try.prog w = .ok (.func fn first cap) w := fun _ _ _ _ => rfl
  go_enter_defers Try.func27, Try.ntmps27
  go_wp2_with fail
  rw [HW1.out, ELB.out]
  refine HTK.out.mono ?_
  rintro e w2 ⟨hr2, hm⟩
  have hR2 := HR0.out.rest hr2 (by omega) (by omega) (by omega)
  have hb2 : Below lb w w2 := by
    have := HB0.out
    rw [ELB.out] at this
    exact this.trans (hr2.toBelow lb (by have := HSZ.out; omega) (fun i hi e => by omega))
  cases R with
  | bad q c =>
    unfold Fails at hm
    subst hm
    refine leaves_cons (f := 49) (args := #[.pointer (some ⟨lb, 0, none⟩), .pointer (some ⟨lb + 1, 0, none⟩), .pointer (some ⟨lb + 2, 0, none⟩)]) (by simp) (by simp [go_sem]) ?_
    refine (scan1_panicking lb q c [] _ _ _ _ w2 hR2).mono ?_
    rintro e u' w3 ⟨rfl, rfl, hR3, hr3⟩
    have l0 := hR3.l.cell
    have p0 := hR3.p0
    have p1 := hR3.p1
    have e0 := hR3.e.cell
    have hb3 : Below lb w w3 := hb2.trans (hr3.toBelow lb (by have := hb2.size; have := ELB.out; omega) (fun i hi e => by omega))
    rw [← ELB.out] at hb3
    have HB3 := Lib.hid hb3
    clear hb3 hb2 hr3 hR3 hR2 hr2
    have e1 : w3.cell? ⟨lb + 1 + 1, 0, none⟩ = some (.int .i64 c) := e0
    refine ⟨_, ?_, HB3.out, rfl⟩
    simp [results, Try.results27, go_sem, l0, p0, p1, e1, e0]
  | ok ts q =>
    obtain ⟨v, rfl, hrow, hk2⟩ := hm
    obtain ⟨A, c, rfl⟩ := row_shape hrow
    obtain ⟨hs1, hs2⟩ := r3_set hR2 (.slice A ts.length c)
    have l0 := hR2.l.cell
    have l1 := hR2.l.frozen
    have ROW := Lib.hid hrow
    have K2 := Lib.hid hk2
    have B2 := Lib.hid hb2
    have S1 := Lib.hid hs1
    have S2 := Lib.hid hs2
    clear hrow hk2 hb2 hs1 hs2 hR2 hr2
    go_upto_region 4 with fail
    have hr3 := S1.out
    have l0 := hr3.l.cell
    have l1 := hr3.l.frozen
    have p2 := hr3.pf 0
    have p3 := hr3.pf 1
    have p0 := hr3.p0
    have p1 := hr3.p1
    have e0 : (w2.setCell ⟨lb, 0, none⟩ (.slice A ts.length c)).cell? ⟨lb + 1 + 1, 0, none⟩ = some (.int .i64 0) := hr3.e.cell
    have e1 : (w2.setCell ⟨lb, 0, none⟩ (.slice A ts.length c)).frozen? ⟨lb + 1 + 1, 0, none⟩ = false := hr3.e.frozen
    have hk3 := K2.out.rest S2.out (by omega)
    have k0 : (w2.setCell ⟨lb, 0, none⟩ (.slice A ts.length c)).cell? ⟨lb + 1 + 1 + 1, 0, none⟩ = some (.int .i64 q.1) := hk3.c0
    have k1 : (w2.setCell ⟨lb, 0, none⟩ (.slice A ts.length c)).cell? ⟨lb + 1 + 1 + 1, 1, none⟩ = some (.int .i64 q.2) := hk3.c1
    have S3 := Lib.hid hr3
    clear hk3 hr3
    generalize w2.setCell ⟨lb, 0, none⟩ (.slice A ts.length c) = w3 at l0 l1 p0 p1 p2 p3 e0 e1 k0 k1 S1 S2 S3 ⊢
    go_region
    have t1 : R3 ((((w3.setCell ⟨lb, 0, none⟩ (.slice A ts.length c)).setCell ⟨lb + 1, 0, none⟩ (.int .i64 q.1)).setCell ⟨lb + 1, 1, none⟩ (.int .i64 q.2)).setCell ⟨lb + 1 + 1, 0, none⟩ (.int .i64 0)).drew lb (.slice A ts.length c) (.int .i64 q.1) (.int .i64 q.2) (.int .i64 0) := (r3_all S3.out (.slice A ts.length c) (.int .i64 q.1) (.int .i64 q.2) (.int .i64 0)).1
    have t2 : Rest (fun i => i = lb ∨ i = lb + 1 ∨ i = lb + 2) w3 ((((w3.setCell ⟨lb, 0, none⟩ (.slice A ts.length c)).setCell ⟨lb + 1, 0, none⟩ (.int .i64 q.1)).setCell ⟨lb + 1, 1, none⟩ (.int .i64 q.2)).setCell ⟨lb + 1 + 1, 0, none⟩ (.int .i64 0)).drew := (r3_all S3.out (.slice A ts.length c) (.int .i64 q.1) (.int .i64 q.2) (.int .i64 0)).2
    generalize ((((w3.setCell ⟨lb, 0, none⟩ (.slice A ts.length c)).setCell ⟨lb + 1, 0, none⟩ (.int .i64 q.1)).setCell ⟨lb + 1, 1, none⟩ (.int .i64 q.2)).setCell ⟨lb + 1 + 1, 0, none⟩ (.int .i64 0)).drew = w4 at t1 t2 ⊢
    have T1 := Lib.hid t1
    have T2 := Lib.hid t2
    clear t1 t2 l0 l1 p0 p1 p2 p3 e0 e1 k0 k1
    go_wp2_with fail
    refine leaves_cons (f := 49) (args := #[.pointer (some ⟨lb, 0, none⟩), .pointer (some ⟨lb + 1, 0, none⟩), .pointer (some ⟨lb + 2, 0, none⟩)]) (by simp) (by simp [go_sem]) ?_
    refine (scan1_idle lb w4).mono ?_
    rintro e u' w5 ⟨rfl, rfl, hb5⟩
    have hR5 := T1.out.rest (S := fun _ => False) (Rest.below hb5) (fun e => e) (fun e => e) (fun e => e)
    have hr25 : Rest (fun i => i = lb ∨ i = lb + 1 ∨ i = lb + 2) w2 w5 := (((Rest.refl (fun i => i = lb ∨ i = lb + 1 ∨ i = lb + 2) w2).trans S2.out (fun _ _ e => .inl e)).trans T2.out (fun _ _ e => e)).trans (Rest.below (S := fun _ => False) hb5) (fun _ _ e => e.elim)
    have hrow5 := hr25.row ROW.out (fun k hk e => by have := row_ge ROW.out k hk; have := HSZ.out; omega)
    have hbw : Below w.heap.size w w5 := by
      rw [ELB.out]
      exact B2.out.trans (hr25.toBelow lb (by have := B2.out.size; have := ELB.out; omega) (fun i hi e => by omega))
    have l0 := hR5.l.cell
    have p0 := hR5.p0
    have p1 := hR5.p1
    have e1 : w5.cell? ⟨lb + 1 + 1, 0, none⟩ = some (.int .i64 0) := hR5.e.cell
    have HBW := Lib.hid hbw
    have HROW5 := Lib.hid hrow5
    clear hR5 hr25 hrow5 hbw hb5
    refine ⟨_, ?_, HBW.out, _, rfl, Joins.ownsRow_le HROW5.out (by have := HSZ.out; have := ELB.out; omega)⟩
    simp [results, Try.results27, go_sem, l0, p0, p1, e1]
end Go.Proofs.Ytgdjfifnnhfonaa
