/- The recovery of an examination: the flaw that a panic carried out. Conditions: the results lie in memory. Check, Valid and HasValue, from examine's contract. No conditions beyond it. -/
import Derived.Test.YtbpkppmbbpoohaaGreatJg
import Derived.Defers
import Derived.Recover
import Derived.Laws.Pointers
namespace Go.Proofs.YtbpkppmbbpoohaaGreat
open Go.RowKit Go.Shelf

theorem bother {W : World} {B t : Nat} {v : Value} (h : Boxed W B t v) (c o : Nat) (hn : B ≠ c) (u : Value) : Boxed (W.setCell ⟨c, o, none⟩ u) B t v := (Below.heap_setCell W ⟨c, o, none⟩ u B hn).trans h

/-- The flaw and whether there is one, in variables. -/
structure F2 (W : World) (lb : Nat) (a b c f : Value) : Prop where
  p : W.heap[lb]? = some (.cells #[a, b, c] 30 (0, 0))
  e : Boxed W (lb + 1) 4 f
section
variable {W W' : World} {lb : Nat} {a b c f : Value}
theorem F2.p0 (h : F2 W lb a b c f) : W.cell? ⟨lb, 0, none⟩ = some a := by simp [World.cell?, h.p]
theorem F2.p1 (h : F2 W lb a b c f) : W.cell? ⟨lb, 1, none⟩ = some b := by simp [World.cell?, h.p]
theorem F2.p2 (h : F2 W lb a b c f) : W.cell? ⟨lb, 2, none⟩ = some c := by simp [World.cell?, h.p]
theorem F2.pf (h : F2 W lb a b c f) (o : Nat) : W.frozen? ⟨lb, o, none⟩ = false := by simp [World.frozen?, h.p]
theorem F2.lt (h : F2 W lb a b c f) : lb < W.heap.size := (Array.getElem?_eq_some_iff.1 h.p).1
theorem F2.rest {S : Nat → Prop} (h : F2 W lb a b c f) (hr : Rest S W W') (h0 : ¬ S lb) (h1 : ¬ S (lb + 1)) : F2 W' lb a b c f :=
  ⟨(hr.block lb h.lt h0).trans h.p, boxed_rest h.e hr h1⟩
theorem F2.set (h : F2 W lb a b c f) (a' b' c' f' : Value) : F2 ((((W.setCell ⟨lb, 0, none⟩ a').setCell ⟨lb, 1, none⟩ b').setCell ⟨lb, 2, none⟩ c').setCell ⟨lb + 1, 0, none⟩ f') lb a' b' c' f' ∧
    Rest (fun i => i = lb ∨ i = lb + 1) W ((((W.setCell ⟨lb, 0, none⟩ a').setCell ⟨lb, 1, none⟩ b').setCell ⟨lb, 2, none⟩ c').setCell ⟨lb + 1, 0, none⟩ f') := by
  have t0 := heap_setCell_same W lb 0 _ 30 a' h.p
  have t1 := heap_setCell_same _ lb 1 _ 30 b' t0
  have t2 := heap_setCell_same _ lb 2 _ 30 c' t1
  have s3 := bother (bother (bother h.e lb 0 (by omega) a') lb 1 (by omega) b') lb 2 (by omega) c'
  refine ⟨⟨(Below.heap_setCell _ ⟨lb + 1, 0, none⟩ f' lb (by show lb ≠ lb + 1; omega)).trans t2, Boxed.set f' s3⟩, ?_⟩
  exact ((((Rest.refl (fun i => i = lb ∨ i = lb + 1) W).setCell (S := fun i => i = lb ∨ i = lb + 1) (p := ⟨lb, 0, none⟩) (fun _ => .inl rfl) _).setCell (S := fun i => i = lb ∨ i = lb + 1) (p := ⟨lb, 1, none⟩) (fun _ => .inl rfl) _).setCell (S := fun i => i = lb ∨ i = lb + 1) (p := ⟨lb, 2, none⟩) (fun _ => .inl rfl) _).setCell (S := fun i => i = lb ∨ i = lb + 1) (p := ⟨lb + 1, 0, none⟩) (fun _ => .inr rfl) _
end

theorem ta_some (v : Value) (w : World) : (Instr.typeAssert (.iface 30 v) 20 30 true).run Tryz.prog w = .ok (.tuple #[v, .bool true]) w := by
  simp [Instr.typeAssert, go_sem]
theorem ta_nil (w : World) : (Instr.typeAssert .nilIface 20 30 true).run Tryz.prog w = .ok (.tuple #[.agg #[.int .i64 0, .int .i64 0, .int .i64 0], .bool false]) w := by
  simp [Instr.typeAssert, go_sem]

set_option maxRecDepth 100000 in
set_option maxHeartbeats 1600000 in
theorem recover_flaw (lb : Nat) (m f cd : Int) (older : List PanicEntry) (a b c g : Value) (w : World) (h : F2 w lb a b c g) :
    CallsD Tryz.prog 78 #[.pointer (some ⟨lb, 0, none⟩), .pointer (some ⟨lb + 1, 0, none⟩)] (.panicking ({ v := .iface 30 (.agg #[.int .i64 m, .int .i64 f, .int .i64 cd]), recovered := false } :: older)) w fun e u' w' =>
      e = .returned (.tuple #[]) ∧ u' = .panicking ({ v := .iface 30 (.agg #[.int .i64 m, .int .i64 f, .int .i64 cd]), recovered := true } :: older) ∧ F2 w' lb (.int .i64 m) (.int .i64 f) (.int .i64 cd) (.bool true) ∧ Rest (fun i => i = lb ∨ i = lb + 1) w w' := by
  refine callsD_of_wpS Tryz.func78 rfl fun c₀ cs hu => ?_
  simp only [Tryz.ntmps78, List.size_toArray, List.length_cons, List.length_nil, Nat.reduceAdd, Nat.reduceSub, Array.replicate_succ, Array.replicate_zero, List.push_toArray, List.append_toArray, List.nil_append, List.cons_append]
  have x0 := h.p0
  have x1 := h.p1
  have x2 := h.p2
  have f0 := h.pf 0
  have f1 := h.pf 1
  have f2 := h.pf 2
  have e0 := h.e.cell
  have e1 := h.e.frozen
  have HS := Lib.hid (h.set (.int .i64 m) (.int .i64 f) (.int .i64 cd) (.bool true))
  clear h
  apply wpS_region
  simp [wpOpsS, go_sem, recoverD, hu, ta_some, x0, x1, x2, f0, f1, f2, e0, e1]
  exact ⟨rfl, _, rfl, _, by simp [results, Tryz.results78], rfl, rfl, HS.out.1, HS.out.2⟩

set_option maxRecDepth 100000 in
set_option maxHeartbeats 1600000 in
theorem recover_none (lb : Nat) (a b c g : Value) (w : World) (h : F2 w lb a b c g) :
    CallsD Tryz.prog 78 #[.pointer (some ⟨lb, 0, none⟩), .pointer (some ⟨lb + 1, 0, none⟩)] .returning w fun e u' w' =>
      e = .returned (.tuple #[]) ∧ u' = .returning ∧ F2 w' lb (.int .i64 0) (.int .i64 0) (.int .i64 0) (.bool false) ∧ Rest (fun i => i = lb ∨ i = lb + 1) w w' := by
  refine callsD_of_wpS Tryz.func78 rfl fun c₀ cs hu => ?_
  simp only [Tryz.ntmps78, List.size_toArray, List.length_cons, List.length_nil, Nat.reduceAdd, Nat.reduceSub, Array.replicate_succ, Array.replicate_zero, List.push_toArray, List.append_toArray, List.nil_append, List.cons_append]
  have x0 := h.p0
  have x1 := h.p1
  have x2 := h.p2
  have f0 := h.pf 0
  have f1 := h.pf 1
  have f2 := h.pf 2
  have e0 := h.e.cell
  have e1 := h.e.frozen
  have HS := Lib.hid (h.set (.int .i64 0) (.int .i64 0) (.int .i64 0) (.bool false))
  clear h
  apply wpS_region
  simp [wpOpsS, go_sem, recoverD, hu, ta_nil, x0, x1, x2, f0, f1, f2, e0, e1]
  refine ⟨rfl, .returning, ?_, _, by simp [results, Tryz.results78], rfl, rfl, HS.out.1, HS.out.2⟩
  cases c₀
  simp_all

/-- What examine answers. -/
def ExPost (r : Option (Int × Int × Int)) (E : Nats) (w : World) (e : Ending) (w' : World) : Prop :=
  Below w.heap.size w w' ∧ match r with
  | none => ∃ kr, w.heap.size ≤ kr ∧ e = .returned (.tuple #[.map (some kr), .agg #[.int .i64 0, .int .i64 0, .int .i64 0], .bool false]) ∧ MapAt w' kr (natE E)
  | some p => e = .returned (.tuple #[.map none, .agg #[.int .i64 p.1, .int .i64 p.2.1, .int .i64 p.2.2], .bool true])

theorem slAt_msgs {S : Nat → Prop} {W : World} {A : Option Addr} {c N : Nat} {D : List MsgD} (h : SlAt MsgD.cells 2 S W A c D) (hN : W.heap.size ≤ N) : SlAt MsgD.cells 2 (fun i => N ≤ i) W A c D := by
  refine ⟨h.1, h.2.1, fun i d hi => ?_⟩
  obtain ⟨g, o, h1, _, h3⟩ := h.2.2 i d hi
  have := World.block_lt_of_cell? _ _ (h3 0 (.string (strL d.name)) rfl)
  exact ⟨g, o, h1, by simp only at this ⊢; omega, h3⟩

set_option maxRecDepth 100000 in
set_option maxHeartbeats 6400000 in
theorem examine_any (nm st : List UInt8) (A : Option Addr) (c : Nat) (D : List MsgD) (S : Nat → Prop) (mr : Nats → Nat → MsgD → Option (Int × Int)) (w : World) (h : SlAt MsgD.cells 2 S w A c D)
    (hf : ∀ x kr kk, w.heap.size ≤ x → w.heap.size ≤ kr → x ≠ kr → ∀ i mm wx, D[i]? = some mm → D.length ≤ 60 → msgsR mr [] 0 (D.take i) = none → Below w.heap.size w wx → (∃ A' n' c', ExAt wx x (i : Int) (-1) kr A' n' c' kk) → MapAt wx kr (natE (defE (D.take i))) → MapI wx kk (condE (.pointer (some ⟨x, 0, none⟩))) → kk ≠ x → kk ≠ kr →
      Calls Tryz.prog 117 #[.pointer (some ⟨x, 0, none⟩), mm.agg] wx fun e w' => e = doM (mr (defE (D.take i)) i mm) (i : Int) ∧ Rest (fun k => k = x ∨ k = kr) wx w' ∧ (mr (defE (D.take i)) i mm = none → MapAt w' kr (natE (stepN (defE (D.take i)) mm)) ∧ ∃ A' n' c', ExAt w' x (i : Int) (-1) kr A' n' c' kk)) :
    Calls Tryz.prog 48 #[.agg #[.string (strL nm), .slice A D.length c, .string (strL st)]] w (ExPost (defR mr nm D st) (defE D) w) := by
  obtain ⟨b, eb⟩ : ∃ b, w.heap.size = b := ⟨_, rfl⟩
  obtain ⟨wa, hwa⟩ : ∃ wa, w.alloc (.cells #[.string (strL nm), .slice A D.length c, .string (strL st)] 24) = wa := ⟨_, rfl⟩
  obtain ⟨wb, hwb⟩ : ∃ wb, wa.alloc (.cells #[.int .i64 0, .int .i64 0, .int .i64 0] 30) = wb := ⟨_, rfl⟩
  obtain ⟨w1, hw1⟩ : ∃ w1, wb.alloc (.cells #[.bool false] 4) = w1 := ⟨_, rfl⟩
  obtain ⟨w2, hw2⟩ : ∃ w2, w1.alloc (.map #[] 0) = w2 := ⟨_, rfl⟩
  obtain ⟨w3, hw3⟩ : ∃ w3, w2.alloc (.cells #[.int .i64 0, .int .i64 0, .int .i64 0, .map (some (b + 3)), .slice none 0 0, .map none] 130) = w3 := ⟨_, rfl⟩
  have ba : Below w.heap.size w wa := by rw [← hwa]; exact below_alloc _ _
  have bb : Below wa.heap.size wa wb := by rw [← hwb]; exact below_alloc _ _
  have b1 : Below wb.heap.size wb w1 := by rw [← hw1]; exact below_alloc _ _
  have b2 : Below w1.heap.size w1 w2 := by rw [← hw2]; exact below_alloc _ _
  have b3 : Below w2.heap.size w2 w3 := by rw [← hw3]; exact below_alloc _ _
  have sa : wa.heap.size = b + 1 := by rw [← hwa]; simp; omega
  have sb : wb.heap.size = b + 1 + 1 := by rw [← hwb]; simp; omega
  have s1 : w1.heap.size = b + 3 := by rw [← hw1]; simp; omega
  have s2 : w2.heap.size = b + 4 := by rw [← hw2]; simp; omega
  have s3 : w3.heap.size = b + 5 := by rw [← hw3]; simp; omega
  have hw : ((w.alloc (.cells #[.string (strL nm), .slice A D.length c, .string (strL st)] 24)).alloc (.cells #[.int .i64 0, .int .i64 0, .int .i64 0] 30)).alloc (.cells #[.bool false] 4) = w1 := by rw [hwa, hwb, hw1]
  have hb3 : Below w.heap.size w w3 := (((ba.trans (bb.mono (by omega))).trans (b1.mono (by omega))).trans (b2.mono (by omega))).trans (b3.mono (by omega))
  have hxd : w3.heap[b]? = some (.cells #[.string (strL nm), .slice A D.length c, .string (strL st)] 24 (0, 0)) := ((b3.block b (by omega)).trans ((b2.block b (by omega)).trans ((b1.block b (by omega)).trans (bb.block b (by omega))))).trans (by rw [← hwa, ← eb]; exact heap_alloc_new w _)
  have hxf : F2 w3 (b + 1) (.int .i64 0) (.int .i64 0) (.int .i64 0) (.bool false) := by
    refine ⟨((b3.block _ (by omega)).trans ((b2.block _ (by omega)).trans (b1.block _ (by omega)))).trans (by rw [← hwb, ← sa]; exact heap_alloc_new wa _), ?_⟩
    refine boxed_below (boxed_below ?_ b2 (by omega)) b3 (by omega)
    rw [← hw1, ← sb]
    exact Boxed.new wb _ _
  have hmk := run_makeMap_plain (P := Tryz.prog) w1 88
  rw [hw2, s1] at hmk
  have hxm : MapAt w3 (b + 3) (natE []) := by
    refine MapAt.below ?_ b3 (by omega)
    rw [← hw2, ← s1]
    exact MapAt.new w1
  have hxx : w3.heap[b + 4]? = some (.cells #[.int .i64 0, .int .i64 0, .int .i64 0, .map (some (b + 3)), .slice none 0 0, .map none] 130 (0, 0)) := by rw [← hw3, ← s2]; exact heap_alloc_new w2 _
  obtain ⟨R, hR⟩ : ∃ R, defR mr nm D st = R := ⟨_, rfl⟩
  have HCO := conditions_any (.pointer (some ⟨b + 4, 0, none⟩)) w3
  rw [s3] at HCO
  have hold := slAt_msgs (N := b) h (by omega)
  have HDE : Hid (∀ w5, Below b w w5 → ExAt w5 (b + 4) 0 0 (b + 3) none 0 0 (b + 5) → MapAt w5 (b + 3) (natE []) → MapI w5 (b + 5) (condE (.pointer (some ⟨b + 4, 0, none⟩))) → Calls Tryz.prog 80 #[.pointer (some ⟨b + 4, 0, none⟩), .agg #[.string (strL nm), .slice A D.length c, .string (strL st)]] w5 fun e w' => e = doD R ∧ Rest (fun k => k = b + 4 ∨ k = b + 3) w5 w' ∧ (R = none → MapAt w' (b + 3) (natE (defE D)) ∧ ∃ A' n' c', ExAt w' (b + 4) (-1) (-1) (b + 3) A' n' c' (b + 5))) := Lib.hid (fun w5 hb5 hx5 hm5 hi5 => by
    have hb5' : Below w.heap.size w w5 := by rw [eb]; exact hb5
    have := definition_any (b + 4) (b + 3) (b + 5) 0 0 0 0 none nm st A c D (fun i => b ≤ i) mr w5 hx5 hm5 (by omega) (hold.below hb5') (by show b ≤ b + 4; omega) (by show b ≤ b + 3; omega) (fun i mm wx hd h60 hp hr he hm => hf (b + 4) (b + 3) (b + 5) (by omega) (by omega) (by omega) i mm wx hd h60 hp (by
      have h1 := hr.toBelow b (by have := hb5.size; omega) (fun i hi e => by omega)
      have h2 := hb5.trans h1
      rw [← eb] at h2
      exact h2) he hm (hi5.rest hr (by omega)) (by omega) (by omega))
    rwa [hR] at this)
  rw [hR]
  have hbw3 : Below b w w3 := by rw [← eb]; exact hb3
  have HCO := Lib.hid HCO
  have HXD := Lib.hid hxd
  have HXF := Lib.hid hxf
  have HXM := Lib.hid hxm
  have HXX := Lib.hid hxx
  have HB3 := Lib.hid hbw3
  have HW := Lib.hid hw
  have HW3 := Lib.hid hw3
  have S2 := Lib.hid s2
  have S3 := Lib.hid s3
  have EB := Lib.hid eb
  clear h hf hwa hwb hw1 hw2 hw3 ba bb b1 b2 b3 sa sb s1 s2 s3 hw hb3 hbw3 hxd hxf hxm hxx hR hold eb
  have hmf : ∀ (fn : Fn) (first cap : Array Value) (w : World), (Instr.makeFunc fn first cap).run Tryz.prog w = .ok (.func fn first cap) w := fun _ _ _ _ => rfl
  go_enter_defers Tryz.func48, Tryz.ntmps48
  go_upto_region 1 with fail
  rw [HW.out, EB.out]
  go_upto_region 3 with fail
  rw [S2.out, HW3.out]
  go_wp2_with fail
  refine HCO.out.mono ?_
  rintro e w4 ⟨rfl, hi4, hb4⟩
  have hxx4 := (hb4.block (b + 4) (by have := S3.out; omega)).trans HXX.out
  have v5 : w4.cell? ⟨b + 4, 5, none⟩ = some (.map none) := by simp [World.cell?, hxx4]
  have vf5 : w4.frozen? ⟨b + 4, 5, none⟩ = false := by simp [World.frozen?, hxx4]
  have hset := heap_setCell_same w4 (b + 4) 5 _ 130 (.map (some (b + 5))) hxx4
  have hr5 : Rest (fun k => k = b + 4) w4 (w4.setCell ⟨b + 4, 5, none⟩ (.map (some (b + 5)))) := (Rest.refl (fun k => k = b + 4) w4).setCell (S := fun k => k = b + 4) (p := ⟨b + 4, 5, none⟩) (fun _ => rfl) _
  obtain ⟨w5, hw5⟩ : ∃ w5, w4.setCell ⟨b + 4, 5, none⟩ (.map (some (b + 5))) = w5 := ⟨_, rfl⟩
  rw [hw5] at hset hr5
  have hs3 := S3.out
  have hx5 : ExAt w5 (b + 4) 0 0 (b + 3) none 0 0 (b + 5) := ⟨hset⟩
  have hr35 : Rest (fun k => k = b + 4) w3 w5 := (Rest.below (S := fun k => k = b + 4) (by rw [hs3]; exact hb4)).trans hr5 (fun _ _ e => e)
  have hm5 := HXM.out.rest hr35 (by omega)
  have hi5 := hi4.rest hr5 (by omega)
  have hf5 := HXF.out.rest hr35 (by omega) (by omega)
  have hd5 := (hr35.block b (by omega) (by omega)).trans HXD.out
  have hbw5 : Below b w w5 := HB3.out.trans (hr35.toBelow b (by omega) (fun i hi e => by omega))
  have d0 : w5.cell? ⟨b, 0, none⟩ = some (.string (strL nm)) := by simp [World.cell?, hd5]
  have d1 : w5.cell? ⟨b, 1, none⟩ = some (.slice A D.length c) := by simp [World.cell?, hd5]
  have d2 : w5.cell? ⟨b, 2, none⟩ = some (.string (strL st)) := by simp [World.cell?, hd5]
  have HDF := Lib.hid (HDE.out w5 hbw5 hx5 hm5 hi5)
  have W5 := Lib.hid hw5
  have F5 := Lib.hid hf5
  have BW5 := Lib.hid hbw5
  have SZ5 := Lib.hid (show b + 6 ≤ w5.heap.size by have := hi5.lt; omega)
  clear hi4 hb4 hxx4 hset hr5 hw5 hs3 hx5 hr35 hm5 hi5 hf5 hd5 hbw5
  go_upto_region 4 with fail
  rw [W5.out]
  clear v5 vf5
  go_wp2_with fail
  refine HDF.out.mono ?_
  rintro e w6 ⟨he, hr6, hn6⟩
  have F6 := Lib.hid (F5.out.rest hr6 (by omega) (by omega))
  have BW6 := Lib.hid (BW5.out.trans (hr6.toBelow b (by have := SZ5.out; omega) (fun i hi e => by omega)))
  have SZ6 := Lib.hid (Nat.le_trans SZ5.out hr6.size)
  clear hr6 d0 d1 d2
  cases R with
  | some p =>
    obtain ⟨m, f, cd⟩ := p
    clear hn6
    unfold doD flawE at he
    dsimp only at he
    subst he
    refine leaves_cons (f := 78) (args := #[.pointer (some ⟨b + 1, 0, none⟩), .pointer (some ⟨b + 1 + 1, 0, none⟩)]) (by simp) (by simp [go_sem]) ?_
    refine (recover_flaw (b + 1) m f cd [] _ _ _ _ w6 F6.out).mono ?_
    rintro e u' w7 ⟨rfl, rfl, hF7, hr7⟩
    have p0 := hF7.p0
    have p1 := hF7.p1
    have p2 := hF7.p2
    have e0 := hF7.e.cell
    have hb7 : Below w.heap.size w w7 := by
      rw [EB.out]
      exact BW6.out.trans (hr7.toBelow b (by have := SZ6.out; omega) (fun i hi e => by omega))
    have HB7 := Lib.hid hb7
    clear hF7 hr7 hb7
    refine ⟨_, ?_, HB7.out, rfl⟩
    simp [results, Tryz.results48, go_sem, p0, p1, p2, e0]
  | none =>
    obtain ⟨hm6, A6, n6, c6, hx6⟩ := hn6 rfl
    unfold doD at he
    dsimp only at he
    subst he
    have v3 := hx6.c3
    have hf6 := F6.out
    have l0 := hf6.p0
    have l1 := hf6.p1
    have l2 := hf6.p2
    have lf0 := hf6.pf 0
    have lf1 := hf6.pf 1
    have lf2 := hf6.pf 2
    have e0 := hf6.e.cell
    have e1 := hf6.e.frozen
    have HS := Lib.hid (hf6.set (.int .i64 0) (.int .i64 0) (.int .i64 0) (.bool false))
    have M6 := Lib.hid hm6
    clear hn6 hm6 hx6 hf6
    go_wp2_with fail
    have g1 := HS.out.1
    have g2 := HS.out.2
    generalize (((w6.setCell ⟨b + 1, 0, none⟩ (.int .i64 0)).setCell ⟨b + 1, 1, none⟩ (.int .i64 0)).setCell ⟨b + 1, 2, none⟩ (.int .i64 0)).setCell ⟨b + 1 + 1, 0, none⟩ (.bool false) = w7 at g1 g2 ⊢
    refine leaves_cons (f := 78) (args := #[.pointer (some ⟨b + 1, 0, none⟩), .pointer (some ⟨b + 1 + 1, 0, none⟩)]) (by simp) (by simp [go_sem]) ?_
    refine (recover_none (b + 1) _ _ _ _ w7 g1).mono ?_
    rintro e u' w8 ⟨rfl, rfl, hF8, hr8⟩
    have hr68 := g2.trans hr8 (fun _ _ e => e)
    have p0 := hF8.p0
    have p1 := hF8.p1
    have p2 := hF8.p2
    have q0 := hF8.e.cell
    have hm8 := M6.out.rest hr68 (by omega)
    have hb8 : Below w.heap.size w w8 := by
      rw [EB.out]
      exact BW6.out.trans (hr68.toBelow b (by have := SZ6.out; omega) (fun i hi e => by omega))
    have HB8 := Lib.hid hb8
    have M8 := Lib.hid hm8
    have HEB := Lib.hid (show w.heap.size ≤ b + 3 by have := EB.out; omega)
    clear hF8 hr8 hr68 hm8 hb8 g1 g2 l0 l1 l2 lf0 lf1 lf2 e0 e1 v3
    refine ⟨_, ?_, HB8.out, b + 3, HEB.out, rfl, M8.out⟩
    simp [results, Tryz.results48, go_sem, p0, p1, p2, q0]
end Go.Proofs.YtbpkppmbbpoohaaGreat

namespace Go.Proofs.YtbpkppmbbpoohaaGreat
open Go.RowKit Go.Shelf

/-- The flaw that is answered. -/
def flawT (r : Option (Int × Int × Int)) : Int × Int × Int := r.getD (0, 0, 0)
theorem ExPost.flat {r : Option (Int × Int × Int)} {E : Nats} {w w' : World} {e : Ending} (h : ExPost r E w e w') : ∃ k, e = .returned (.tuple #[.map k, .agg #[.int .i64 (flawT r).1, .int .i64 (flawT r).2.1, .int .i64 (flawT r).2.2], .bool r.isSome]) ∧ Below w.heap.size w w' := by
  obtain ⟨hb, h⟩ := h
  cases r with
  | none =>
    obtain ⟨kr, _, h, _⟩ := h
    exact ⟨some kr, h, hb⟩
  | some p => exact ⟨none, h, hb⟩

set_option maxRecDepth 100000 in
set_option maxHeartbeats 1600000 in
theorem check_of (nm st : List UInt8) (A : Option Addr) (n c : Nat) (r : Option (Int × Int × Int)) (E : Nats) (w : World)
    (he : ∀ wx, Below w.heap.size w wx → Calls Tryz.prog 48 #[.agg #[.string (strL nm), .slice A n c, .string (strL st)]] wx (ExPost r E wx)) :
    Calls Tryz.prog 13 #[.agg #[.string (strL nm), .slice A n c, .string (strL st)]] w fun e w' => e = .returned (.tuple #[.agg #[.int .i64 (flawT r).1, .int .i64 (flawT r).2.1, .int .i64 (flawT r).2.2], .bool r.isSome]) ∧ Below w.heap.size w w' := by
  obtain ⟨wa, hwa⟩ : ∃ wa, w.alloc (.cells #[.string (strL nm), .slice A n c, .string (strL st)] 24) = wa := ⟨_, rfl⟩
  obtain ⟨w1, hw1⟩ : ∃ w1, wa.alloc (.cells #[.int .i64 0, .int .i64 0, .int .i64 0] 30) = w1 := ⟨_, rfl⟩
  have hw : (w.alloc (.cells #[.string (strL nm), .slice A n c, .string (strL st)] 24)).alloc (.cells #[.int .i64 0, .int .i64 0, .int .i64 0] 30) = w1 := by rw [hwa, hw1]
  have ba : Below w.heap.size w wa := by rw [← hwa]; exact below_alloc _ _
  have b1 : Below wa.heap.size wa w1 := by rw [← hw1]; exact below_alloc _ _
  have sa : wa.heap.size = w.heap.size + 1 := by rw [← hwa]; simp
  have hb1 : Below w.heap.size w w1 := ba.trans (b1.mono (by omega))
  have s1 : w1.heap.size = w.heap.size + 2 := by rw [← hw1]; simp; omega
  have hxd : w1.heap[w.heap.size]? = some (.cells #[.string (strL nm), .slice A n c, .string (strL st)] 24 (0, 0)) := (b1.block _ (by omega)).trans (by rw [← hwa]; exact heap_alloc_new w _)
  have hxf : w1.heap[w.heap.size + 1]? = some (.cells #[.int .i64 0, .int .i64 0, .int .i64 0] 30 (0, 0)) := by rw [← hw1, ← sa]; exact heap_alloc_new wa _
  obtain ⟨b, eb⟩ : ∃ b, w.heap.size = b := ⟨_, rfl⟩
  rw [eb] at hxd hxf s1
  obtain ⟨⟨fm, ff, fc⟩, hfl⟩ : ∃ t, flawT r = t := ⟨_, rfl⟩
  obtain ⟨fd, hfd⟩ : ∃ fd, r.isSome = fd := ⟨_, rfl⟩
  have HEX : Hid (∀ wx, Below w1.heap.size w1 wx → Calls Tryz.prog 48 #[.agg #[.string (strL nm), .slice A n c, .string (strL st)]] wx fun e w' => ∃ k, e = .returned (.tuple #[.map k, .agg #[.int .i64 fm, .int .i64 ff, .int .i64 fc], .bool fd]) ∧ Below wx.heap.size wx w') := Lib.hid (fun wx hb => (he wx (hb1.trans (hb.mono hb1.size))).mono (fun e w' h => by
    have := h.flat
    rw [hfl, hfd] at this
    exact this))
  rw [hfl, hfd]
  have d0 : w1.cell? ⟨b, 0, none⟩ = some (.string (strL nm)) := by simp [World.cell?, hxd]
  have d1 : w1.cell? ⟨b, 1, none⟩ = some (.slice A n c) := by simp [World.cell?, hxd]
  have d2 : w1.cell? ⟨b, 2, none⟩ = some (.string (strL st)) := by simp [World.cell?, hxd]
  have HW := Lib.hid hw
  have EB := Lib.hid eb
  have HB1 := Lib.hid hb1
  have HXF := Lib.hid hxf
  have S1 := Lib.hid s1
  clear he hwa hw1 hw ba b1 sa hb1 s1 hxd hxf eb hfl hfd
  go_enter Tryz.func13, Tryz.ntmps13
  go_upto_region 1 with fail
  rw [HW.out, EB.out]
  go_wp2_with fail
  refine (HEX.out w1 (Below.refl _ _)).mono ?_
  rintro e w2 ⟨k, rfl, hb2⟩
  have hal3 := below_alloc w2 (.cells #[.int .i64 fm, .int .i64 ff, .int .i64 fc] 30)
  have hn3 : (w2.alloc (.cells #[.int .i64 fm, .int .i64 ff, .int .i64 fc] 30)).heap[w2.heap.size]? = some (.cells #[.int .i64 fm, .int .i64 ff, .int .i64 fc] 30 (0, 0)) := heap_alloc_new w2 _
  obtain ⟨tb, etb⟩ : ∃ tb, w2.heap.size = tb := ⟨_, rfl⟩
  obtain ⟨w3, hw3⟩ : ∃ w3, w2.alloc (.cells #[.int .i64 fm, .int .i64 ff, .int .i64 fc] 30) = w3 := ⟨_, rfl⟩
  rw [hw3] at hal3 hn3
  rw [etb] at hn3
  have hb13 := hb2.trans (hal3.mono hb2.size)
  have hxf3 := (hb13.block (b + 1) (by have := S1.out; omega)).trans HXF.out
  have q0 : w3.cell? ⟨tb, 0, none⟩ = some (.int .i64 fm) := by simp [World.cell?, hn3]
  have q1 : w3.cell? ⟨tb, 1, none⟩ = some (.int .i64 ff) := by simp [World.cell?, hn3]
  have q2 : w3.cell? ⟨tb, 2, none⟩ = some (.int .i64 fc) := by simp [World.cell?, hn3]
  have r0 : w3.cell? ⟨b + 1, 0, none⟩ = some (.int .i64 0) := by simp [World.cell?, hxf3]
  have r1 : w3.cell? ⟨b + 1, 1, none⟩ = some (.int .i64 0) := by simp [World.cell?, hxf3]
  have r2 : w3.cell? ⟨b + 1, 2, none⟩ = some (.int .i64 0) := by simp [World.cell?, hxf3]
  have g0 : w3.frozen? ⟨b + 1, 0, none⟩ = false := by simp [World.frozen?, hxf3]
  have g1 : w3.frozen? ⟨b + 1, 1, none⟩ = false := by simp [World.frozen?, hxf3]
  have g2 : w3.frozen? ⟨b + 1, 2, none⟩ = false := by simp [World.frozen?, hxf3]
  have hset := heap_setCell_same _ (b + 1) 2 _ 30 (.int .i64 fc) (heap_setCell_same _ (b + 1) 1 _ 30 (.int .i64 ff) (heap_setCell_same w3 (b + 1) 0 _ 30 (.int .i64 fm) hxf3))
  have hrs := rest_setAt w3 (b + 1) (.int .i64 fm) (.int .i64 ff) (.int .i64 fc)
  have HBF := Lib.hid ((HB1.out.trans (hb13.mono HB1.out.size)).trans (hrs.toBelow w.heap.size (by have := HB1.out.size; have := hb13.size; omega) (fun i hi e => by have := EB.out; omega)))
  have HSET := Lib.hid hset
  have W3 := Lib.hid hw3
  have ETB := Lib.hid etb
  clear hb2 hal3 hn3 etb hw3 hb13 hxf3 hset hrs d0 d1 d2
  go_upto_region 2 with fail
  rw [W3.out, ETB.out]
  go_wp2_with fail
  have hset := HSET.out
  have hbf := HBF.out
  obtain ⟨w4, hw4⟩ : ∃ w4, ((w3.setCell ⟨b + 1, 0, none⟩ (.int .i64 fm)).setCell ⟨b + 1, 1, none⟩ (.int .i64 ff)).setCell ⟨b + 1, 2, none⟩ (.int .i64 fc) = w4 := ⟨_, rfl⟩
  rw [hw4] at hset hbf ⊢
  have p0 : w4.cell? ⟨b + 1, 0, none⟩ = some (.int .i64 fm) := by simp [World.cell?, hset]
  have p1 : w4.cell? ⟨b + 1, 1, none⟩ = some (.int .i64 ff) := by simp [World.cell?, hset]
  have p2 : w4.cell? ⟨b + 1, 2, none⟩ = some (.int .i64 fc) := by simp [World.cell?, hset]
  refine bodyPost_ret (by simp [results, Tryz.results13, go_sem, p0, p1, p2]; try rfl) rfl ?_
  exact ⟨rfl, hbf⟩

set_option maxRecDepth 100000 in
set_option maxHeartbeats 1600000 in
theorem valid_of (nm st : List UInt8) (A : Option Addr) (n c : Nat) (r : Option (Int × Int × Int)) (E : Nats) (w : World)
    (he : ∀ wx, Below w.heap.size w wx → Calls Tryz.prog 48 #[.agg #[.string (strL nm), .slice A n c, .string (strL st)]] wx (ExPost r E wx)) :
    Calls Tryz.prog 15 #[.agg #[.string (strL nm), .slice A n c, .string (strL st)]] w fun e w' => e = .returned (.bool (!r.isSome)) ∧ Below w.heap.size w w' := by
  have hal := below_alloc w (.cells #[.string (strL nm), .slice A n c, .string (strL st)] 24)
  have hxd : (w.alloc (.cells #[.string (strL nm), .slice A n c, .string (strL st)] 24)).heap[w.heap.size]? = some (.cells #[.string (strL nm), .slice A n c, .string (strL st)] 24 (0, 0)) := heap_alloc_new w _
  obtain ⟨b, eb⟩ : ∃ b, w.heap.size = b := ⟨_, rfl⟩
  obtain ⟨w1, hw1⟩ : ∃ w1, w.alloc (.cells #[.string (strL nm), .slice A n c, .string (strL st)] 24) = w1 := ⟨_, rfl⟩
  rw [hw1] at hal hxd
  rw [eb] at hxd
  have HCK := check_of nm st A n c r E w1 (fun wx hb => he wx (hal.trans (hb.mono hal.size)))
  obtain ⟨⟨fm, ff, fc⟩, hfl⟩ : ∃ t, flawT r = t := ⟨_, rfl⟩
  obtain ⟨fd, hfd⟩ : ∃ fd, r.isSome = fd := ⟨_, rfl⟩
  rw [hfl, hfd] at HCK
  rw [hfd]
  have HCK := Lib.hid HCK
  have d0 : w1.cell? ⟨b, 0, none⟩ = some (.string (strL nm)) := by simp [World.cell?, hxd]
  have d1 : w1.cell? ⟨b, 1, none⟩ = some (.slice A n c) := by simp [World.cell?, hxd]
  have d2 : w1.cell? ⟨b, 2, none⟩ = some (.string (strL st)) := by simp [World.cell?, hxd]
  have HW := Lib.hid hw1
  have EB := Lib.hid eb
  have HAL := Lib.hid hal
  clear he hal hxd eb hw1 hfl hfd
  go_enter Tryz.func15, Tryz.ntmps15
  go_upto_region 1 with fail
  rw [HW.out, EB.out]
  go_wp2_with fail
  refine HCK.out.mono ?_
  rintro e w2 ⟨rfl, hb2⟩
  have HB2 := Lib.hid (HAL.out.trans ((hb2.trans ((below_alloc w2 (.cells #[.int .i64 fm, .int .i64 ff, .int .i64 fc] 30)).mono hb2.size)).mono HAL.out.size))
  clear hb2
  go_wp2_with fail
  go_ret
  exact ⟨rfl, HB2.out⟩
end Go.Proofs.YtbpkppmbbpoohaaGreat
