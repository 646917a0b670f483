/- A round of a range over a function that ends in a panic, and the statement that it leaves. No conditions beyond those named. The condition on sizes: any size whose numbers that exist have allowed ranges. Conditions: the examination, its fields and the terms lie in memory. A region of two loads, two calls, two new variables and two stores, in whatever order. No conditions beyond those named. A region in whatever order whose last operation is a call that ends in a panic. No conditions beyond those named. -/
import Derived.Test.YtbpkppmbbpoohaaGreatRg
import Derived.Test.YtbpkppmbbpoohaaGreatIc
import Derived.Test.YtbpkppmbbpoohaaGreatM
import Derived.Orders
namespace Go.Proofs.YtbpkppmbbpoohaaGreat
open Go.RowKit Go.Shelf
attribute [local go_sem] Oper.semAt_some

/-- No library call waits on top. -/
def Free (todo : List Item) : Prop := ∀ f r x y k, todo ≠ .call f r x y :: k

theorem step_falls {P : Program} {fr c : Frame} {cs : List Frame} {w : World} {chain : List PanicEntry} (hm : fr.mode = .panicking chain) (hd : fr.defers = []) (hf : Free fr.todo) : step P (lone fr (c :: cs) w) = .next (lone (c.raise chain) cs w) := by
  have hc : fr.catches P = false := by
    unfold Frame.catches
    split
    · rename_i h _ r _ _ ht
      exact absurd ht (hf _ _ _ _ _)
    · rfl
  exact step_lone_go (by simp [stepG, unwind, hm, hd, hc])

/-- Operations of a region in a round, which end in a panic. -/
def FallsOps (P : Program) (l : Nat) (ops : Array Oper) (R : List PanicEntry → World → Prop) (is : List Nat) (a : Go.Act) (w : World) : Prop :=
  ∀ (b : Frame) (k : List Item) (cs : List Frame), b.roundOf = some l → ∃ chain a' w' todo, R chain w' ∧ a'.defers = [] ∧ Free todo ∧ Steps P (lone (b.atR a (.inRegion ops is :: k)) cs w) (lone { b.atR a' todo with mode := .panicking chain } cs w')
/-- Code in a round that ends in a panic. -/
def Falls (P : Program) (l : Nat) (c : Code) (R : List PanicEntry → World → Prop) (a : Go.Act) (w : World) : Prop :=
  ∀ (b : Frame) (k : List Item) (cs : List Frame), b.roundOf = some l → ∃ chain a' w' todo, R chain w' ∧ a'.defers = [] ∧ Free todo ∧ Steps P (lone (b.atR a (.code c :: k)) cs w) (lone { b.atR a' todo with mode := .panicking chain } cs w')

section
variable {P : Program} {l : Nat} {R : List PanicEntry → World → Prop} {a : Go.Act} {w : World} {ops : Array Oper}
theorem falls_region {id : Nat} (h : FallsOps P l ops R (List.range ops.size) a w) : Falls P l (.region id ops false) R a w := fun b k cs hb => by
  obtain ⟨chain, a', w', todo, h1, h2, h3, h4⟩ := h b k cs hb
  exact ⟨chain, a', w', todo, h1, h2, h3, Steps.trans (.one stepR_region) h4⟩
theorem falls_left {c1 c2 : Code} (h : Falls P l c1 R a w) : Falls P l (.seq c1 c2) R a w := fun b k cs hb => by
  obtain ⟨chain, a', w', todo, h1, h2, h3, h4⟩ := h b (.code c2 :: k) cs hb
  exact ⟨chain, a', w', todo, h1, h2, h3, Steps.trans (.one stepR_seq) h4⟩
theorem falls_right {n : Nat} {c1 c2 : Code} (h : c1.wpIn (Fence.wide.inRound l) n P (fun e a' w' => match e with | .normal => Falls P l c2 R a' w' | _ => False) a w) : Falls P l (.seq c1 c2) R a w := fun b k cs hb => by
  obtain ⟨e, a1, w1, hq, harr⟩ := h b (.code c2 :: k) cs hb trivial (room_wide _)
  cases e with
  | normal =>
    obtain ⟨chain, a', w', todo, h1, h2, h3, h4⟩ := hq b k cs hb
    exact ⟨chain, a', w', todo, h1, h2, h3, Steps.trans (.one stepR_seq) (Steps.trans (stepsIn_wide.1 harr) h4)⟩
  | ret => exact hq.elim
  | exit id => exact hq.elim
  | goto t => exact hq.elim
  | panic ch => exact hq.elim
  | outgrown => exact hq.elim
theorem falls_block {id : Nat} {c : Code} (h : Falls P l c R a w) : Falls P l (.block id c) R a w := fun b k cs hb => by
  obtain ⟨chain, a', w', todo, h1, h2, h3, h4⟩ := h b (.inBlock id :: k) cs hb
  exact ⟨chain, a', w', todo, h1, h2, h3, Steps.trans (.one stepR_block) h4⟩
theorem falls_val {i : Nat} {rest : List Nat} {o : Oper} {v : Value} {w1 : World} (ho : ops[i]? = some o) (hg : o.guard = none) (hd : ∀ c, o.op ≠ .defer c) (hr : (execOp a.eval o).run P w = .ok (.value v) w1) (h : FallsOps P l ops R rest (a.put o.dst v) w1) : FallsOps P l ops R (i :: rest) a w := fun b k cs hb => by
  obtain ⟨chain, a', w', todo, h1, h2, h3, h4⟩ := h b k cs hb
  refine ⟨chain, a', w', todo, h1, h2, h3, Steps.trans (.one (step_lone_go ?_)) h4⟩
  have hw : Region.wanted o (yielded ops a.tmps) = true := by unfold Region.wanted; rw [hg]
  rw [stepGR_op ho hw, Oper.semAt_eq _ _ _ hd]
  have hfin : (b.atR a (.inRegion ops (i :: rest) :: k)).finish v = b.atR (a.put o.dst v) (.inRegion ops rest :: k) := by
    rw [Frame.finish_atR, ho]; rfl
  rw [← hfin]
  simp [stepG.apply, hr]
theorem falls_call {i : Nat} {rest : List Nat} {o : Oper} {f : FuncId} {args : Array Value} {w1 : World} (ho : ops[i]? = some o) (hg : o.guard = none) (hd : ∀ c, o.op ≠ .defer c) (hr : (execOp a.eval o).run P w = .ok (.enter f args) w1) (hdf : a.defers = []) (h : Calls P f args w1 fun e w' => ∃ chain, e = .panicked chain ∧ R chain w') : FallsOps P l ops R (i :: rest) a w := fun b k cs hb => by
  have hw : Region.wanted o (yielded ops a.tmps) = true := by unfold Region.wanted; rw [hg]
  obtain ⟨e, w', fr, ⟨chain, he, hR⟩, hsteps, hfn, hleave⟩ := h (b.atR a (.inRegion ops (i :: rest) :: k) :: cs)
  subst he
  have henter : step P (lone (b.atR a (.inRegion ops (i :: rest) :: k)) cs w) = .next (lone (Frame.enter P f args .normal) (b.atR a (.inRegion ops (i :: rest) :: k) :: cs) w1) :=
    step_lone_go (by rw [stepGR_op ho hw, Oper.semAt_eq _ _ _ hd]; simp [stepG.apply, hr, Frame.atR])
  refine ⟨chain, a, w', .inRegion ops (i :: rest) :: k, hR, hdf, (fun _ _ _ _ _ e => by cases e), Steps.trans (.one henter) (Steps.trans hsteps (.one ?_))⟩
  rw [← Frame.raise_atR]
  exact step_leave_panicked hleave
/-- A round whose body ends in a panic. -/
theorem round_falls {n : Nat} {fn : FuncId} {tmps : Array Value} {ps : Array Tmp} {assign body : Code} {D : Nat} {rr : LoopState → Option Code → Loop} (hrr : rr = recOf fn tmps ps assign body D) {x : Array Value} {W : World} (hR : RecAt W l D (rr .ready none)) (hps : x.size = ps.size) {R' : Ending → World → Prop} (a₁ : Go.Act)
    (hassign : ∀ K : Go.Act → World → Prop, K a₁ W → assign.wpIn (Fence.wide.inRound l) n Tryz.prog (Exit.then K (fun _ _ _ => False)) { tmps := (ps.zip x).foldl (fun t (p, v) => t.setIfInBounds p v) tmps, defers := [] } W)
    (hbody : ∀ W2, W2 = W.putObj l (.loop (rr .busy none)) → Falls Tryz.prog l body (fun ch W3 => R' (.panicked ch) W3) a₁ W2) :
    YieldAt Fence.wide n Tryz.prog l x W R' := by
  subst hrr
  have hy := run_yield (P := Tryz.prog) (args := x) hR.rec_ hps.symm.symm
  refine ⟨fn, _, assign, body, hy, trivial, fun c cs _ => ?_⟩
  let b : Frame := { (default : Frame) with fn := fn, kind := .normal, roundOf := some l }
  have hb0 : Frame.round l fn ((ps.zip x).foldl (fun t (p, v) => t.setIfInBounds p v) tmps) assign body .normal = b.atR { tmps := (ps.zip x).foldl (fun t (p, v) => t.setIfInBounds p v) tmps, defers := [] } [.code assign, .beginRound, .code body] := by
    simp [Frame.round, Frame.atR, b]
  obtain ⟨e, a1, w1, hq, harr⟩ := hassign (fun a w => a = a₁ ∧ w = W) ⟨rfl, rfl⟩ b [.beginRound, .code body] (c :: cs) rfl trivial (room_wide _)
  cases e with
  | normal =>
    obtain ⟨rfl, rfl⟩ := hq
    obtain ⟨chain, a', w', todo, h1, h2, h3, h4⟩ := hbody _ rfl b [] (c :: cs) rfl
    refine ⟨.panicked chain, w', h1, ?_⟩
    refine stepsIn_wide.2 ?_
    have s1 : Steps Tryz.prog (lone (Frame.round l fn ((ps.zip x).foldl (fun t (p, v) => t.setIfInBounds p v) tmps) assign body .normal) (c :: cs) w1) (lone (b.atR a1 [.beginRound, .code body]) (c :: cs) w1) := by
      rw [hb0]
      exact stepsIn_wide.1 harr
    refine Steps.trans s1 (Steps.trans (.one (stepR_beginRound rfl (run_beginRound hR.rec_ rfl))) (Steps.trans h4 (.one (step_falls rfl ?_ h3))))
    simpa [Frame.atR] using h2
  | ret => exact hq.elim
  | exit id => exact hq.elim
  | goto t => exact hq.elim
  | panic ch => exact hq.elim
  | outgrown => exact hq.elim
end
end Go.Proofs.YtbpkppmbbpoohaaGreat

namespace Go.Proofs.YtbpkppmbbpoohaaGreat
open Go.RowKit Go.Shelf
attribute [local go_sem] Oper.semAt_some

section
variable {n : Nat}
/-- The statement, which comes to its end or is left by a panic. -/
theorem open_falls {g : Operand} {ps : Array Tmp} {assign body : Code} {Q : Exit → Go.Act → World → Prop} {a : Go.Act} {w : World} (h1 : 1 ≤ n) {gf : Nat} {lb : Array Value} (hg : a.eval g = .func (.func gf) #[] lb) (eg : ∀ args w, (callFunc gf args).run Tryz.prog w = .ok (.enter gf args) w)
    (h : ∀ W1 rr, (∃ fn, rr = recOf fn a.tmps ps assign body w.heap.size) → Below w.heap.size w W1 → W1.heap.size = w.heap.size + 2 → RecAt W1 (w.heap.size + 1) w.heap.size (rr .ready none) →
      CallsIn Fence.wide (n - 1) Tryz.prog gf (#[.func (.yield (w.heap.size + 1)) #[] #[]] ++ lb) W1 fun e W2 =>
        ((∃ v, e = .returned v) ∧ RecAt W2 (w.heap.size + 1) w.heap.size (rr .ready none) ∧ ∀ o, Q .normal { a with defers := { target := .collected w.heap.size, args := #[] } :: a.defers } (W2.putObj (w.heap.size + 1) o)) ∨
          ∃ ch, e = .panicked ch ∧ Q (.panic ch) { a with defers := { target := .collected w.heap.size, args := #[] } :: a.defers } W2) :
    (Code.rangeFunc g ps assign body).wpIn Fence.wide n Tryz.prog Q a w := by
  refine wpIn_rangeFunc ?_
  intro fn _
  have hb1 : Below w.heap.size w ((w.alloc (.deferred (some []))).alloc (.loop (recOf fn a.tmps ps assign body w.heap.size .ready none))) := ((Below.refl _ w).alloc (Nat.le_refl _) _).alloc (by simp) _
  have hR : RecAt ((w.alloc (.deferred (some []))).alloc (.loop (recOf fn a.tmps ps assign body w.heap.size .ready none))) (w.heap.size + 1) w.heap.size (recOf fn a.tmps ps assign body w.heap.size .ready none) :=
    ⟨by have := World.alloc_heap_new (w.alloc (.deferred (some []))) (.loop (recOf fn a.tmps ps assign body w.heap.size .ready none)); rwa [World.size_alloc] at this, (Below.heap_alloc _ _ _ (by simp)).trans (World.alloc_heap_new w _)⟩
  obtain ⟨W1, hW1⟩ : ∃ W1, (w.alloc (.deferred (some []))).alloc (.loop (recOf fn a.tmps ps assign body w.heap.size .ready none)) = W1 := ⟨_, rfl⟩
  have hsz : W1.heap.size = w.heap.size + 2 := by rw [← hW1]; simp
  have hen : (Instr.enterLoop fn a.tmps ps assign body Fence.wide.round).run Tryz.prog w = .ok (w.heap.size + 1, [{ target := .collected w.heap.size, args := #[] }]) W1 := by rw [← hW1]; exact run_enterLoop_outer _ _ _ _ _
  rw [hW1] at hb1 hR
  refine ⟨w.heap.size + 1, [{ target := .collected w.heap.size, args := #[] }], W1, { target := .fn (.func gf) lb, args := #[.func (.yield (w.heap.size + 1)) #[] #[]] }, W1, gf, #[.func (.yield (w.heap.size + 1)) #[] #[]] ++ lb, W1, hen, ?_, fun _ _ => trivial, ?_, fun _ => h1, ?_⟩
  · simp only [resolve, hg]
    simp [go_sem]
  · simp [invoke, go_sem, eg]
  · refine (h W1 (recOf fn a.tmps ps assign body w.heap.size) ⟨fn, rfl⟩ hb1 hsz hR).mono ?_
    rintro e W2 (⟨⟨v, rfl⟩, h2, hq⟩ | ⟨ch, rfl, hq⟩)
    · exact ⟨none, _, run_endLoop (P := Tryz.prog) h2.rec_ (by simp [recOf]), hq _⟩
    · exact hq
end

set_option maxRecDepth 100000 in
set_option maxHeartbeats 1600000 in
/-- The iterator of a slice of texts, whose rounds may end in a panic. -/
theorem strs_fall (n : Nat) (hn : 1 ≤ n) (l qb c : Nat) (S : Nat → Prop) (A : Option Addr) (D : List (List UInt8)) (J : List (List UInt8) → World → Prop) (Jp : List PanicEntry → World → Prop) (hJ : ∀ pre W W', J pre W → Below W.heap.size W W' → J pre W') (hDl : D.length ≤ 9223372036854775807)
    (hJS : ∀ pre W, J pre W → SlAt strCells 1 S W A c D)
    (hY : ∀ pre x W, J pre W → pre ++ [x] <+: D → YieldAt Fence.wide (n - 1) Tryz.prog l #[.string (strL x)] W fun e W' =>
      (e = .returned (.bool true) ∧ J (pre ++ [x]) W') ∨ (∃ ch, e = .panicked ch ∧ Jp ch W'))
    (W : World) (hq : W.cell? ⟨qb, 0, none⟩ = some (.slice A D.length c)) (h0 : J [] W) :
    CallsIn Fence.wide n Tryz.prog 101 #[.func (.yield l) #[] #[], .pointer (some ⟨qb, 0, none⟩)] W fun e W' => ((∃ v, e = .returned v) ∧ J D W') ∨ (∃ ch, e = .panicked ch ∧ Jp ch W') := by
  have HS := Lib.hid (hJS _ _ h0)
  have HJS := Lib.hid hJS
  have H0 := Lib.hid h0
  have HY := Lib.hid hY
  have HJ := Lib.hid hJ
  have hcap := HS.out.2.1
  clear h0 hJS hY hJ
  refine callsIn_of_wp Tryz.func101 rfl trivial ?_ rfl
  simp only [Tryz.ntmps101, List.size_toArray, List.length_cons, List.length_nil, Nat.reduceAdd, Nat.reduceSub, Array.replicate_succ, Array.replicate_zero, List.push_toArray, List.append_toArray, List.nil_append, List.cons_append]
  gi_wp2_with fail
  gi_loopw [7] (fun x7 wr => ∃ k : Nat, k ≤ D.length ∧ x7 = .int .i64 ((k : Nat) : Int) ∧ J (D.take k) wr) (fun x7 _ => D.length - (intOf x7).toNat)
  case atStart => exact ⟨0, Nat.zero_le _, rfl, H0.out⟩
  case round =>
    obtain ⟨k, hk, rfl, hJk⟩ := hrel
    have hSk := HJS.out _ _ hJk
    by_cases hlt : k < D.length
    · obtain ⟨d, hd⟩ : ∃ d, D[k]? = some d := ⟨_, List.getElem?_eq_getElem hlt⟩
      have htk : D.take (k + 1) = D.take k ++ [d] := (drop_of hd).2
      obtain ⟨g, o, rfl, hx⟩ := hSk.at_ hd
      have y0 : wr.cell? ⟨g, o + k, none⟩ = some (.string (strL d)) := by have := hx 0 (.string (strL d)) rfl; simpa using this
      obtain ⟨fn, tmps, assign, body, hy, hR⟩ := HY.out _ d wr hJk (by rw [← htk]; exact List.take_prefix _ _)
      have HR := Lib.hid hR
      have HTK := Lib.hid htk
      have hlti : ((k : Nat) : Int) < ((D.length : Nat) : Int) := by omega
      clear htk hx hd hJk hSk hR
      gi_wp2_with fail
      refine HR.out.mono ?_
      rintro e W3 (⟨rfl, hJ3⟩ | ⟨ch, rfl, hJp⟩)
      · have HJ3 := Lib.hid hJ3
        clear hJ3
        gi_wp2
        go_roundw
        case rel => exact ⟨k + 1, by omega, by go_num, by rw [HTK.out]; exact HJ3.out⟩
        case measure => simp [intOf]; omega
      · exact ⟨rfl, .inr ⟨ch, rfl, hJp⟩⟩
    · have HJk := Lib.hid hJk
      clear hJk hSk
      obtain rfl : k = D.length := by omega
      gi_wp2
      go_end0
      exact .inl ⟨⟨_, rfl⟩, by have := HJk.out; rwa [List.take_length] at this⟩
end Go.Proofs.YtbpkppmbbpoohaaGreat

namespace Go.Proofs.YtbpkppmbbpoohaaGreat
open Go.RowKit

section
variable {P : Program} {ops : Array Oper} {Q : Exit → Act → World → Prop} {md : Region.Mode}

theorem ready_get {l : Array Bool} {i : Nat} (h : i ∈ Region.ready md ops l) : i < ops.size ∧ l.getD i true = false ∧ ∀ o, ops[i]? = some o → ∀ e ∈ o.after, Region.binds md e = true → l.getD e.on false = true := by
  unfold Region.ready at h
  rw [List.mem_filter, List.mem_range] at h
  obtain ⟨h1, h2⟩ := h
  rw [Bool.and_eq_true] at h2
  obtain ⟨h3, h4⟩ := h2
  refine ⟨h1, by simpa using h3, fun o ho e he hb => ?_⟩
  rw [ho] at h4
  simp only [Option.map_some, Option.getD_some, Array.all_eq_true_iff_forall_mem] at h4
  have := h4 e he
  rw [hb] at this
  simpa using this

theorem ready_nil {l : Array Bool} (hn : Region.ready md ops l = []) (hl : l.size = ops.size) (ht : ∀ (i : Nat) (o : Oper), ops[i]? = some o → ∀ e ∈ o.after, e.on < i) : ∀ i, i < ops.size → l.getD i false = true := by
  intro i
  induction i using Nat.strongRecOn with
  | _ i ih =>
    intro hi
    by_cases hc : l.getD i false = true
    · exact hc
    · exfalso
      have hli : i < l.size := by omega
      have hc2 : l.getD i true = false := by
        rw [Array.getD_eq_getD_getElem?, Array.getElem?_eq_getElem hli] at hc ⊢
        simpa using hc
      have hm : i ∈ Region.ready md ops l := by
        unfold Region.ready
        rw [List.mem_filter, List.mem_range]
        refine ⟨hi, ?_⟩
        rw [hc2, Array.getElem?_eq_getElem hi]
        simp only [Option.map_some, Option.getD_some, Bool.not_false, Bool.true_and, Array.all_eq_true_iff_forall_mem]
        intro e he
        have he2 := ht i _ (Array.getElem?_eq_getElem hi) e he
        rw [ih e.on he2 (by omega), Bool.or_true]
      rw [hn] at hm
      simp at hm

/-- How many are not listed. -/
def unl (l : Array Bool) : Nat := l.count false
theorem unl_set {l : Array Bool} {i : Nat} (hi : i < l.size) (h : l.getD i true = false) : unl (l.setIfInBounds i true) + 1 = unl l := by
  have hg : l[i] = false := by
    rw [Array.getD_eq_getD_getElem?, Array.getElem?_eq_getElem hi] at h
    simpa using h
  unfold unl
  rw [Array.setIfInBounds_def, dif_pos hi, Array.count_set hi, hg]
  have hpos : 0 < Array.count false l := Array.count_pos_iff.2 (by rw [← hg]; exact Array.getElem_mem hi)
  simp
  omega

theorem wpAny_inv (I : Array Bool → Act → World → Prop) (hsz : ∀ l a w, I l a w → l.size = ops.size)
    (step : ∀ l a w i, I l a w → i ∈ Region.ready md ops l → wpOp P ops Q i (fun a' w' => I (l.setIfInBounds i true) a' w') a w)
    (fin : ∀ l a w, I l a w → Region.ready md ops l = [] → Q .normal a w) : ∀ (fuel : Nat) (l : Array Bool) (a : Act) (w : World), unl l ≤ fuel → I l a w → wpAny P md ops Q fuel l a w
  | 0, l, a, w, hf, hi => by
    have hr : Region.ready md ops l = [] := by
      rw [List.eq_nil_iff_forall_not_mem]
      intro i hm
      obtain ⟨h1, h2, _⟩ := ready_get hm
      have := unl_set (l := l) (i := i) (by rw [hsz l a w hi]; exact h1) h2
      omega
    exact ⟨hr, fin l a w hi hr⟩
  | fuel + 1, l, a, w, hf, hi => ⟨fin l a w hi, fun i hm => wpOp_mono (fun a' w' hI => by
      obtain ⟨h1, h2, _⟩ := ready_get hm
      have := unl_set (l := l) (i := i) (by rw [hsz l a w hi]; exact h1) h2
      exact wpAny_inv I hsz step fin fuel _ a' w' (by omega) hI) (step l a w i hi hm)⟩

theorem wp_region_inv {id : Nat} {a : Act} {w : World} (I : Array Bool → Act → World → Prop) (hm : P.follows .mixedOrders = true) (hsz : ∀ l a w, I l a w → l.size = ops.size)
    (h0 : I (Array.replicate ops.size false) a { w with drawn := w.drawn + 1 })
    (step : ∀ l a w i, I l a w → i ∈ Region.ready .any ops l → wpOp P ops Q i (fun a' w' => I (l.setIfInBounds i true) a' w') a w)
    (fin : ∀ l a w, I l a w → Region.ready .any ops l = [] → Q .normal a w) : (Code.region id ops true).wp P Q a w :=
  wp_region_any hm (wpAny_inv I hsz step fin _ _ _ _ (by unfold unl; simp [Array.count_replicate]) h0)

theorem wpOp_val {i : Nat} {o : Oper} {K : Act → World → Prop} {a : Act} {w : World} {v : Value} {w' : World} (ho : ops[i]? = some o) (hg : o.guard = none) (h : (execOp a.eval o).run P w = .ok (.value v) w') (k : K (a.put o.dst v) w') : wpOp P ops Q i K a w := by
  unfold wpOp
  rw [ho]
  simp only [Region.wanted, hg, if_true]
  refine .inl ?_
  unfold Oper.wp
  rw [h]
  exact k
theorem wpOp_none {i : Nat} {o : Oper} {K : Act → World → Prop} {a : Act} {w : World} {w' : World} (ho : ops[i]? = some o) (hg : o.guard = none) (h : (execOp a.eval o).run P w = .ok .skip w') (k : K (a.put o.dst undef) w') : wpOp P ops Q i K a w := by
  unfold wpOp
  rw [ho]
  simp only [Region.wanted, hg, if_true]
  refine .inl ?_
  unfold Oper.wp
  rw [h]
  exact k
theorem wpOp_call {i : Nat} {o : Oper} {K : Act → World → Prop} {a : Act} {w : World} {f : FuncId} {args : Array Value} {R : Value → World → Prop} (ho : ops[i]? = some o) (hg : o.guard = none) (h : (execOp a.eval o).run P w = .ok (.enter f args) w) (hc : Calls P f args w fun e w' => ∃ v, e = .returned v ∧ R v w') (k : ∀ v w', R v w' → K (a.put o.dst v) w') : wpOp P ops Q i K a w := by
  unfold wpOp
  rw [ho]
  simp only [Region.wanted, hg, if_true]
  refine .inl ?_
  unfold Oper.wp
  rw [h, Oper.upon_enter]
  refine hc.mono fun e w' ⟨v, he, hr⟩ => ?_
  subst he
  exact k v w' hr
end
end Go.Proofs.YtbpkppmbbpoohaaGreat

namespace Go.Proofs.YtbpkppmbbpoohaaGreat
open Go.RowKit

section
variable {P : Program} {ops : Array Oper} {Q : Exit → Act → World → Prop}
theorem wpOp_fall {i : Nat} {o : Oper} {K : Act → World → Prop} {a : Act} {w : World} {f : FuncId} {args : Array Value} (ho : ops[i]? = some o) (hg : o.guard = none) (h : (execOp a.eval o).run P w = .ok (.enter f args) w) (hc : Calls P f args w fun e w' => ∃ ch, e = .panicked ch ∧ Q (.panic ch) a w') : wpOp P ops Q i K a w := by
  unfold wpOp
  rw [ho]
  simp only [Region.wanted, hg, if_true]
  refine .inl ?_
  unfold Oper.wp
  rw [h, Oper.upon_enter]
  refine hc.mono fun e w' ⟨ch, he, hr⟩ => ?_
  subst he
  exact hr

/-- A frame as it was, but for some slots. -/
structure FrF (ds : List Nat) (a0 a : Act) : Prop where
  size : a.tmps.size = a0.tmps.size
  df : a.defers = a0.defers
  low : ∀ j, j ∉ ds → a.tmps[j]? = a0.tmps[j]?
structure FallI (n : Nat) (ops : Array Oper) (a0 : Act) (W0 : World) (ds : List Nat) (vs : Nat → Value) (l : Array Bool) (a : Act) (w : World) : Prop where
  sz : l.size = ops.size
  fr : FrF ds a0 a
  nl : l.getD n false = false
  bw : Below W0.heap.size W0 w
  got : ∀ (i d : Nat), l.getD i false = true → ds[i]? = some d → a.tmps[d]? = some (vs i)

theorem fput (a : Act) (d : Nat) (v : Value) (i : Nat) : (a.put (some d) v).tmps[i]? = if d = i then (if d < a.tmps.size then some v else none) else a.tmps[i]? := Array.getElem?_setIfInBounds
theorem fset {l : Array Bool} {i j : Nat} (h : i < l.size) : (l.setIfInBounds i true).getD j false = if i = j then true else l.getD j false := by
  rw [Array.getD_eq_getD_getElem?, Array.getElem?_setIfInBounds, Array.getD_eq_getD_getElem?]
  by_cases e : i = j
  · rw [if_pos e, if_pos e, if_pos h]; rfl
  · rw [if_neg e, if_neg e]
theorem FallI.put {n : Nat} {a0 : Act} {W0 : World} {ds : List Nat} {vs : Nat → Value} {l : Array Bool} {a : Act} {w : World} (h : FallI n ops a0 W0 ds vs l a w) {i d : Nat} (hi : i < ops.size) (hin : i ≠ n) (hd : ds[i]? = some d) (hnd : ∀ i, i < ds.length → ∀ j, j < ds.length → ds[i]? = ds[j]? → i = j) (hlt : ∀ d ∈ ds, d < a0.tmps.size) {w' : World} (hb : Below w.heap.size w w') : FallI n ops a0 W0 ds vs (l.setIfInBounds i true) (a.put (some d) (vs i)) w' := by
  have hdm : d ∈ ds := List.mem_of_getElem? hd
  have hl : i < l.size := by rw [h.sz]; exact hi
  refine ⟨by simpa using h.sz, ⟨by rw [show (a.put (some d) (vs i)).tmps.size = a.tmps.size from Array.size_setIfInBounds]; exact h.fr.size, h.fr.df, fun j hj => by rw [fput, if_neg (fun e => by subst e; exact hj hdm)]; exact h.fr.low j hj⟩, by rw [fset hl, if_neg hin]; exact h.nl, h.bw.trans (hb.mono h.bw.size), fun j e hj he => ?_⟩
  rw [fset hl] at hj
  rw [fput]
  by_cases hij : i = j
  · subst hij
    rw [hd] at he
    cases he
    rw [if_pos rfl, if_pos (by rw [h.fr.size]; exact hlt d hdm)]
  · rw [if_neg hij] at hj
    have hne : d ≠ e := fun hde => by
      subst hde
      exact hij (hnd i (List.getElem?_eq_some_iff.1 hd).1 j (List.getElem?_eq_some_iff.1 he).1 (hd.trans he.symm))
    rw [if_neg hne]
    exact h.got j e hj he

theorem fall_region {id : Nat} {a0 : Act} {W0 : World} (n : Nat) (ds : List Nat) (vs : Nat → Value) (hsz : ops.size = n + 1) (hds : ds.length = n) (hnd : ∀ i, i < ds.length → ∀ j, j < ds.length → ds[i]? = ds[j]? → i = j) (hlt : ∀ d ∈ ds, d < a0.tmps.size) (hm : P.follows .mixedOrders = true)
    (ht : ∀ (i : Nat) (o : Oper), ops[i]? = some o → ∀ e ∈ o.after, e.on < i)
    (hstep : ∀ (i : Nat) (o : Oper) (d : Nat), ops[i]? = some o → ds[i]? = some d → o.guard = none ∧ o.dst = some d ∧ ∀ a w, FrF ds a0 a → Below W0.heap.size W0 w → (∀ e ∈ o.after, Region.binds .any e = true → ∀ d', ds[e.on]? = some d' → a.tmps[d']? = some (vs e.on)) →
      (execOp a.eval o).run P w = .ok (.value (vs i)) w ∨ ∃ f args, (execOp a.eval o).run P w = .ok (.enter f args) w ∧ Calls P f args w fun e w' => e = .returned (vs i) ∧ Below w.heap.size w w')
    (hlast : ∀ o, ops[n]? = some o → o.guard = none ∧ ∀ a w, FrF ds a0 a → Below W0.heap.size W0 w → (∀ e ∈ o.after, Region.binds .any e = true → ∀ d', ds[e.on]? = some d' → a.tmps[d']? = some (vs e.on)) →
      ∃ f args, (execOp a.eval o).run P w = .ok (.enter f args) w ∧ Calls P f args w fun e w' => ∃ ch, e = .panicked ch ∧ ∀ a', a'.defers = a0.defers → Q (.panic ch) a' w') :
    (Code.region id ops true).wp P Q a0 W0 := by
  refine wp_region_inv (FallI n ops a0 W0 ds vs) hm (fun l a w h => h.sz) ?_ ?_ ?_
  · refine ⟨by simp, ⟨rfl, rfl, fun _ _ => rfl⟩, by rw [Array.getD_eq_getD_getElem?]; simp [hsz], ⟨rfl, rfl, rfl, Nat.le_refl _, fun _ _ => rfl⟩, fun i d h => ?_⟩
    rw [Array.getD_eq_getD_getElem?, Array.getElem?_replicate] at h
    split at h <;> simp at h
  · intro l a w i h hi
    obtain ⟨h1, h2, h3⟩ := ready_get hi
    have ho : ops[i]? = some ops[i] := Array.getElem?_eq_getElem h1
    have haft : ∀ e ∈ ops[i].after, Region.binds .any e = true → ∀ d', ds[e.on]? = some d' → a.tmps[d']? = some (vs e.on) := fun e he hb d' hd' => h.got _ _ (h3 _ ho e he hb) hd'
    by_cases hin : i = n
    · subst hin
      obtain ⟨hg, hl⟩ := hlast _ ho
      obtain ⟨f, args, hr, hc⟩ := hl a w h.fr h.bw haft
      exact wpOp_fall ho hg hr (hc.mono fun e w' ⟨ch, he, hq⟩ => ⟨ch, he, hq a h.fr.df⟩)
    · have hlt2 : i < ds.length := by omega
      have hd : ds[i]? = some ds[i] := List.getElem?_eq_getElem hlt2
      obtain ⟨hg, hdst, hs⟩ := hstep i _ _ ho hd
      rcases hs a w h.fr h.bw haft with hr | ⟨f, args, hr, hc⟩
      · refine wpOp_val ho hg hr ?_
        rw [hdst]
        exact h.put h1 hin hd hnd hlt (Below.refl _ _)
      · refine wpOp_call (R := fun v w' => v = vs i ∧ Below w.heap.size w w') ho hg hr (hc.mono fun e w' ⟨he, hb⟩ => ⟨_, he, rfl, hb⟩) (fun v w' hv => ?_)
        obtain ⟨rfl, hb⟩ := hv
        rw [hdst]
        exact h.put h1 hin hd hnd hlt hb
  · intro l a w h hn
    have := ready_nil hn h.sz ht n (by omega)
    rw [h.nl] at this
    cases this
end
end Go.Proofs.YtbpkppmbbpoohaaGreat
