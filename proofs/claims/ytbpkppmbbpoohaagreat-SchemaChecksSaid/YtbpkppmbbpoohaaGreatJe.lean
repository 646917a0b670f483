/- slices.ContainsFunc of fields; the nature of a message. Conditions: the fields and the known natures lie in memory. -/
import Derived.Test.YtbpkppmbbpoohaaGreatJd
import Derived.Test.YtbpkppmbbpoohaaGreatJa
import Derived.Test.YtbpkppmbbpoohaaGreatHb
namespace Go.Proofs.YtbpkppmbbpoohaaGreat
open Go.RowKit Go.Shelf
attribute [local go_sem] Oper.semAt_some

set_option maxRecDepth 100000 in
set_option maxHeartbeats 1600000 in
theorem fieldsContain (F : Nat) (cap : Array Value) (eg : ∀ args w, (callFunc F args).run Tryz.prog w = .ok (.enter F args) w) (p : FieldD → Bool) (A : Option Addr) (c : Nat) (D : List FieldD) (S : Nat → Prop) (w : World) (h : SlAt FieldD.cells 15 S w A c D)
    (hF : ∀ d ∈ D, ∀ wx, Below w.heap.size w wx → Calls Tryz.prog F (#[d.agg] ++ cap) wx fun e w' => e = .returned (.bool (p d)) ∧ Below wx.heap.size wx w') :
    Calls Tryz.prog 140 #[.slice A D.length c, .func (.func F) #[] cap] w fun e w' => e = .returned (.bool (D.any p)) ∧ Below w.heap.size w w' := by
  have HI := Lib.hid (fieldsIndex F cap eg p A c D S w h hF)
  have hnn : decide (0 ≤ idxOf p D) = D.any p := by
    rw [Bool.eq_iff_iff, decide_eq_true_iff]
    exact idx_nonneg p D 0
  obtain ⟨k, hk⟩ : ∃ k, idxOf p D = k := ⟨_, rfl⟩
  rw [hk] at HI hnn
  obtain ⟨bv, hbv⟩ : ∃ bv, D.any p = bv := ⟨_, rfl⟩
  rw [hbv] at hnn ⊢
  clear h hF hk hbv
  go_enter Tryz.func140, Tryz.ntmps140
  go_wp2_with fail
  refine HI.out.mono ?_
  rintro e w2 ⟨rfl, hb2⟩
  have HB2 := Lib.hid hb2
  clear hb2
  go_wp2_with fail
  go_ret
  exact ⟨rfl, HB2.out⟩

theorem Tryz.entLoose : ∀ args w, (callFunc 161 args).run Tryz.prog w = .ok (.enter 161 args) w := enters_of Tryz.func161 (by kernel_rfl) rfl
set_option maxRecDepth 100000 in
set_option maxHeartbeats 1600000 in
theorem loose_any (d : FieldD) (w : World) : Calls Tryz.prog 161 #[d.agg] w fun e w' => e = .returned (.bool d.loose) ∧ Below w.heap.size w w' := by
  unfold FieldD.agg
  have hal := below_alloc w (.cells #[.string (strL d.name), .int .i64 d.kind, .int .i64 d.bits, .bool d.little, .bool d.loose, .int .i64 d.low, .int .i64 d.high, .int .i64 d.base, .slice d.ta d.terms.length d.tc, .string (strL d.of_), .string (strL d.tag), .string (strL d.from_), .slice d.ca d.cases.length d.cc, .int .i64 d.check, .int .i64 d.key] 55)
  have hbx := FBox.new w d
  obtain ⟨b, eb⟩ : ∃ b, w.heap.size = b := ⟨_, rfl⟩
  obtain ⟨w1, hw1⟩ : ∃ w1, w.alloc (.cells #[.string (strL d.name), .int .i64 d.kind, .int .i64 d.bits, .bool d.little, .bool d.loose, .int .i64 d.low, .int .i64 d.high, .int .i64 d.base, .slice d.ta d.terms.length d.tc, .string (strL d.of_), .string (strL d.tag), .string (strL d.from_), .slice d.ca d.cases.length d.cc, .int .i64 d.check, .int .i64 d.key] 55) = w1 := ⟨_, rfl⟩
  rw [hw1] at hal hbx
  rw [eb] at hbx
  have HW := Lib.hid hw1
  have EB := Lib.hid eb
  have HAL := Lib.hid hal
  have y4 := hbx.c4
  clear hal hbx eb hw1
  go_enter Tryz.func161, Tryz.ntmps161
  go_upto_region 1 with fail
  rw [HW.out, EB.out]
  go_wp2_with fail
  go_ret
  exact ⟨rfl, HAL.out⟩

/-- What a name adds to a nature. -/
def natStep (E : Nats) (n : Int × Bool) (s : List UInt8) : Int × Bool := (max n.1 (1 + ((getN E s).getD (0, false)).1), n.2 && ((getN E s).getD (0, false)).2)
def natF (E : Nats) (n : Int × Bool) (N : List (List UInt8)) : Int × Bool := N.foldl (natStep E) n
/-- The nature of a message of these fields. -/
def natS (E : Nats) (D : List FieldD) : Int × Bool := natF E (1, !(D.any (·.loose))) (refsN D)

/-- A nature in a block of its own. -/
structure NBox (W : World) (b : Nat) (n : Int × Bool) : Prop where
  blk : W.heap[b]? = some (.cells #[.int .i64 n.1, .bool n.2] 123 (0, 0))
section
variable {W W' : World} {b : Nat} {n : Int × Bool}
theorem NBox.lt (h : NBox W b n) : b < W.heap.size := (Array.getElem?_eq_some_iff.1 h.blk).1
theorem NBox.new (W : World) (x : Int) (y : Bool) : NBox (W.alloc (.cells #[.int .i64 x, .bool y] 123)) W.heap.size (x, y) := ⟨heap_alloc_new W _⟩
theorem NBox.below {k : Nat} (h : NBox W b n) (hb : Below k W W') (hn : b < k) : NBox W' b n := ⟨(hb.block b hn).trans h.blk⟩
theorem NBox.c0 (h : NBox W b n) : W.cell? ⟨b, 0, none⟩ = some (.int .i64 n.1) := by simp [World.cell?, h.blk]
theorem NBox.c1 (h : NBox W b n) : W.cell? ⟨b, 1, none⟩ = some (.bool n.2) := by simp [World.cell?, h.blk]
theorem NBox.fr (h : NBox W b n) (o : Nat) : W.frozen? ⟨b, o, none⟩ = false := by simp [World.frozen?, h.blk]
theorem NBox.set0 (h : NBox W b n) (u : Int) : NBox (W.setCell ⟨b, 0, none⟩ (.int .i64 u)) b (u, n.2) := ⟨heap_setCell_same W b 0 _ 123 (.int .i64 u) h.blk⟩
theorem NBox.set1 (h : NBox W b n) (u : Bool) : NBox (W.setCell ⟨b, 1, none⟩ (.bool u)) b (n.1, u) := ⟨heap_setCell_same W b 1 _ 123 (.bool u) h.blk⟩
theorem NBox.put {lr : Nat} (h : NBox W b n) (o : Obj) (hne : b ≠ lr) : NBox (W.putObj lr o) b n := ⟨(World.putObj_heap_other hne).trans h.blk⟩
end
theorem Tryz.fieldNat0 (a : Int) (s : Bool) (w : World) : (Instr.field 123 (.agg #[.int .i64 a, .bool s]) 0).run Tryz.prog w = .ok (.int .i64 a) w := by kernel_rfl
theorem Tryz.fieldNat1 (a : Int) (s : Bool) (w : World) : (Instr.field 123 (.agg #[.int .i64 a, .bool s]) 1).run Tryz.prog w = .ok (.bool s) w := by kernel_rfl

/-- Between two names: the record and the nature alone have turned. -/
structure NJ (W1 : World) (lr Dd nb : Nat) (r : Loop) (n : Int × Bool) (W : World) : Prop where
  rest : Rest (fun i => i = lr ∨ i = nb) W1 W
  rec_ : RecAt W lr Dd r
  box : NBox W nb n
section
variable {W1 W W' : World} {lr Dd nb : Nat} {r : Loop} {n : Int × Bool}
theorem NJ.later (h : NJ W1 lr Dd nb r n W) (hb : Below W.heap.size W W') : NJ W1 lr Dd nb r n W' :=
  ⟨h.rest.trans (Rest.below (S := fun _ => False) hb) (fun _ _ e => e.elim), h.rec_.below hb (Array.getElem?_eq_some_iff.1 h.rec_.rec_).1 (Array.getElem?_eq_some_iff.1 h.rec_.dfr).1, h.box.below hb h.box.lt⟩
theorem NJ.set0 (h : NJ W1 lr Dd nb r n W) (u : Int) (h1 : lr ≠ nb) (h2 : Dd ≠ nb) : NJ W1 lr Dd nb r (u, n.2) (W.setCell ⟨nb, 0, none⟩ (.int .i64 u)) :=
  ⟨h.rest.setCell (p := ⟨nb, 0, none⟩) (fun _ => .inr rfl) _, h.rec_.rest (S := fun i => i = nb) ((Rest.refl (fun i => i = nb) W).setCell (S := fun i => i = nb) (p := ⟨nb, 0, none⟩) (fun _ => rfl) _) h1 h2, h.box.set0 u⟩
theorem NJ.set1 (h : NJ W1 lr Dd nb r n W) (u : Bool) (h1 : lr ≠ nb) (h2 : Dd ≠ nb) : NJ W1 lr Dd nb r (n.1, u) (W.setCell ⟨nb, 1, none⟩ (.bool u)) :=
  ⟨h.rest.setCell (p := ⟨nb, 1, none⟩) (fun _ => .inr rfl) _, h.rec_.rest (S := fun i => i = nb) ((Rest.refl (fun i => i = nb) W).setCell (S := fun i => i = nb) (p := ⟨nb, 1, none⟩) (fun _ => rfl) _) h1 h2, h.box.set1 u⟩
theorem look_nat {E : Nats} {s : List UInt8} : ((getE (natE E) s).getD (.agg #[.int .i64 0, .bool false])) = natV ((getN E s).getD (0, false)) := by
  rw [getE_nat]; cases getN E s <;> rfl
theorem NJ.put (h : NJ W1 lr Dd nb r n W) (r' : Loop) (n2 : lr ≠ Dd) (n3 : nb ≠ lr) : NJ W1 lr Dd nb r' n (W.putObj lr (.loop r')) :=
  ⟨h.rest.trans (rest_putObj W lr (.loop r')) (fun _ _ e => .inl e), h.rec_.put n2 r', h.box.put _ n3⟩
end

theorem slAt_fnb {n0 nb N : Nat} {W : World} {A : Option Addr} {c : Nat} {D : List (List UInt8)} (h : SlAt strCells 1 (fun i => i < n0) W A c D) (hn : nb < n0) (hN : W.heap.size ≤ N) : SlAt strCells 1 (fun i => N ≤ i ∨ i = nb) W A c D := by
  refine ⟨h.1, h.2.1, fun i d hi => ?_⟩
  obtain ⟨g, o, h1, h2, h3⟩ := h.2.2 i d hi
  have := World.block_lt_of_cell? _ _ (h3 0 (.string (strL d)) rfl)
  exact ⟨g, o, h1, by simp only at this h2; omega, h3⟩

set_option maxRecDepth 100000 in
set_option maxHeartbeats 6400000 in
theorem natureOf_any (nm : List UInt8) (A : Option Addr) (c : Nat) (D : List FieldD) (S : Nat → Prop) (kr : Nat) (E : Nats) (w : World) (h : SlAt FieldD.cells 15 S w A c D) (hlen : (D.flatMap targB).length ≤ 4000000000)
    (ht : ∀ d ∈ D, ∀ wx, Below w.heap.size w wx → Calls Tryz.prog 74 #[d.agg] wx fun e w' => ∃ A c, e = .returned (.slice A (targB d).length c) ∧ SlAt strCells 1 (fun i => i < wx.heap.size) w' A c (targB d) ∧ Below wx.heap.size wx w')
    (hm : MapAt w kr (natE E)) (hE : ∀ s, 0 ≤ ((getN E s).getD (0, false)).1 ∧ ((getN E s).getD (0, false)).1 ≤ 1000) :
    Calls Tryz.prog 147 #[.agg #[.string (strL nm), .slice A D.length c], .map (some kr)] w fun e w' => e = .returned (natV (natS E D)) ∧ Below w.heap.size w w' := by
  obtain ⟨wa, hwa⟩ : ∃ wa, w.alloc (.cells #[.string (strL nm), .slice A D.length c] 36) = wa := ⟨_, rfl⟩
  obtain ⟨wb, hwb⟩ : ∃ wb, wa.alloc (.cells #[.map (some kr)] 88) = wb := ⟨_, rfl⟩
  obtain ⟨w1, hw1⟩ : ∃ w1, wb.alloc (.cells #[.int .i64 0, .bool false] 123) = w1 := ⟨_, rfl⟩
  have hw : ((w.alloc (.cells #[.string (strL nm), .slice A D.length c] 36)).alloc (.cells #[.map (some kr)] 88)).alloc (.cells #[.int .i64 0, .bool false] 123) = w1 := by rw [hwa, hwb, hw1]
  have ba : Below w.heap.size w wa := by rw [← hwa]; exact below_alloc _ _
  have bb : Below wa.heap.size wa wb := by rw [← hwb]; exact below_alloc _ _
  have b1 : Below wb.heap.size wb w1 := by rw [← hw1]; exact below_alloc _ _
  have sa : wa.heap.size = w.heap.size + 1 := by rw [← hwa]; simp
  have sb : wb.heap.size = w.heap.size + 1 + 1 := by rw [← hwb]; simp; omega
  have s1 : w1.heap.size = w.heap.size + 3 := by rw [← hw1]; simp; omega
  have hb1 : Below w.heap.size w w1 := (ba.trans (bb.mono (by omega))).trans (b1.mono (by omega))
  have hxm : w1.heap[w.heap.size]? = some (.cells #[.string (strL nm), .slice A D.length c] 36 (0, 0)) := ((b1.block _ (by omega)).trans (bb.block _ (by omega))).trans (by rw [← hwa]; exact heap_alloc_new w _)
  have hxk : Boxed w1 (w.heap.size + 1) 88 (.map (some kr)) := by
    refine boxed_below ?_ b1 (by omega)
    rw [← hwb, ← sa]
    exact Boxed.new wa _ _
  have hxn : NBox w1 (w.heap.size + 1 + 1) (0, false) := by rw [← hw1, ← sb]; exact NBox.new wb 0 false
  have h1 := h.below hb1
  have hm1 := hm.below hb1 hm.lt
  obtain ⟨b, eb⟩ : ∃ b, w.heap.size = b := ⟨_, rfl⟩
  rw [eb] at hxm hxk hxn s1
  have hbl : b < w1.heap.size := (Array.getElem?_eq_some_iff.1 hxm).1
  have KEEP : Hid (∀ wx, Below w1.heap.size w1 wx → wx.cell? ⟨b, 0, none⟩ = some (.string (strL nm)) ∧ wx.cell? ⟨b, 1, none⟩ = some (.slice A D.length c) ∧ wx.cell? ⟨b + 1, 0, none⟩ = some (.map (some kr)) ∧ NBox wx (b + 1 + 1) (0, false) ∧ MapAt wx kr (natE E)) := Lib.hid (fun wx hb => by
    have := (hb.block b hbl).trans hxm
    exact ⟨by simp [World.cell?, this], by simp [World.cell?, this], (boxed_below hxk hb hxk.lt).cell, hxn.below hb hxn.lt, hm1.below hb hm1.lt⟩)
  have HCF := fieldsContain 161 #[] Tryz.entLoose (·.loose) A c D S w1 h1 (fun d _ wx _ => loose_any d wx)
  have HRF : Hid (∀ wx, Below w1.heap.size w1 wx → Calls Tryz.prog 36 #[.agg #[.string (strL nm), .slice A D.length c]] wx fun e w' => ∃ qb A' c', e = .returned (.func (.func 101) #[] #[.pointer (some ⟨qb, 0, none⟩)]) ∧ Below wx.heap.size wx w' ∧ SeqAt wx.heap.size w' qb (refsN D) A' c') := Lib.hid (fun wx hb => refers_any nm A c D S wx (h1.below hb) hlen (fun d hd wy hy => ht d hd wy (hb1.trans ((hb.trans (hy.mono hb.size)).mono hb1.size))))
  obtain ⟨lo, hlo⟩ : ∃ lo, D.any (·.loose) = lo := ⟨_, rfl⟩
  obtain ⟨N, hN⟩ : ∃ N, refsN D = N := ⟨_, rfl⟩
  obtain ⟨Z, hZ⟩ : ∃ Z, natS E D = Z := ⟨_, rfl⟩
  have hz : Z = natF E (1, !lo) N := by rw [← hZ]; unfold natS; rw [hlo, hN]
  obtain ⟨zd, zs⟩ := Z
  have HNL0 := addAll_len (D.flatMap targB) []
  rw [show addAll [] (D.flatMap targB) = N from hN] at HNL0
  have HNL : Hid (N.length ≤ 9223372036854775807) := Lib.hid (by simp only [List.length_nil, Nat.zero_add] at HNL0; omega)
  rw [hlo] at HCF
  rw [hN] at HRF
  rw [hZ]
  have HCF := Lib.hid HCF
  have HZ := Lib.hid hz
  have HEE := Lib.hid hE
  have HW := Lib.hid hw
  have EB := Lib.hid eb
  have HB1 := Lib.hid hb1
  have S1 := Lib.hid s1
  obtain ⟨y0, y1, _, _, _⟩ := KEEP.out w1 (Below.refl _ _)
  clear h hlen ht hm hE hwa hwb hw1 hw ba bb b1 sa sb s1 hb1 hxm hxk hxn h1 hm1 hbl hlo hN hZ hz eb HNL0
  refine (callsIn_wide (n := 6)).1 ?_
  refine callsIn_of_wp_marks Tryz.func147 rfl trivial ?_ rfl
  simp only [Tryz.ntmps147, List.size_toArray, List.length_cons, List.length_nil, Nat.reduceAdd, Nat.reduceSub, Array.replicate_succ, Array.replicate_zero, List.push_toArray, List.append_toArray, List.nil_append, List.cons_append]
  refine wpIn_wide.2 ?_
  go_upto_region 1 with fail
  rw [HW.out, EB.out]
  go_wp2_with fail
  refine HCF.out.mono ?_
  rintro e w2 ⟨rfl, hb2⟩
  have hal3 := below_alloc w2 (.cells #[.int .i64 1, .bool (!lo)] 123)
  have hn3 := NBox.new w2 1 (!lo)
  obtain ⟨nb, enb⟩ : ∃ nb, w2.heap.size = nb := ⟨_, rfl⟩
  obtain ⟨w3, hw3⟩ : ∃ w3, w2.alloc (.cells #[.int .i64 1, .bool (!lo)] 123) = w3 := ⟨_, rfl⟩
  rw [hw3] at hal3 hn3
  rw [enb] at hn3
  have hb13 := hb2.trans (hal3.mono hb2.size)
  obtain ⟨z0, z1, _, _, _⟩ := KEEP.out w3 hb13
  have HN3 := Lib.hid hn3
  have HB13 := Lib.hid hb13
  have W3 := Lib.hid hw3
  have ENB := Lib.hid enb
  have NBG := Lib.hid (show w1.heap.size ≤ nb by have := hb2.size; omega)
  clear hb2 hal3 hn3 hw3 enb hb13 y0 y1
  go_upto_region 2 with fail
  rw [W3.out, ENB.out]
  go_wp2_with fail
  refine (HRF.out w3 HB13.out).mono ?_
  rintro e w4 ⟨qb, A', c', rfl, hb4, hseq⟩
  have HB14 := Lib.hid (HB13.out.trans (hb4.mono HB13.out.size))
  have HN4 := Lib.hid (HN3.out.below hb4 HN3.out.lt)
  have SQ := Lib.hid hseq
  clear hb4 hseq z0 z1
  go_wp2_with fail
  refine (wpIn_wide (n := 6)).1 ?_
  gi_wp2_with fail
  refine open_joined (gf := 101) (lb := #[.pointer (some ⟨qb, 0, none⟩)]) (by decide) rfl Tryz.entVals (fun W => Rest (fun i => i = nb) w4 W ∧ NBox W nb (zd, zs) ∧ W.heap[w4.heap.size]? = some (.deferred (some []))) .skip ?turn0 ?brk0 ?rest0
  case brk0 =>
    intro fr W h
    exact wpIn_skip h
  case turn0 =>
    intro W1 rr hrr hb1 hsz hR
    obtain ⟨fn, hrr⟩ := hrr
    obtain ⟨D2, hD⟩ : ∃ D2, w4.heap.size = D2 := ⟨_, rfl⟩
    rw [hD] at hrr hb1 hsz hR ⊢
    obtain ⟨lr, hlr⟩ : ∃ lr, D2 + 1 = lr := ⟨_, rfl⟩
    rw [hlr] at hR ⊢
    have hb1' : Below w4.heap.size w4 W1 := by rw [hD]; exact hb1
    have SQ1 := Lib.hid (SQ.out.below hb1')
    have NB1 := Lib.hid (HN4.out.below hb1' HN4.out.lt)
    have hnb : nb < D2 := by have := HN4.out.lt; omega
    have hfen := (slAt_fnb SQ.out.sl (nb := nb) HN3.out.lt (N := lr) (by omega)).rest (Rest.below (S := fun _ => False) hb1') (fun _ _ e => e.elim)
    have SLF := Lib.hid hfen
    have HRR := Lib.hid hrr
    have HR := Lib.hid hR
    have HB1x := Lib.hid hb1'
    have HLE := Lib.hid (show D2 < lr by omega)
    have HD2 := Lib.hid hD
    have HNB := Lib.hid hnb
    clear hrr hb1 hsz hR hD hlr hb1' hnb hfen
    refine (strs_at 5 (by decide) lr qb c' (fun i => lr ≤ i ∨ i = nb) A' N (fun pre W => NJ W1 lr D2 nb (rr .ready none) (natF E (1, !lo) pre) W) (fun _ _ => False) (fun pre W W' h hb => h.later hb) HNL.out (fun pre W h => SLF.out.rest h.rest (fun i _ e => by rcases e with e | e; exact .inl (by omega); exact .inr e)) ?hY W1 SQ1.out.bx.cell ⟨Rest.refl _ _, HR.out, NB1.out⟩).mono ?post0
    case post0 =>
      rintro e W2 ⟨hv, (hj | ⟨pre, hp, hf⟩)⟩
      · refine ⟨hv, .inl ⟨hj.rec_, fun o => ⟨?_, by rw [HZ.out]; exact hj.box.put o (by have := HLE.out; have := HNB.out; omega), (World.putObj_heap_other (show D2 ≠ lr by have := HLE.out; omega)).trans hj.rec_.dfr⟩⟩⟩
        have h1 := HLE.out
        have h2 := HD2.out
        have h3 : Rest (fun i => i = lr ∨ i = nb) w4 (W2.putObj lr o) := ((Rest.below (S := fun i => i = lr ∨ i = nb) HB1x.out).trans hj.rest (fun _ _ e => e)).trans (rest_putObj W2 lr o) (fun _ _ e => .inl e)
        exact ⟨h3.os, h3.tape, h3.output, h3.size, fun k hk hs => h3.block k hk (fun e => by rcases e with e | e; omega; exact hs e)⟩
      · exact hf.elim
    case hY =>
      intro pre x W hj hpx
      have JW := Lib.hid hj
      obtain ⟨⟨nd, ns⟩, hn⟩ : ∃ n, natF E (1, !lo) pre = n := ⟨_, rfl⟩
      rw [hn] at JW
      have hstep : natF E (1, !lo) (pre ++ [x]) = natStep E (nd, ns) x := by rw [← hn]; simp [natF, List.foldl_append]
      obtain ⟨⟨a, s⟩, ha⟩ : ∃ v, (getN E x).getD (0, false) = v := ⟨_, rfl⟩
      have hbd := HEE.out x
      rw [ha] at hbd
      obtain ⟨hbd1, hbd2⟩ := hbd
      obtain ⟨mx, hmx⟩ : ∃ mx, max nd (1 + a) = mx := ⟨_, rfl⟩
      have hst2 : natF E (1, !lo) (pre ++ [x]) = (mx, ns && s) := by rw [hstep]; unfold natStep; rw [ha, ← hmx]
      have fmx : (if nd < 1 + a then 1 + a else nd) = mx := by rw [← hmx]; split <;> omega
      have HA := Lib.hid ha
      have HST := Lib.hid hst2
      clear hj hpx hn hstep hmx ha hst2
      refine named_round HRR.out JW.out.rec_ rfl ?a10 ?asg0 ?body0
      case asg0 =>
        intro K hK
        have HK := Lib.hid hK
        clear hK
        gi_wp2
        exact HK.out
      case body0 =>
        intro W2 hW2
        have n2 : lr ≠ D2 := by have := HLE.out; omega
        have n3 : nb ≠ lr := by have := HLE.out; have := HNB.out; omega
        have n4 : D2 ≠ nb := by have := HNB.out; omega
        have hj2 : NJ W1 lr D2 nb (rr .busy none) (nd, ns) W2 := by rw [hW2]; exact JW.out.put _ n2 n3
        have KB := Lib.hid (fun Wx (hj : NJ W1 lr D2 nb (rr .busy none) (mx, ns) Wx ∨ NJ W1 lr D2 nb (rr .busy none) (nd, ns) Wx) => KEEP.out Wx (HB14.out.trans (((Rest.below (S := fun i => i = lr ∨ i = nb) HB1x.out).trans (hj.elim (fun h => h.rest) (fun h => h.rest)) (fun _ _ e => e)).toBelow w1.heap.size HB14.out.size (fun i hi e => by have h1 := HLE.out; have h2 := HD2.out; have h3 := HB14.out.size; have h4 := NBG.out; rcases e with e | e <;> omega))))
        obtain ⟨_, _, km, _, kmap⟩ := KB.out W2 (.inr hj2)
        have hrunA := run_look (P := Tryz.prog) Tryz.underlying88 Tryz.ustr (Tryz.zeroNat W2) kmap x
        rw [look_nat, HA.out] at hrunA
        unfold natV at hrunA
        have hfA := Tryz.fieldNat0 a s W2
        have q0 := hj2.box.c0
        have f0 := hj2.box.fr 0
        have hj3 := hj2.set0 mx (Ne.symm n3) n4
        obtain ⟨W3, hW3⟩ : ∃ W3, W2.setCell ⟨nb, 0, none⟩ (.int .i64 mx) = W3 := ⟨_, rfl⟩
        rw [hW3] at hj3
        obtain ⟨_, _, km3, _, kmap3⟩ := KB.out W3 (.inl hj3)
        have hrunB := run_look (P := Tryz.prog) Tryz.underlying88 Tryz.ustr (Tryz.zeroNat W3) kmap3 x
        rw [look_nat, HA.out] at hrunB
        unfold natV at hrunB
        have hfB := Tryz.fieldNat1 a s W3
        have p1 := hj3.box.c1
        have f1 := hj3.box.fr 1
        have HW3 := Lib.hid hW3
        have J3 := Lib.hid hj3
        clear hW2 hj2 kmap hW3 hj3 kmap3
        gi_upto_region 5 with fail
        rw [HW3.out]
        have J4 := Lib.hid (J3.out.set1 (ns && s) (Ne.symm n3) n4)
        clear q0 f0 hrunA hfA km
        cases ns with
        | false =>
          have J5 := Lib.hid (show NJ W1 lr D2 nb (rr .busy none) (mx, false) (W3.setCell ⟨nb, 1, none⟩ (.bool false)) from J4.out)
          gi_wp2_with fail
          exact ⟨J5.out.rec_, by rw [HST.out]; exact J5.out.put _ n2 n3⟩
        | true =>
          have J5 := Lib.hid (show NJ W1 lr D2 nb (rr .busy none) (mx, s) (W3.setCell ⟨nb, 1, none⟩ (.bool s)) by have := J4.out; rwa [Bool.true_and] at this)
          have HS5 := Lib.hid (show natF E (1, !lo) (pre ++ [x]) = (mx, s) by rw [HST.out, Bool.true_and])
          gi_wp2_with fail
          exact ⟨J5.out.rec_, by rw [HS5.out]; exact J5.out.put _ n2 n3⟩
  case rest0 =>
    rintro Wz ⟨hz1, hzn, hz2⟩
    obtain ⟨D2, hD⟩ : ∃ D2, w4.heap.size = D2 := ⟨_, rfl⟩
    rw [hD] at hz2 ⊢
    have hbb : Below w1.heap.size w1 Wz := HB14.out.trans (hz1.toBelow w1.heap.size HB14.out.size (fun i hi e => by have := NBG.out; omega))
    obtain ⟨_, _, _, hnx, _⟩ := KEEP.out Wz hbb
    have q0 := hzn.c0
    have q1 := hzn.c1
    have r0 := hnx.c0
    have r1 := hnx.c1
    have g0 := hnx.fr 0
    have g1 := hnx.fr 1
    have hDb : b + 1 + 1 < D2 := by have h1 := HB14.out.size; have h2 := S1.out; omega
    have hset := (hnx.set0 zd).set1 zs
    have hbw0 := (HB1.out.trans (hbb.mono HB1.out.size))
    have hbw := (hbw0.setCell (p := ⟨b + 1 + 1, 0, none⟩) (by show w.heap.size ≤ b + 1 + 1; have := EB.out; omega) (.int .i64 zd)).setCell (p := ⟨b + 1 + 1, 1, none⟩) (by show w.heap.size ≤ b + 1 + 1; have := EB.out; omega) (.bool zs)
    have hdf : ((Wz.setCell ⟨b + 1 + 1, 0, none⟩ (.int .i64 zd)).setCell ⟨b + 1 + 1, 1, none⟩ (.bool zs)).heap[D2]? = some (.deferred (some [])) := ((Below.heap_setCell _ ⟨b + 1 + 1, 1, none⟩ _ D2 (by show D2 ≠ b + 1 + 1; omega)).trans (Below.heap_setCell Wz ⟨b + 1 + 1, 0, none⟩ _ D2 (by show D2 ≠ b + 1 + 1; omega))).trans hz2
    have HNX := Lib.hid hnx
    have HSET := Lib.hid hset
    have HBW := Lib.hid hbw
    have HDF := Lib.hid hdf
    have HDB := Lib.hid hDb
    clear hz1 hzn hz2 hbb hnx hset hbw0 hbw hdf hDb hD SQ
    gi_wp2_with fail
    go_wp2_with fail
    obtain ⟨wX, hwX⟩ : ∃ wX, (Wz.setCell ⟨b + 1 + 1, 0, none⟩ (.int .i64 zd)).setCell ⟨b + 1 + 1, 1, none⟩ (.bool zs) = wX := ⟨_, rfl⟩
    have hset := HSET.out
    have hbw := HBW.out
    have k2 := HDF.out
    rw [hwX] at hset hbw k2 ⊢
    have hb10 : NBox (wX.putObj D2 (.deferred none)) (b + 1 + 1) (zd, zs) := hset.put _ (by have := HDB.out; omega)
    have hbw2 := hbw.grown (grownBy_putObj' wX D2 (.deferred none)) hbw.size (fun k e => by cases e; show w.heap.size ≤ D2; have := EB.out; have := HDB.out; omega)
    refine ⟨by simp, .inl ⟨_, _, rfl, run_takeDeferred k2, ?_⟩⟩
    exact ⟨natV (zd, zs), by have c0 := hb10.c0; have c1 := hb10.c1; simp [results, Tryz.results147, go_sem, c0, c1, natV], rfl, hbw2⟩
end Go.Proofs.YtbpkppmbbpoohaaGreat
