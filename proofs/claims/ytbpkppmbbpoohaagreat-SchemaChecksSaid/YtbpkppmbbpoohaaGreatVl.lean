/- Any message and any definition in an examination: Check and Valid. Conditions: the definition lies in memory, apart from what is made anew. A definition is copied. Conditions: its messages lie in memory, few enough. What an examination finds doesn't hang on where things lie. Plain facts. What a valid definition stays when messages come or go. Plain facts. -/
import Derived.Test.YtbpkppmbbpoohaaGreatVj
import Derived.Test.YtbpkppmbbpoohaaGreatTa
import Derived.Test.YtbpkppmbbpoohaaGreatJh
import Derived.Test.YtbpkppmbbpoohaaGreatCc
namespace Go.Proofs.YtbpkppmbbpoohaaGreat
open Go.RowKit Go.Shelf

theorem orM_none {r s : Option (Int × Int)} (h : orM r s = none) : r = none ∧ s = none := by
  cases r with
  | none => exact ⟨rfl, h⟩
  | some c => cases h
theorem orD_none {r s : Option (Int × Int × Int)} (h : orD r s = none) : r = none ∧ s = none := by
  cases r with
  | none => exact ⟨rfl, h⟩
  | some c => cases h
theorem fieldsR_none (fr : Nat → FieldD → Option Int) : ∀ (D : List FieldD) (k : Nat), fieldsR fr k D = none → ∀ i d, D[i]? = some d → fr (k + i) d = none
  | [], _, _, i, d, h => by simp at h
  | e :: D, k, hn, i, d, h => by
    obtain ⟨h1, h2⟩ := orM_none hn
    match i, h with
    | 0, h =>
      simp only [List.getElem?_cons_zero, Option.some.injEq] at h
      subst h
      cases hf : fr k e with
      | none => first | rfl | exact hf
      | some c => rw [hf] at h1; cases h1
    | i + 1, h =>
      simp only [List.getElem?_cons_succ] at h
      have := fieldsR_none fr D (k + 1) h2 i d h
      rwa [show k + 1 + i = k + (i + 1) by omega] at this
/-- What the examination of a field of a message finds. -/
def frA (E : Nats) (D : List FieldD) : Nat → FieldD → Option Int := fun i d => fieldAllR E (D.take i) d
theorem allow_take {E : Nats} {D : List FieldD} : ∀ n, (∀ i d, i < n → D[i]? = some d → frA E D i d = none) → AllowB (D.take n)
  | 0, _ => AllowB.nil
  | n + 1, h => by
    have ih := allow_take n (fun i d hi hd => h i d (by omega) hd)
    cases hd : D[n]? with
    | none =>
      have hl : D.length ≤ n := by rwa [List.getElem?_eq_none_iff] at hd
      rw [List.take_of_length_le (by omega)]
      rwa [List.take_of_length_le hl] at ih
    | some d =>
      rw [(drop_of hd).2]
      exact ih.snoc (h n d (by omega) hd)
theorem allow_of {E : Nats} {D : List FieldD} {n : Nat} (h : fieldsR (frA E D) 0 (D.take n) = none) : AllowB (D.take n) :=
  allow_take n (fun i d hi hd => by
    have := fieldsR_none _ _ _ h i d (by rw [List.getElem?_take, if_pos hi]; exact hd)
    rwa [Nat.zero_add] at this)
theorem cases_few {E : Nats} {D : List FieldD} (h : fieldsR (frA E D) 0 D = none) {d : FieldD} (hd : d ∈ D) (h9 : d.kind = 9) : d.cases.length ≤ 40 := by
  obtain ⟨i, hi, rfl⟩ := List.mem_iff_getElem.1 hd
  have h1 := fieldsR_none _ _ _ h i _ (List.getElem?_eq_getElem hi)
  have hc := (orR_none (orR_none (orR_none (orR_none h1).2).2).2).2
  simp only [condR, h9] at hc
  have h2 := (orR_none (orR_none hc).2).1
  have : 1 ≤ (D[i].cases.length : Int) ∧ (D[i].cases.length : Int) ≤ 40 := by simpa [inB] using ifR_none h2
  omega
theorem targ_few {d : FieldD} (h : d.kind = 9 → d.cases.length ≤ 40) : (targB d).length ≤ 40 := by
  unfold targB
  split
  · rename_i h9
    rw [List.length_map]
    exact h (by simpa using h9)
  · split <;> simp
theorem targs_few : ∀ (D : List FieldD), (∀ d ∈ D, (targB d).length ≤ 40) → (D.flatMap targB).length ≤ 40 * D.length
  | [], _ => by simp
  | d :: D, h => by
    have h1 := h d (by simp)
    have h2 := targs_few D (fun e he => h e (by simp [he]))
    simp only [List.flatMap_cons, List.length_append, List.length_cons]
    omega

/-- The depths that are known are small. -/
def NatsOk (E : Nats) : Prop := ∀ s, 0 ≤ ((getN E s).getD (0, false)).1 ∧ ((getN E s).getD (0, false)).1 ≤ 1000
theorem NatsOk.nil : NatsOk [] := fun s => by simp [getN]
theorem getN_set (E : Nats) (k : List UInt8) (v : Int × Bool) (n : List UInt8) : getN (setN E k v) n = if k = n then some v else getN E n := by
  induction E with
  | nil => simp [setN, getN]
  | cons p E ih =>
    simp only [setN]
    split
    · rename_i h
      simp only [getN, h]
      split <;> rfl
    · rename_i h
      simp only [getN]
      split
      · rename_i h2
        rw [if_neg (fun e => h (h2.trans e.symm))]
      · exact ih
theorem natF_ge (E : Nats) : ∀ (N : List (List UInt8)) (n : Int × Bool), n.1 ≤ (natF E n N).1
  | [], n => Int.le_refl _
  | s :: N, n => by
    have h1 := natF_ge E N (natStep E n s)
    have h2 : n.1 ≤ (natStep E n s).1 := Int.le_max_left _ _
    exact Int.le_trans h2 h1
/-- What the examination of a message finds. -/
def mrA : Nats → Nat → MsgD → Option (Int × Int) := fun E _ mm => msgR E (frA E mm.fields) mm.name mm.fields
theorem ifM_none {b : Bool} {f c : Int} (h : ifM b f c = none) : b = true := by
  cases b with
  | false => cases h
  | true => rfl
theorem NatsOk.step {E : Nats} {i : Nat} {mm : MsgD} (h : NatsOk E) (hr : mrA E i mm = none) : NatsOk (stepN E mm) := by
  intro s
  unfold stepN
  rw [getN_set]
  split
  · have h1 := ifM_none (orM_none (orM_none (orM_none (orM_none hr).2).2).2).2
    have h2 : (natS E mm.fields).1 ≤ 16 := by simpa using h1
    have h3 : 1 ≤ (natS E mm.fields).1 := natF_ge E (refsN mm.fields) (1, !(mm.fields.any (·.loose)))
    simp only [Option.getD_some]
    omega
  · exact h s
theorem msgsR_none : ∀ (D : List MsgD) (E : Nats) (k : Nat), msgsR mrA E k D = none → NatsOk E → NatsOk (D.foldl stepN E)
  | [], _, _, _, h => h
  | mm :: D, E, k, hn, h => by
    obtain ⟨h1, h2⟩ := orD_none hn
    have hm : mrA E k mm = none := by
      cases hf : mrA E k mm with
      | none => rfl
      | some c => rw [hf] at h1; cases h1
    exact msgsR_none D (stepN E mm) (k + 1) h2 (h.step hm)

set_option maxHeartbeats 1600000 in
theorem message_all (x kr kk n0 c0 : Nat) (m : Int) (A0 : Option Addr) (mm : MsgD) (S : Nat → Prop) (E : Nats) (w : World)
    (hx : ExAt w x m (-1) kr A0 n0 c0 kk) (hm : MapAt w kr (natE E)) (hk : MapI w kk (condE (.pointer (some ⟨x, 0, none⟩)))) (hxk : x ≠ kr) (hkx : kk ≠ x) (h : FieldsAt S w mm.fa mm.fc mm.fields) (hSx : S x) (hSk : S kr) (hE : NatsOk E) (i0 : Nat) :
    Calls Tryz.prog 117 #[.pointer (some ⟨x, 0, none⟩), mm.agg] w fun e w' => e = doM (mrA E i0 mm) m ∧ Rest (fun k => k = x ∨ k = kr) w w' ∧ (mrA E i0 mm = none → MapAt w' kr (natE (stepN E mm)) ∧ ∃ A' n' c', ExAt w' x m (-1) kr A' n' c' kk) := by
  refine message_any x kr kk n0 c0 m 0 A0 mm.name mm.fa mm.fc mm.fields S E (frA E mm.fields) w hx hm hxk h.1 hSx hSk hE (fun hn hr => ?_) (fun i d wx hd hp hr hex => ?_) (fun hp d hd wx hr => ?_)
  · have := targs_few mm.fields (fun d hd => targ_few (cases_few hr hd))
    omega
  · have hS := h.rest hr (fun k _ e => by rw [e]; exact hSx)
    have hi : i < mm.fields.length := (List.getElem?_eq_some_iff.1 hd).1
    have hlen : (mm.fields.take i).length = i := by rw [List.length_take]; omega
    have hex' : ExAt wx x m (i : Int) kr mm.fa (mm.fields.take i).length mm.fc kk := by rw [hlen]; exact hex
    have hok := hS.2 d (List.mem_of_getElem? hd)
    exact field_all x kr kk mm.fc m (i : Int) mm.fa (mm.fields.take i) d E S wx hex' (hS.1.take i mm.fc (by have := h.1.1; omega) h.1.2.1) (hk.rest hr hkx) (hm.rest hr (Ne.symm hxk)) hok.1 hok.2 (allow_of hp)
  · by_cases h9 : d.kind = 9
    · have hS := h.rest hr (fun k _ e => by rw [e]; exact hSx)
      exact targets_all d S wx (hS.2 d hd).2 (by have := cases_few hp hd h9; omega)
    · exact targets_any d wx h9

/-- The first flaw of a definition. -/
def defAllR (nm st : List UInt8) (D : List MsgD) : Option (Int × Int × Int) := defR mrA nm D st
set_option maxHeartbeats 1600000 in
theorem examine_all (nm st : List UInt8) (A : Option Addr) (c : Nat) (D : List MsgD) (S : Nat → Prop) (w : World) (h : MsgsAt S w A c D) (hS : ∀ k, w.heap.size ≤ k → S k) :
    Calls Tryz.prog 48 #[.agg #[.string (strL nm), .slice A D.length c, .string (strL st)]] w (ExPost (defAllR nm st D) (defE D) w) := by
  refine examine_any nm st A c D S mrA w h.1 (fun x kr kk hx hkr hxk i mm wx hd _ hp hb hex hm hki hkx hkk => ?_)
  obtain ⟨A', n', c', hex⟩ := hex
  have hE : NatsOk (defE (D.take i)) := msgsR_none _ _ _ hp NatsOk.nil
  exact message_all x kr kk n' c' _ A' mm S _ wx hex hm hki hxk hkx (FieldsAt.below (h.2 mm (List.mem_of_getElem? hd)) hb) (hS x hx) (hS kr hkr) hE i
theorem check_all (nm st : List UInt8) (A : Option Addr) (c : Nat) (D : List MsgD) (S : Nat → Prop) (w : World) (h : MsgsAt S w A c D) (hS : ∀ k, w.heap.size ≤ k → S k) :
    Calls Tryz.prog 13 #[.agg #[.string (strL nm), .slice A D.length c, .string (strL st)]] w fun e w' => e = .returned (.tuple #[.agg #[.int .i64 (flawT (defAllR nm st D)).1, .int .i64 (flawT (defAllR nm st D)).2.1, .int .i64 (flawT (defAllR nm st D)).2.2], .bool (defAllR nm st D).isSome]) ∧ Below w.heap.size w w' :=
  check_of nm st A D.length c _ (defE D) w (fun wx hb => examine_all nm st A c D S wx (h.below hb) (fun k hk => hS k (Nat.le_trans hb.size hk)))
theorem valid_all (nm st : List UInt8) (A : Option Addr) (c : Nat) (D : List MsgD) (S : Nat → Prop) (w : World) (h : MsgsAt S w A c D) (hS : ∀ k, w.heap.size ≤ k → S k) :
    Calls Tryz.prog 15 #[.agg #[.string (strL nm), .slice A D.length c, .string (strL st)]] w fun e w' => e = .returned (.bool (!(defAllR nm st D).isSome)) ∧ Below w.heap.size w w' :=
  valid_of nm st A D.length c _ (defE D) w (fun wx hb => examine_all nm st A c D S wx (h.below hb) (fun k hk => hS k (Nat.le_trans hb.size hk)))
end Go.Proofs.YtbpkppmbbpoohaaGreat

namespace Go.Proofs.YtbpkppmbbpoohaaGreat
open Go.RowKit Go.Shelf

/-- Messages and their copies. -/
structure CopD (lo : Nat) (W : World) (D : List MsgD) (A' : Option Addr) (D' : List MsgD) : Prop where
  len : D'.length = D.length
  row : W.ownsRow lo 36 2 (.slice A' D.length D.length) D.length (D'.flatMap MsgD.cells)
  cop : ∀ (j : Nat) (m m' : MsgD), D[j]? = some m → D'[j]? = some m' → CopM lo W m m'
theorem CopD.rest {lo : Nat} {S : Nat → Prop} {W W' : World} {D D' : List MsgD} {A' : Option Addr} (h : CopD lo W D A' D') (hr : Rest S W W') (hs : ∀ k, lo ≤ k → k < W.heap.size → ¬ S k) : CopD lo W' D A' D' :=
  ⟨h.len, hr.row h.row (fun k hk => hs k (own_ge h.row k hk).1 (own_ge h.row k hk).2), fun j d d' a b => (h.cop j d d' a b).rest hr hs⟩
theorem CopD.below {lo : Nat} {W W' : World} {D D' : List MsgD} {A' : Option Addr} (h : CopD lo W D A' D') (hb : Below W.heap.size W W') : CopD lo W' D A' D' := ⟨h.len, own_below h.row hb, fun j d d' a b => (h.cop j d d' a b).below hb⟩
theorem CopD.mono {lo lo' : Nat} {W : World} {D D' : List MsgD} {A' : Option Addr} (h : CopD lo W D A' D') (hl : lo' ≤ lo) : CopD lo' W D A' D' := ⟨h.len, own_mono h.row hl, fun j d d' a b => (h.cop j d d' a b).mono hl⟩
theorem CopD.ok {lo : Nat} {W : World} {D D' : List MsgD} {A' : Option Addr} (h : CopD lo W D A' D') : MsgsAt (fun k => k < lo) W A' D.length D' := ⟨slAt_own (t := 36) (fun _ => rfl) (by rw [h.len]; exact h.row), fun m' hm' => by
  obtain ⟨j, hj, e⟩ := List.getElem_of_mem hm'
  have hj' : D'[j]? = some m' := by rw [List.getElem?_eq_getElem hj, e]
  exact (h.cop j _ m' (List.getElem?_eq_getElem (by rw [← h.len]; exact hj)) hj').ok⟩

set_option maxRecDepth 100000 in
set_option maxHeartbeats 3200000 in
theorem copyDef (nm st : List UInt8) (A : Option Addr) (c : Nat) (D : List MsgD) (S : Nat → Prop) (w : World) (h : MsgsAt S w A c D) (hn : D.length ≤ 1000000) (hk : ∀ m ∈ D, FewM m) :
    Calls Tryz.prog 12 #[.agg #[.string (strL nm), .slice A D.length c, .string (strL st)]] w fun e w' => ∃ A' D', e = .returned (.agg #[.string (strL nm), .slice A' D.length D.length, .string (strL st)]) ∧ CopD w.heap.size w' D A' D' ∧ Below w.heap.size w w' := by
  obtain ⟨wa, hwa⟩ : ∃ wa, w.alloc (.cells #[.string (strL nm), .slice A D.length c, .string (strL st)] 24) = wa := ⟨_, rfl⟩
  obtain ⟨w1, hw1⟩ : ∃ w1, wa.alloc (.cells #[.string ⟨#[]⟩, .slice none 0 0, .string ⟨#[]⟩] 24) = w1 := ⟨_, rfl⟩
  have hw : (w.alloc (.cells #[.string (strL nm), .slice A D.length c, .string (strL st)] 24)).alloc (.cells #[.string ⟨#[]⟩, .slice none 0 0, .string ⟨#[]⟩] 24) = w1 := by rw [hwa, hw1]
  have ba : Below w.heap.size w wa := by rw [← hwa]; exact below_alloc _ _
  have b1 : Below wa.heap.size wa w1 := by rw [← hw1]; exact below_alloc _ _
  have sa : wa.heap.size = w.heap.size + 1 := by rw [← hwa]; simp
  have s1 : w1.heap.size = w.heap.size + 2 := by rw [← hw1]; simp; omega
  have hb1 : Below w.heap.size w w1 := ba.trans (b1.mono (by omega))
  have x1 : w1.heap[w.heap.size]? = some (.cells #[.string (strL nm), .slice A D.length c, .string (strL st)] 24 (0, 0)) := (b1.block _ (by omega)).trans (by rw [← hwa]; exact heap_alloc_new w _)
  have x2 : w1.heap[w.heap.size + 1]? = some (.cells #[.string ⟨#[]⟩, .slice none 0 0, .string ⟨#[]⟩] 24 (0, 0)) := by rw [← hw1, ← sa]; exact heap_alloc_new wa _
  have k1 : MsgsAt S w1 A c D := h.rest (Rest.below hb1) (fun _ _ e => e)
  obtain ⟨b, eb⟩ : ∃ b, w.heap.size = b := ⟨_, rfl⟩
  rw [eb] at x1 x2 s1
  have HRP := replacedM A c D S w1 k1 hn hk
  have HW := Lib.hid hw
  have EB := Lib.hid eb
  have HB1 := Lib.hid hb1
  have X1 := Lib.hid x1
  have X2 := Lib.hid x2
  have S1 := Lib.hid s1
  have HRP := Lib.hid HRP
  have q1 : w1.cell? ⟨b, 1, none⟩ = some (.slice A D.length c) := by simp [World.cell?, x1]
  clear h hk hn hwa hw1 hw ba b1 sa s1 hb1 x1 x2 k1 eb
  go_enter Tryz.func12, Tryz.ntmps12
  go_upto_region 1 with fail
  rw [HW.out, EB.out]
  go_wp2_with fail
  refine HRP.out.mono ?_
  rintro e w2 ⟨D', rfl, hl2, ho2, hc2, hb2⟩
  obtain ⟨g0, eg0⟩ : ∃ g0, w1.heap.size = g0 := ⟨_, rfl⟩
  rw [eg0] at ho2 hc2 ⊢
  have hcd : CopD g0 w2 D (some ⟨g0, 0, none⟩) D' := ⟨hl2, ho2, fun j d d' a c => (hc2 j d d' a c).mono (by omega)⟩
  have hx2 := (hb2.block b (by have := S1.out; omega)).trans X1.out
  have hy2 := (hb2.block (b + 1) (by have := S1.out; omega)).trans X2.out
  have f1 : w2.frozen? ⟨b, 1, none⟩ = false := by simp [World.frozen?, hx2]
  have c1 : w2.cell? ⟨b, 1, none⟩ = some (.slice A D.length c) := by simp [World.cell?, hx2]
  have hr3 := (Rest.refl (fun k => k = b) w2).setCell (S := fun k => k = b) (p := ⟨b, 1, none⟩) (fun _ => rfl) (.slice (some ⟨g0, 0, none⟩) D.length D.length)
  have hx3 := heap_setCell_same w2 b 1 _ 24 (.slice (some ⟨g0, 0, none⟩) D.length D.length) hx2
  simp only [List.setIfInBounds_toArray, List.set_cons_zero, List.set_cons_succ] at hx3
  have hy3 := (hr3.block (b + 1) (Array.getElem?_eq_some_iff.1 hy2).1 (show ¬ b + 1 = b by omega)).trans hy2
  have hc3 := hcd.rest hr3 (fun k h1 h2 e => by have := S1.out; omega)
  have hbb := (HB1.out.trans (hb2.mono HB1.out.size)).trans (hr3.toBelow w.heap.size (by have := HB1.out.size; have := hb2.size; omega) (fun k hk e => by have := EB.out; omega))
  obtain ⟨w3, hw3⟩ : ∃ w3, w2.setCell ⟨b, 1, none⟩ (.slice (some ⟨g0, 0, none⟩) D.length D.length) = w3 := ⟨_, rfl⟩
  rw [hw3] at hr3 hx3 hy3 hc3 hbb
  have W3 := Lib.hid hw3
  have Y3 := Lib.hid hy3
  have C3 := Lib.hid hc3
  have BB3 := Lib.hid hbb
  have EG := Lib.hid eg0
  have z0 : w3.cell? ⟨b, 0, none⟩ = some (.string (strL nm)) := by simp [World.cell?, hx3]
  have z1 : w3.cell? ⟨b, 1, none⟩ = some (.slice (some ⟨g0, 0, none⟩) D.length D.length) := by simp [World.cell?, hx3]
  have z2 : w3.cell? ⟨b, 2, none⟩ = some (.string (strL st)) := by simp [World.cell?, hx3]
  have v0 : w3.cell? ⟨b + 1, 0, none⟩ = some (.string ⟨#[]⟩) := by simp [World.cell?, hy3]
  have v1 : w3.cell? ⟨b + 1, 1, none⟩ = some (.slice none 0 0) := by simp [World.cell?, hy3]
  have v2 : w3.cell? ⟨b + 1, 2, none⟩ = some (.string ⟨#[]⟩) := by simp [World.cell?, hy3]
  have fr0 : w3.frozen? ⟨b + 1, 0, none⟩ = false := by simp [World.frozen?, hy3]
  have fr1 : w3.frozen? ⟨b + 1, 1, none⟩ = false := by simp [World.frozen?, hy3]
  have fr2 : w3.frozen? ⟨b + 1, 2, none⟩ = false := by simp [World.frozen?, hy3]
  clear q1 ho2 hb2 hx2 hr3 hx3 hy3 hc3 hbb hw3 hl2 hc2 hy2 eg0 hcd
  go_upto_region 2 with fail
  rw [W3.out]
  clear f1 c1
  go_wp2_with fail
  obtain ⟨cur', a1, a2, a3, a4, a5⟩ := setsAt_spec (b + 1) 24 [.string (strL nm), .slice (some ⟨g0, 0, none⟩) D.length D.length, .string (strL st)] w3 0 _ Y3.out
  have p0' := a4 0 _ rfl (by simp)
  have p1' := a4 1 _ rfl (by simp)
  have p2' := a4 2 _ rfl (by simp)
  obtain ⟨w4, hw4⟩ : ∃ w4, ((w3.setCell ⟨b + 1, 0, none⟩ (.string (strL nm))).setCell ⟨b + 1, 1, none⟩ (.slice (some ⟨g0, 0, none⟩) D.length D.length)).setCell ⟨b + 1, 2, none⟩ (.string (strL st)) = w4 := ⟨_, rfl⟩
  have he : setsAt w3 (b + 1) 0 [.string (strL nm), .slice (some ⟨g0, 0, none⟩) D.length D.length, .string (strL st)] = w4 := hw4
  rw [he] at a1 a5
  rw [hw4]
  have p0 : w4.cell? ⟨b + 1, 0, none⟩ = some (.string (strL nm)) := by simpa [World.cell?, a1] using p0'
  have p1 : w4.cell? ⟨b + 1, 1, none⟩ = some (.slice (some ⟨g0, 0, none⟩) D.length D.length) := by simpa [World.cell?, a1] using p1'
  have p2 : w4.cell? ⟨b + 1, 2, none⟩ = some (.string (strL st)) := by simpa [World.cell?, a1] using p2'
  have B5 := Lib.hid (BB3.out.trans (a5.toBelow w.heap.size (by have := BB3.out.size; have := EB.out; have := (Array.getElem?_eq_some_iff.1 Y3.out).1; omega) (fun k hk e => by have := EB.out; omega)))
  have C5 := Lib.hid ((C3.out.rest a5 (fun k h1 h2 e => by have := S1.out; have := EG.out; omega)).mono (show w.heap.size ≤ g0 by have := S1.out; have := EG.out; have := EB.out; omega))
  clear a1 a2 a3 a4 a5 p0' p1' p2' hw4 he
  refine bodyPost_ret (by simp [results, Tryz.results12, go_sem, p0, p1, p2]; try rfl) rfl ?_
  exact ⟨some ⟨g0, 0, none⟩, D', rfl, C5.out, B5.out⟩
end Go.Proofs.YtbpkppmbbpoohaaGreat

namespace Go.Proofs.YtbpkppmbbpoohaaGreat
open Go.RowKit Go.Shelf

/-- A field, a message without places. -/
def normF (d : FieldD) : FieldD := { d with ta := none, tc := 0, ca := none, cc := 0 }
def normM (m : MsgD) : MsgD := { name := m.name, fa := none, fc := 0, fields := m.fields.map normF }

set_option linter.unusedSimpArgs false in
theorem clrD_norm (d : FieldD) : clrD (normF d) = normF (clrD d) := by
  unfold clrD normF
  simp only
  by_cases h1 : d.kind = 1
  · simp only [h1, if_true]
  by_cases h2 : d.kind = 2
  · simp only [h1, h2, if_true, if_false]; rfl
  by_cases h3 : d.kind = 3
  · simp only [h1, h2, h3, if_true, if_false]; rfl
  by_cases h4 : d.kind = 4
  · simp only [h1, h2, h3, h4, if_true, if_false]; rfl
  by_cases h5 : d.kind = 5
  · simp only [h1, h2, h3, h4, h5, if_true, if_false]; rfl
  by_cases h6 : d.kind = 6
  · simp only [h1, h2, h3, h4, h5, h6, if_true, if_false]; rfl
  by_cases h7 : d.kind = 7
  · simp only [h1, h2, h3, h4, h5, h6, h7, if_true, if_false]; rfl
  by_cases h8 : d.kind = 8
  · simp only [h1, h2, h3, h4, h5, h6, h7, h8, if_true, if_false]; rfl
  by_cases h9 : d.kind = 9
  · simp only [h1, h2, h3, h4, h5, h6, h7, h8, h9, if_true, if_false]; rfl
  by_cases h10 : d.kind = 10
  · simp only [h1, h2, h3, h4, h5, h6, h7, h8, h9, h10, if_true, if_false]; rfl
  by_cases h11 : d.kind = 11
  · simp only [h1, h2, h3, h4, h5, h6, h7, h8, h9, h10, h11, if_true, if_false]; rfl
  by_cases h12 : d.kind = 12
  · simp only [h1, h2, h3, h4, h5, h6, h7, h8, h9, h10, h11, h12, if_true, if_false]; rfl
  · simp only [h1, h2, h3, h4, h5, h6, h7, h8, h9, h10, h11, h12, if_false]
theorem spareB_norm (d : FieldD) : spareB (normF d) = spareB d := by
  unfold spareB
  rw [clrD_norm]
  exact congrArg (fun b => !b) (decide_eq_decide.2 Iff.rfl)
theorem ransP_norm (B : List FieldD) : ransP (B.map normF) = ransP B := by
  unfold ransP
  rw [List.foldl_map]
  rfl
theorem any_norm (B : List FieldD) (s : List UInt8) : (B.map normF).any (fun e => e.name == s) = B.any (fun e => e.name == s) := by
  rw [List.any_map]
  rfl
theorem condR_norm (E : Nats) (B : List FieldD) (d : FieldD) : condR E (B.map normF) (normF d) = condR E B d := by
  have h1 : sizeAllR (B.map normF) (normF d) = sizeAllR B d := by
    unfold sizeAllR sizeR
    rw [ransP_norm]
    rfl
  have h2 : choiceR E (B.map normF) (normF d) = choiceR E B d := by
    unfold choiceR
    rw [ransP_norm, List.any_map]
    rfl
  have h3 : checkR (B.map normF) (normF d) = checkR B d := by
    unfold checkR
    rw [any_norm]
    rfl
  unfold condR
  rw [h1, h2, h3]
  rfl
theorem fieldAllR_norm (E : Nats) (B : List FieldD) (d : FieldD) : fieldAllR E (B.map normF) (normF d) = fieldAllR E B d := by
  unfold fieldAllR
  rw [condR_norm, spareB_norm, any_norm]
  rfl
theorem fieldsR_norm (E : Nats) (D : List FieldD) : fieldsR (frA E (D.map normF)) 0 (D.map normF) = fieldsR (frA E D) 0 D := by
  suffices h : ∀ (F : List FieldD) (k : Nat), fieldsR (frA E (D.map normF)) k (F.map normF) = fieldsR (frA E D) k F from h D 0
  intro F
  induction F with
  | nil => intro k; rfl
  | cons d F ih =>
    intro k
    simp only [List.map_cons, fieldsR, ih]
    congr 1
    unfold frA
    rw [← List.map_take, fieldAllR_norm]
theorem refsN_norm (D : List FieldD) : refsN (D.map normF) = refsN D := by
  unfold refsN
  congr 1
  rw [List.flatMap_map]
  rfl
theorem natS_norm (E : Nats) (D : List FieldD) : natS E (D.map normF) = natS E D := by
  unfold natS
  rw [refsN_norm, List.any_map]
  rfl
theorem mrA_norm (E : Nats) (i : Nat) (mm : MsgD) : mrA E i (normM mm) = mrA E i mm := by
  unfold mrA msgR normM
  simp only [fieldsR_norm, natS_norm, List.length_map]
theorem stepN_norm (E : Nats) (mm : MsgD) : stepN E (normM mm) = stepN E mm := by
  unfold stepN normM
  simp only [natS_norm]
theorem foldN_norm : ∀ (D : List MsgD) (E : Nats), (D.map normM).foldl stepN E = D.foldl stepN E
  | [], _ => rfl
  | m :: D, E => by
    simp only [List.map_cons, List.foldl_cons, stepN_norm]
    exact foldN_norm D _
theorem defE_norm (D : List MsgD) : defE (D.map normM) = defE D := foldN_norm D []
theorem msgsR_norm : ∀ (D : List MsgD) (E : Nats) (k : Nat), msgsR mrA E k (D.map normM) = msgsR mrA E k D
  | [], _, _ => rfl
  | m :: D, E, k => by
    simp only [List.map_cons, msgsR, mrA_norm, stepN_norm, msgsR_norm D]
theorem defAllR_norm (nm st : List UInt8) (D : List MsgD) : defAllR nm st (D.map normM) = defAllR nm st D := by
  unfold defAllR defR
  rw [msgsR_norm, defE_norm, List.length_map]
/-- Definitions that differ by places alone. -/
theorem defAllR_like {nm st : List UInt8} {D D' : List MsgD} (h : D'.map normM = D.map normM) : defAllR nm st D' = defAllR nm st D := by
  rw [← defAllR_norm nm st D', h, defAllR_norm]
theorem copF_norm {lo : Nat} {W : World} {d d' : FieldD} (h : CopF lo W d d') : normF d' = normF d := by
  rw [h.same]
  rfl
theorem copM_norm {lo : Nat} {W : World} {m m' : MsgD} (h : CopM lo W m m') : normM m' = normM m := by
  unfold normM
  have h1 : m'.fields.map normF = m.fields.map normF := by
    apply List.ext_getElem?
    intro i
    rw [List.getElem?_map, List.getElem?_map]
    by_cases hi : i < m.fields.length
    · have hi' : i < m'.fields.length := by rw [h.len]; exact hi
      rw [List.getElem?_eq_getElem hi, List.getElem?_eq_getElem hi']
      simp only [Option.map_some]
      rw [copF_norm (h.cop i _ _ (List.getElem?_eq_getElem hi) (List.getElem?_eq_getElem hi'))]
    · have hi' : ¬ i < m'.fields.length := by rw [h.len]; exact hi
      rw [List.getElem?_eq_none (by omega), List.getElem?_eq_none (by omega)]
  rw [h1, h.name]
theorem copD_norm {lo : Nat} {W : World} {D D' : List MsgD} {A : Option Addr} (h : CopD lo W D A D') : D'.map normM = D.map normM := by
  apply List.ext_getElem?
  intro i
  rw [List.getElem?_map, List.getElem?_map]
  by_cases hi : i < D.length
  · have hi' : i < D'.length := by rw [h.len]; exact hi
    rw [List.getElem?_eq_getElem hi, List.getElem?_eq_getElem hi']
    simp only [Option.map_some]
    rw [copM_norm (h.cop i _ _ (List.getElem?_eq_getElem hi) (List.getElem?_eq_getElem hi'))]
  · have hi' : ¬ i < D'.length := by rw [h.len]; exact hi
    rw [List.getElem?_eq_none (by omega), List.getElem?_eq_none (by omega)]
end Go.Proofs.YtbpkppmbbpoohaaGreat

namespace Go.Proofs.YtbpkppmbbpoohaaGreat
open Go.RowKit Go.Shelf

theorem ifD_none {b : Bool} {c : Int} (h : ifD b c = none) : b = true := by
  cases b with
  | false => cases h
  | true => rfl
structure ValidD (st : List UInt8) (nm : List UInt8) (D : List MsgD) : Prop where
  name : nameB nm = true
  least : 1 ≤ D.length
  most : D.length ≤ 60
  msgs : msgsR mrA [] 0 D = none
  start : hasN (defE D) st = true
theorem validD_parts {nm st : List UInt8} {D : List MsgD} (h : defAllR nm st D = none) : ValidD st nm D := by
  obtain ⟨h1, h2⟩ := orD_none h
  obtain ⟨h3, h4⟩ := orD_none h2
  obtain ⟨h5, h6⟩ := orD_none h4
  have : 1 ≤ (D.length : Int) ∧ (D.length : Int) ≤ 60 := by simpa [inB] using ifD_none h3
  exact ⟨ifD_none h1, by omega, by omega, h5, ifD_none h6⟩
theorem validD_of {nm st : List UInt8} {D : List MsgD} (h : ValidD st nm D) : defAllR nm st D = none := by
  unfold defAllR defR
  have h3 : inB (D.length : Int) 1 60 = true := by
    have := h.least
    have := h.most
    simp [inB]
    omega
  rw [h.name, h3, h.msgs, h.start]
  rfl

/-- A flaw in a message stays the first one when a message is added. -/
theorem flaw_stays {nm st : List UInt8} {D : List MsgD} {x : MsgD} {p : Int × Int × Int} (h : defAllR nm st D = some p) (hp : 0 ≤ p.1) (hn : D.length ≤ 59) : defAllR nm st (D ++ [x]) = some p := by
  unfold defAllR defR at h ⊢
  cases h1 : nameB nm with
  | false =>
    rw [h1] at h
    cases h
    exact absurd hp (by decide)
  | true =>
    rw [h1] at h
    cases h2 : inB (D.length : Int) 1 60 with
    | false =>
      rw [h2] at h
      cases h
      exact absurd hp (by decide)
    | true =>
      rw [h2] at h
      have h3 : inB ((D ++ [x]).length : Int) 1 60 = true := by
        have : 1 ≤ (D.length : Int) ∧ (D.length : Int) ≤ 60 := by simpa [inB] using h2
        simp [inB]
        omega
      rw [h3, msgsR_app]
      cases h4 : msgsR mrA [] 0 D with
      | none =>
        rw [h4] at h
        cases h5 : hasN (defE D) st with
        | false =>
          rw [h5] at h
          cases h
          exact absurd hp (by decide)
        | true =>
          rw [h5] at h
          cases h
      | some q =>
        rw [h4] at h
        exact h

/-- What is known stays known. -/
def Knows (E F : Nats) : Prop := ∀ n v, getN E n = some v → getN F n = some v
theorem Knows.refl (E : Nats) : Knows E E := fun _ _ h => h
theorem Knows.trans {E F G : Nats} (h : Knows E F) (k : Knows F G) : Knows E G := fun n v e => k n v (h n v e)
theorem Knows.has {E F : Nats} (h : Knows E F) {s : List UInt8} (hs : hasN E s = true) : hasN F s = true := by
  unfold hasN at hs ⊢
  obtain ⟨v, hv⟩ := Option.isSome_iff_exists.1 hs
  rw [h s v hv]
  rfl
theorem hasN_set (E : Nats) (k : List UInt8) (v : Int × Bool) (n : List UInt8) : hasN (setN E k v) n = (decide (k = n) || hasN E n) := by
  unfold hasN
  rw [getN_set]
  by_cases h : k = n
  · rw [if_pos h]; simp [h]
  · rw [if_neg h]; simp [h]
theorem Knows.step {E : Nats} {mm : MsgD} (h : hasN E mm.name = false) : Knows E (stepN E mm) := by
  intro n v hv
  unfold stepN
  rw [getN_set, if_neg (fun e => by
    subst e
    unfold hasN at h
    rw [hv] at h
    cases h)]
  exact hv
structure MsgOkR (E : Nats) (mm : MsgD) : Prop where
  name : nameB mm.name = true
  once : hasN E mm.name = false
  few : inB (mm.fields.length : Int) 1 40 = true
  fields : fieldsR (frA E mm.fields) 0 mm.fields = none
  depth : (natS E mm.fields).1 ≤ 16
theorem msg_parts {E : Nats} {i : Nat} {mm : MsgD} (h : mrA E i mm = none) : MsgOkR E mm := by
  obtain ⟨h1, h2⟩ := orM_none h
  obtain ⟨h3, h4⟩ := orM_none h2
  obtain ⟨h5, h6⟩ := orM_none h4
  obtain ⟨h7, h8⟩ := orM_none h6
  exact ⟨ifM_none h1, by simpa using ifM_none h3, ifM_none h5, h7, by simpa using ifM_none h8⟩
theorem msg_of_parts {E : Nats} {i : Nat} {mm : MsgD} (h : MsgOkR E mm) : mrA E i mm = none := by
  unfold mrA msgR
  have h5 : decide ((natS E mm.fields).1 ≤ 16) = true := by simpa using h.depth
  rw [h.name, h.once, h.few, h.fields, h5]
  rfl
/-- Every message of those that pass passes where it stands. -/
theorem msgsR_each : ∀ (D : List MsgD) (E : Nats) (k : Nat), msgsR mrA E k D = none → ∀ i mm, D[i]? = some mm → MsgOkR ((D.take i).foldl stepN E) mm ∧ Knows ((D.take i).foldl stepN E) (D.foldl stepN E) ∧ getN (D.foldl stepN E) mm.name = some (natS ((D.take i).foldl stepN E) mm.fields)
  | [], _, _, _, i, mm, h => by simp at h
  | m :: D, E, k, hn, i, mm, h => by
    obtain ⟨h1, h2⟩ := orD_none hn
    have hm : mrA E k m = none := by
      cases hf : mrA E k m with
      | none => rfl
      | some c => rw [hf] at h1; cases h1
    have hp := msg_parts hm
    have hall := msgsR_each D (stepN E m) (k + 1) h2
    have hkn : Knows (stepN E m) (D.foldl stepN (stepN E m)) := by
      cases D with
      | nil => exact Knows.refl _
      | cons e D => exact (hall 0 e rfl).2.1
    match i, h with
    | 0, h =>
      simp only [List.getElem?_cons_zero, Option.some.injEq] at h
      subst h
      refine ⟨hp, (Knows.step hp.once).trans hkn, hkn _ _ ?_⟩
      show getN (stepN E m) m.name = some (natS E m.fields)
      unfold stepN
      exact getN_setN _ _ _
    | i + 1, h =>
      simp only [List.getElem?_cons_succ] at h
      exact hall i mm h
theorem fold_has : ∀ (D : List MsgD) (E : Nats) (s : List UInt8), hasN (D.foldl stepN E) s = (D.any (fun m => decide (m.name = s)) || hasN E s)
  | [], _, _ => by simp
  | m :: D, E, s => by
    rw [List.foldl_cons, fold_has D, List.any_cons]
    unfold stepN
    rw [hasN_set]
    cases decide (m.name = s) <;> cases D.any (fun m => decide (m.name = s)) <;> simp
theorem defE_has (D : List MsgD) (s : List UInt8) : hasN (defE D) s = D.any (fun m => decide (m.name = s)) := by
  unfold defE
  rw [fold_has]
  simp [hasN, getN]

/-- A valid definition without its last message, which is not the start. -/
theorem valid_less {nm st : List UInt8} {L : List MsgD} {z : MsgD} (h : defAllR nm st (L ++ [z]) = none) (hz : z.name ≠ st) : defAllR nm st L = none := by
  have hp := validD_parts h
  have h1 := hp.msgs
  rw [msgsR_app] at h1
  have hst := hp.start
  rw [defE_has, List.any_append] at hst
  have hst2 : L.any (fun m => decide (m.name = st)) = true := by simpa [hz] using hst
  refine validD_of ⟨hp.name, ?_, ?_, (orD_none h1).1, ?_⟩
  · cases L with
    | nil => simp at hst2
    | cons _ _ => simp
  · have := hp.most
    rw [List.length_append] at this
    omega
  · rw [defE_has]
    exact hst2
end Go.Proofs.YtbpkppmbbpoohaaGreat
