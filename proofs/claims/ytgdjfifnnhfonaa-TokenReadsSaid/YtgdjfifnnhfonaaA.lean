/- The small functions of a scanner: the classes of bytes, ended, first, advance, pass. Conditions: the scanner lies in memory; its place is far below the greatest number. -/
import Derived.Test.YtgdjfifnnhfonaaM
import Derived.Test.YtgdjfifnnhfonaaSh
import Derived.BigQuiet
import Derived.BigRegion
import Derived.Deep.QuietTactic
import Derived.Deep.RegionHeld3
import Derived.Shelf.Abstract
import Derived.OwnWalkIn
namespace Go.Proofs.Ytgdjfifnnhfonaa
open Go.RowKit Go.Shelf

theorem ret_bool {a b : Bool} (h : a = b) : Ending.returned (.bool a) = .returned (.bool b) := by rw [h]
theorem ret_int {k : IntKind} {a b : Int} (h : a = b) : Ending.returned (.int k a) = .returned (.int k b) := by rw [h]

def isBlank (n : Nat) : Bool := n == 32 || n == 9 || n == 10 || n == 13
def isCom (n : Nat) : Bool := n != 10
def isQ (n : Nat) : Bool := decide (32 ≤ n) && decide (n ≤ 126) && n != 34
def isDig (n : Nat) : Bool := decide (48 ≤ n) && decide (n ≤ 57)
def isLet (n : Nat) : Bool := decide (97 ≤ n) && decide (n ≤ 122) || decide (65 ≤ n) && decide (n ≤ 90)
def isWrd (n : Nat) : Bool := isLet n || isDig n || n == 95
def digOf (n : Nat) : Nat := if isDig n then n - 48 else if 97 ≤ n ∧ n ≤ 102 then n - 87 else if 65 ≤ n ∧ n ≤ 70 then n - 55 else 16

set_option maxRecDepth 100000 in
set_option maxHeartbeats 800000 in
theorem blank_any (n : Nat) (w : World) : Calls Try.prog 60 #[.int .u8 n] w fun e w' => e = .returned (.bool (isBlank n)) ∧ w' = w := by
  go_enter Try.func60, Try.ntmps60
  go_wp2
  all_goals (go_ret; refine ⟨ret_bool ?_, rfl⟩; rw [Bool.eq_iff_iff]; simp [isBlank, *]; try omega)

set_option maxRecDepth 100000 in
set_option maxHeartbeats 800000 in
theorem com_any (n : Nat) (w : World) : Calls Try.prog 63 #[.int .u8 n] w fun e w' => e = .returned (.bool (isCom n)) ∧ w' = w := by
  go_enter Try.func63, Try.ntmps63
  go_wp2
  all_goals (go_ret; refine ⟨ret_bool ?_, rfl⟩; rw [Bool.eq_iff_iff]; simp [isCom, *]; try omega)

set_option maxRecDepth 100000 in
set_option maxHeartbeats 800000 in
theorem q_any (n : Nat) (w : World) : Calls Try.prog 75 #[.int .u8 n] w fun e w' => e = .returned (.bool (isQ n)) ∧ w' = w := by
  go_enter Try.func75, Try.ntmps75
  go_wp2
  all_goals (go_ret; refine ⟨ret_bool ?_, rfl⟩; rw [Bool.eq_iff_iff]; simp [isQ, *]; try omega)

set_option maxRecDepth 100000 in
set_option maxHeartbeats 800000 in
theorem dig_any (n : Nat) (w : World) : Calls Try.prog 70 #[.int .u8 n] w fun e w' => e = .returned (.bool (isDig n)) ∧ w' = w := by
  go_enter Try.func70, Try.ntmps70
  go_wp2
  all_goals (go_ret; refine ⟨ret_bool ?_, rfl⟩; rw [Bool.eq_iff_iff]; simp [isDig, *]; try omega)

set_option maxRecDepth 100000 in
set_option maxHeartbeats 800000 in
theorem let_any (n : Nat) (w : World) : Calls Try.prog 66 #[.int .u8 n] w fun e w' => e = .returned (.bool (isLet n)) ∧ w' = w := by
  go_enter Try.func66, Try.ntmps66
  go_wp2
  all_goals (go_ret; refine ⟨ret_bool ?_, rfl⟩; rw [Bool.eq_iff_iff]; simp [isLet, *]; try omega)

set_option maxRecDepth 100000 in
set_option maxHeartbeats 800000 in
theorem wrd_any (n : Nat) (w : World) : Calls Try.prog 68 #[.int .u8 n] w fun e w' => e = .returned (.bool (isWrd n)) ∧ w' = w := by
  have HL := fun w => Lib.hid (let_any n w)
  have HD := fun w => Lib.hid (dig_any n w)
  cases h1 : isLet n <;> cases h2 : isDig n <;> rw [h1] at HL <;> rw [h2] at HD <;>
  · have H1 := Lib.hid h1
    have H2 := Lib.hid h2
    clear h1 h2
    go_enter Try.func68, Try.ntmps68
    go_wp2_with (first | (go_at_call 66; refine ((HL _).out).mono ?_; rintro e w' ⟨rfl, rfl⟩) | (go_at_call 70; refine ((HD _).out).mono ?_; rintro e w' ⟨rfl, rfl⟩))
    all_goals (go_ret; refine ⟨ret_bool ?_, rfl⟩; rw [Bool.eq_iff_iff]; simp [isWrd, H1.out, H2.out]; try omega)

theorem strL_toList (l : List UInt8) : (strL l).toList = l := by simp [strL]
def firstOf (l : List UInt8) : Nat := match l with | [] => 0 | b :: _ => b.toNat

set_option maxRecDepth 100000 in
set_option maxHeartbeats 800000 in
theorem ended_any (p ln cn : Nat) (l : List UInt8) (w : World) (h : KAt w p l ln cn) : Calls Try.prog 61 #[.pointer (some ⟨p, 0, none⟩)] w fun e w' => e = .returned (.bool l.isEmpty) ∧ w' = w := by
  have c2 := h.c2
  clear h
  go_enter Try.func61, Try.ntmps61
  go_wp2
  go_ret
  exact ⟨ret_bool (by rw [strL_toList]), rfl⟩

theorem strL_get (l : List UInt8) (i : Nat) (h : i < (strL l).size) : (strL l)[i] = l[i]'(by rwa [strL_size] at h) := by
  simp [strL, ByteArray.getElem_eq_getElem_data]

set_option maxRecDepth 100000 in
set_option maxHeartbeats 800000 in
theorem first_any (p ln cn : Nat) (l : List UInt8) (w : World) (h : KAt w p l ln cn) : Calls Try.prog 62 #[.pointer (some ⟨p, 0, none⟩)] w fun e w' => e = .returned (.int .u8 (firstOf l)) ∧ w' = w := by
  have c2 := h.c2
  have HE := Lib.hid (ended_any p ln cn l w h)
  clear h
  cases l with
  | nil =>
    go_enter Try.func62, Try.ntmps62
    go_wp2_with (go_at_call 61; refine HE.out.mono ?_; rintro e w' ⟨rfl, rfl⟩)
    go_ret
    exact ⟨rfl, rfl⟩
  | cons b l =>
    have h0 : 0 < (strL (b :: l)).size := by rw [strL_size]; simp
    go_enter Try.func62, Try.ntmps62
    go_wp2_with (go_at_call 61; refine HE.out.mono ?_; rintro e w' ⟨rfl, rfl⟩)
    go_ret
    exact ⟨by rw [strL_get]; rfl, rfl⟩

theorem adv_none (l : List UInt8) (h : 10 ∉ l) : ∀ q : Nat × Nat, adv l q = (q.1, q.2 + l.length) := by
  induction l with
  | nil => intro q; simp [adv]
  | cons b l ih =>
    intro q
    have hb : b ≠ 10 := fun e => h (by rw [e]; exact List.mem_cons_self)
    have e : adv (b :: l) q = adv l (if b = 10 then (q.1 + 1, 1) else (q.1, q.2 + 1)) := rfl
    rw [e, if_neg hb, ih (fun hm => h (List.mem_cons_of_mem _ hm))]
    simp; omega
theorem adv_fst (l : List UInt8) : ∀ q : Nat × Nat, (adv l q).1 = q.1 + l.count 10 := by
  induction l with
  | nil => intro q; simp [adv]
  | cons b l ih =>
    intro q
    have e : adv (b :: l) q = adv l (if b = 10 then (q.1 + 1, 1) else (q.1, q.2 + 1)) := rfl
    rw [e, ih]
    by_cases hb : b = 10
    · rw [if_pos hb, hb, List.count_cons_self]; simp; omega
    · rw [if_neg hb, List.count_cons_of_ne hb]
theorem adv_last (a c : List UInt8) (q : Nat × Nat) (h : 10 ∉ c) : adv (a ++ 10 :: c) q = (q.1 + (a ++ 10 :: c).count 10, 1 + c.length) := by
  have e1 : adv (a ++ 10 :: c) q = ((adv a q).1 + 1, 1 + c.length) := by
    rw [adv_append]
    have e : adv (10 :: c) (adv a q) = adv c ((adv a q).1 + 1, 1) := rfl
    rw [e, adv_none c h]
  have e2 := adv_fst (a ++ 10 :: c) q
  rw [e1] at e2 ⊢
  rw [← e2]

/-- Where the last line feed of a text stands. -/
theorem last_cases (l : List UInt8) : (Lib.lastIndexByte (strL l) 10 = -1 ∧ 10 ∉ l) ∨ ∃ a c, l = a ++ 10 :: c ∧ 10 ∉ c ∧ Lib.lastIndexByte (strL l) 10 = (a.length : Nat) := by
  have hg : ∀ j, j < l.length → (strL l).data[j]! = l[j]! := fun j hj => by simp [strL]
  rcases Lib.lastIndexByte_spec (strL l) 10 with ⟨e, hn⟩ | ⟨i, hi, e, hc, hn⟩
  · refine .inl ⟨e, fun hm => ?_⟩
    obtain ⟨j, hj, hv⟩ := List.getElem_of_mem hm
    refine hn j (by rw [strL_size]; exact hj) ?_
    rw [hg j hj, getElem!_pos l j hj, hv]
    rfl
  · rw [strL_size] at hi
    have hv : l[i] = 10 := by
      rw [hg i hi, getElem!_pos l i hi] at hc
      have : l[i].toNat = 10 := by omega
      exact UInt8.toNat_inj.1 this
    refine .inr ⟨l.take i, l.drop (i + 1), ?_, ?_, ?_⟩
    · rw [← hv, ← List.drop_eq_getElem_cons hi, List.take_append_drop]
    · intro hm
      obtain ⟨j, hj, hv2⟩ := List.getElem_of_mem hm
      rw [List.length_drop] at hj
      rw [List.getElem_drop] at hv2
      refine hn (i + 1 + j) (by omega) (by rw [strL_size]; omega) ?_
      rw [hg _ (by omega), getElem!_pos l _ (by omega), hv2]
      rfl
    · rw [e, List.length_take, Nat.min_eq_left (by omega)]

set_option maxRecDepth 100000 in
set_option maxHeartbeats 800000 in
theorem advance_any (p ln cn : Nat) (r l : List UInt8) (w : World) (h : KAt w p r ln cn) (h1 : ln ≤ 1099511627776) (h2 : cn ≤ 1099511627776) (h3 : l.length ≤ 1099511627776) :
    Calls Try.prog 78 #[.pointer (some ⟨p, 0, none⟩), .string (strL l)] w fun e w' => e = .returned (.tuple #[]) ∧ KAt w' p r (adv l (ln, cn)).1 (adv l (ln, cn)).2 ∧ Rest (fun k => k = p) w w' := by
  have HLI := fun w => Lib.hid (Try.strings_LastIndexByte (strL l) 10 (by rw [strL_size]; omega) w)
  have HK := Lib.hid h
  have c0 := h.c0
  have c1 := h.c1
  have f0 := h.fr 0
  have f1 := h.fr 1
  have hsz : (strL l).size = l.length := strL_size l
  clear h
  rcases last_cases l with ⟨e, hn⟩ | ⟨a, c, rfl, hn, e⟩
  · rw [e] at HLI
    have HN := Lib.hid hn
    clear e hn
    go_enter Try.func78, Try.ntmps78
    go_wp2_with (first | (go_at_call 82; refine ((HLI _).out).mono ?_; rintro e w' ⟨rfl, rfl⟩))
    go_end0
    refine ⟨rfl, ?_, (Rest.refl (fun k => k = p) _).setCell (S := fun k => k = p) (p := ⟨p, 1, none⟩) (fun _ => rfl) _⟩
    rw [adv_none _ HN.out]
    exact HK.out.set1 _
  · rw [e] at HLI
    have HN := Lib.hid hn
    have HCO := fun w => Lib.hid (Try.strings_Count_one (strL (a ++ 10 :: c)) 10 w)
    clear e hn
    go_enter Try.func78, Try.ntmps78
    go_wp2_with (first | (go_at_call 82; refine ((HLI _).out).mono ?_; rintro e w' ⟨rfl, rfl⟩))
    have hcb : ((ln : Nat) : Int) + ((Lib.countByte (strL (a ++ 10 :: c)).data.toList 10 : Nat) : Int) = (((adv (a ++ 10 :: c) (ln, cn)).1 : Nat) : Int) := by
      rw [strL_data, adv_fst]; unfold Lib.countByte; push_cast; rfl
    have hln : (adv (a ++ 10 :: c) (ln, cn)).1 ≤ 2199023255552 := by
      have := (adv_bound (a ++ 10 :: c) (ln, cn)).1
      simp only at this
      omega
    have hll : (a ++ 10 :: c).length = a.length + (c.length + 1) := by simp
    have hx : (strL (a ++ 10 :: c)).extract (a.length + 1) (a.length + (c.length + 1)) = strL c := by
      rw [← hll, strL_extract, List.take_length]
      simp
    have hsc : (strL c).size = c.length := strL_size c
    rw [hll] at hsz h3
    have ha3 : a.length ≤ 1099511627776 := by omega
    have hc3 : c.length ≤ 1099511627776 := by omega
    clear hll
    generalize hA1 : (adv (a ++ 10 :: c) (ln, cn)).1 = A1 at hcb hln
    generalize hCB : Lib.countByte (strL (a ++ 10 :: c)).data.toList 10 = CB at HCO hcb
    have HA1 := Lib.hid hA1
    clear hA1 hCB
    have hwr : IntKind.i64.wrap ((A1 : Nat) : Int) = ((A1 : Nat) : Int) := IntWalk.i64_in _ (by omega)
    have hwr2 : IntKind.i64.wrap (((ln : Nat) : Int) + ((CB : Nat) : Int)) = ((A1 : Nat) : Int) := by rw [hcb]; exact hwr
    clear hcb hwr
    go_region_with (go_at_call 83; refine ((HCO _).out).mono ?_; rintro e w2 ⟨rfl, rfl⟩)
    all_goals
      have hk3 := HK.out.set0 A1
      generalize hw3 : w'.setCell ⟨p, 0, none⟩ (.int .i64 A1) = w3 at hk3 ⊢
      have hk4 : KAt w3.drew p r A1 cn := ⟨hk3.obj⟩
      have hr4 : Rest (fun k => k = p) w' w3.drew := by
        rw [← hw3]
        exact ((Rest.refl (fun k => k = p) w').setCell (S := fun k => k = p) (p := ⟨p, 0, none⟩) (fun _ => rfl) _).drew
      generalize w3.drew = w4 at hk4 hr4 ⊢
      have d1 := hk4.c1
      have g1 := hk4.fr 1
      have K4 := Lib.hid hk4
      have R4 := Lib.hid hr4
      clear hk3 hw3 hk4 hr4 c0 c1 f0 f1 HK hwr2
      go_wp2_with fail
      go_end0
      have e2 : (adv (a ++ 10 :: c) (ln, cn)).2 = 1 + c.length := by rw [adv_last a c (ln, cn) HN.out]
      refine ⟨rfl, ?_, (R4.out.setCell (S := fun k => k = p) (p := ⟨p, 1, none⟩) (fun _ => rfl) _).setCell (S := fun k => k = p) (p := ⟨p, 1, none⟩) (fun _ => rfl) _⟩
      rw [HA1.out, e2, show (1 : Int) + ((c.length : Nat) : Int) = ((1 + c.length : Nat) : Int) by omega]
      exact (K4.out.set1 1).set1 _

set_option maxRecDepth 100000 in
set_option maxHeartbeats 800000 in
theorem pass_any (p ln cn n : Nat) (l : List UInt8) (w : World) (h : KAt w p l ln cn) (hn : n ≤ l.length) (h1 : ln ≤ 1099511627776) (h2 : cn ≤ 1099511627776) (h3 : l.length ≤ 1099511627776) :
    Calls Try.prog 72 #[.pointer (some ⟨p, 0, none⟩), .int .i64 n] w fun e w' => e = .returned (.string (strL (l.take n))) ∧ KAt w' p (l.drop n) (adv (l.take n) (ln, cn)).1 (adv (l.take n) (ln, cn)).2 ∧ Rest (fun k => k = p) w w' := by
  have c2 := h.c2
  have HA := Lib.hid (advance_any p ln cn l (l.take n) w h h1 h2 (by rw [List.length_take]; omega))
  have hs : (strL l).size = l.length := strL_size l
  have hx1 : (strL l).extract 0 n = strL (l.take n) := by rw [strL_extract, List.drop_zero]
  have hx2 : (strL l).extract n l.length = strL (l.drop n) := by rw [strL_extract, List.take_length]
  clear h
  go_enter Try.func72, Try.ntmps72
  go_wp2_with fail
  refine HA.out.mono ?_
  rintro e w1 ⟨rfl, hk, hr⟩
  have d2 := hk.c2
  have f2 := hk.fr 2
  have HK := Lib.hid hk
  have HR := Lib.hid hr
  clear hk hr c2 hx1 HA
  go_wp2_with fail
  go_ret
  exact ⟨rfl, HK.out.set2 _, HR.out.setCell (S := fun k => k = p) (p := ⟨p, 2, none⟩) (fun _ => rfl) _⟩
end Go.Proofs.Ytgdjfifnnhfonaa
