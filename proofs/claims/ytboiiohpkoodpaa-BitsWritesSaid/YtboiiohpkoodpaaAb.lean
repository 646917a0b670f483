/- Little of a reader, where no condition applies. Conditions: the reader lies in memory, at a border, has at most 1048576 bytes, and so many are left. -/
import Derived.Test.YtboiiohpkoodpaaAa
namespace Go.Proofs.Ytboiiohpkoodpaa
open Go.RowKit Go.Shelf Go.IntWalk

/-- The number of bytes, the least significant one first. -/
def leVal : List Nat → Nat
  | [] => 0
  | c :: r => c + 256 * leVal r
theorem leVal_snoc (l : List Nat) (c : Nat) : leVal (l ++ [c]) = leVal l + c * 2 ^ (8 * l.length) := by
  induction l with
  | nil => simp [leVal]
  | cons a r ih =>
    simp only [List.cons_append, leVal, ih, List.length_cons]
    rw [show 8 * (r.length + 1) = 8 * r.length + 8 by omega, Nat.pow_add, Nat.mul_add, ← Nat.mul_assoc, ← Nat.mul_assoc]
    have : 256 * c * 2 ^ (8 * r.length) = c * 2 ^ (8 * r.length) * 2 ^ 8 := by
      rw [Nat.mul_comm 256 c, Nat.mul_assoc, Nat.mul_assoc, Nat.mul_comm 256]
    rw [this]; omega
theorem leVal_lt (l : List Nat) (h : ∀ c ∈ l, c < 256) : leVal l < 2 ^ (8 * l.length) := by
  induction l with
  | nil => simp [leVal]
  | cons a r ih =>
    have := ih (fun c hc => h c (by simp [hc]))
    have ha := h a (by simp)
    simp only [leVal, List.length_cons]
    rw [show 8 * (r.length + 1) = 8 * r.length + 8 by omega, Nat.pow_add]
    omega

theorem or_step (x c k : Nat) (hx : x < 2 ^ (8 * k)) (hc : c < 256) (hk : k ≤ 3) : bits BinOp.or IntKind.i64 (x : Int) (wrap64 ((c : Int) * 2 ^ (8 * k))) = ((x + c * 2 ^ (8 * k) : Nat) : Int) := by
  have h1 : ((c : Int) * 2 ^ (8 * k)) = ((c * 2 ^ (8 * k) : Nat) : Int) := by simp
  have hp : 2 ^ (8 * k) ≤ 2 ^ 24 := Nat.pow_le_pow_right (by omega) (by omega)
  have hb : c * 2 ^ (8 * k) < 4294967296 := by
    have := Nat.mul_le_mul (show c ≤ 255 by omega) hp
    omega
  rw [h1, wrap64_in _ (by omega)]
  rw [(bits_nat .i64 62 (by decide) (fun n h0 h2 => IntWalk.i64_in n (by omega)) x (c * 2 ^ (8 * k)) (by omega) (by omega)).2]
  rw [Nat.or_comm, nat_join (8 * k) _ _ (Nat.mul_mod_left _ _) hx, Nat.add_comm]

theorem drop_take_snoc (B : List Nat) (q k : Nat) (h : q + k < B.length) : (B.drop q).take (k + 1) = (B.drop q).take k ++ [B.getD (q + k) 0] := by
  rw [List.take_succ_eq_append_getElem (by rw [List.length_drop]; omega), List.getElem_drop]
  simp [h]

set_option maxRecDepth 100000 in
set_option maxHeartbeats 800000 in
theorem rlittle_ok (b : Nat) (v : Value) (B : List Nat) (p n : Nat) (w : World) (h : RAt w b v B p) (hB : ∀ c ∈ B, c < 256) (hBl : B.length ≤ 1048576) (hn1 : 1 ≤ n) (hn2 : n ≤ 4) (hp8 : p % 8 = 0) (hp : p + 8 * n ≤ 8 * B.length) :
    Calls Try.prog 29 #[.pointer (some ⟨b, 0, none⟩), .int .i64 n] w fun e w' => e = .returned (.tuple #[.int .i64 (leVal ((B.drop (p / 8)).take n) : Nat), .int .i64 0]) ∧ RLeft b v B (p + 8 * n) w w' := by
  have hc : rlittleCode B.length p n = 0 := by
    unfold rlittleCode
    rw [if_pos (by simp [withinB]; omega), if_pos (by simp; omega), if_neg (by omega)]
  have hf := rlittle_first b v B p n w h hBl (by omega)
  rw [hc] at hf
  have HF := Lib.hid hf
  have H := Lib.hid h
  have HB := Lib.hid hB
  have hbx := box2_below w (.pointer (some ⟨b, 0, none⟩)) (.int .i64 n) 40 3
  have HB1 := Lib.hid (box2_1 w (.pointer (some ⟨b, 0, none⟩)) (.int .i64 n) 40 3)
  have HB2 := Lib.hid (box2_2 w (.pointer (some ⟨b, 0, none⟩)) (.int .i64 n) 40 3)
  have HBX := Lib.hid hbx
  obtain ⟨q, hq⟩ : ∃ q, p = 8 * q := ⟨p / 8, by omega⟩
  have hq8 : p / 8 = q := by omega
  rw [hq8]
  have HQ := Lib.hid hq
  have HQ8 := Lib.hid hq8
  clear h hc hf hbx hp8 hB hq hq8
  go_enter Try.func29, Try.ntmps29
  go_wp2_with fail
  refine HF.out.mono ?_
  rintro e w1 ⟨rfl, hb⟩
  have c1 := (boxed_below HB1.out hb (by omega)).cell
  have c2 := (boxed_below HB2.out hb (by omega)).cell
  have hbw : Below w.heap.size w w1 := HBX.out.trans (hb.mono (by omega))
  have HC := Lib.hid (cut_any b v B p q n w1 (H.out.below hbw) hBl HQ.out (by have := HQ.out; omega))
  have HBW := Lib.hid hbw
  clear hb hbw
  go_wp2_with fail
  refine HC.out.mono ?_
  rintro e w2 ⟨A, c, rfl, _, _, hr2, hce⟩
  obtain ⟨g, rfl, hcells⟩ := hce (by omega)
  clear hce
  rw [HQ8.out] at hcells ⊢
  have hrl : RLeft b v B (p + 8 * n) w w2 := ⟨hr2.1, (Rest.below HBW.out).trans hr2.2 (fun i _ e => e)⟩
  have HRL := Lib.hid hrl
  have HCE := Lib.hid hcells
  clear hr2 hrl hcells c1 c2
  go_wp2_with fail
  go_loopw [7, 28] (fun x i wr => ∃ k : Nat, k ≤ n ∧ i = .int .i64 k ∧ x = .int .i64 (leVal ((B.drop q).take k) : Nat) ∧ wr = w2) (fun _ i _ => n - (intOf i).toNat)
  case atStart => exact ⟨0, Nat.zero_le _, rfl, by simp [leVal], rfl⟩
  case round =>
    obtain ⟨k, hk, rfl, rfl, rfl⟩ := hrel
    by_cases hlt : k < n
    · have hcell := HCE.out k hlt
      have hqB : q + k < B.length := by have := HQ.out; omega
      obtain ⟨cc, hcc⟩ : ∃ cc, B.getD (q + k) 0 = cc := ⟨_, rfl⟩
      have hc256 : cc < 256 := by
        rw [← hcc, List.getD_eq_getElem?_getD, List.getElem?_eq_getElem hqB]
        exact HB.out _ (List.getElem_mem _)
      rw [hcc] at hcell
      have HCC := Lib.hid hcc
      clear hcc
      have hlk : ((B.drop q).take k).length = k := by rw [List.length_take, List.length_drop]; omega
      have hlv := leVal_lt ((B.drop q).take k) (fun c hc => HB.out c (List.mem_of_mem_drop (List.mem_of_mem_take hc)))
      rw [hlk] at hlv
      have hor := or_step (leVal ((B.drop q).take k)) cc k hlv hc256 (by omega)
      have hsn : leVal ((B.drop q).take (k + 1)) = leVal ((B.drop q).take k) + cc * 2 ^ (8 * k) := by
        rw [drop_take_snoc B q k hqB, leVal_snoc, hlk, HCC.out]
      have HOR := Lib.hid hor
      have HSN := Lib.hid hsn
      clear hlk hlv hor hsn
      go_wp2
      go_roundw
      case rel => exact ⟨k + 1, by omega, by go_num, by rw [HOR.out, HSN.out], trivial⟩
      case measure => simp [intOf]; omega
    · obtain rfl : k = n := by omega
      go_wp2
      go_ret2
      exact ⟨rfl, HRL.out⟩
end Go.Proofs.Ytboiiohpkoodpaa
