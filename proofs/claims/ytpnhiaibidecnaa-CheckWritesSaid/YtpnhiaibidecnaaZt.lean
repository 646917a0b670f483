/- The walk of CheckZeros. Conditions: the bytes lie in memory. -/
import Derived.Test.YtpnhiaibidecnaaZs
import Derived.Test.YtpnhiaibidecnaaZp
namespace Go.Proofs.Ytpnhiaibidecnaa
open Go.RowKit Go.Shelf

theorem own_take {w : World} {base : Nat} {A : Option Addr} {n c : Nat} {B : List Nat} (h : w.ownsRow base 5 1 (.slice A n c) n (u8s B)) (m : Nat) (hm : m ≤ n) : w.ownsRow base 5 1 (.slice A m c) m (u8s (B.take m)) := by
  have hl := h.1
  rw [u8s_length] at hl
  refine ⟨by rw [u8s_length, List.length_take]; omega, ?_⟩
  rcases h.2 with ⟨e, h0⟩ | ⟨g, cap, cur, e, hb, hh, h1, h2, h3, h4⟩
  · simp only [Value.slice.injEq] at e
    obtain ⟨rfl, rfl, rfl⟩ := e
    obtain rfl : m = 0 := by omega
    exact .inl ⟨rfl, rfl⟩
  · simp only [Value.slice.injEq] at e
    obtain ⟨rfl, _, rfl⟩ := e
    refine .inr ⟨g, c, cur, rfl, hb, hh, by omega, h2, h3, ?_⟩
    have := congrArg (List.take m) h4
    rw [List.take_take] at this
    rw [show min m (n * 1) = m * 1 by omega] at this
    rw [this]
    simp [u8s, List.map_take]
theorem own_below {w w' : World} {base : Nat} {v : Value} {n : Nat} {xs : List Value} (h : w.ownsRow base 5 1 v n xs) (hb : Below w.heap.size w w') : w'.ownsRow base 5 1 v n xs := Rest.row (S := fun _ => False) (Rest.below hb) h (fun _ _ e => e)
/-- What an append to a row of the call's own leaves below the call's own blocks. -/
theorem grown_below {w w' : World} {base : Nat} {v : Value} {n : Nat} {xs : List Value} (h : w.ownsRow base 5 1 v n xs) (hg : w.grownBy w' v.ownBlock) (hb : base ≤ w.heap.size) : Below base w w' :=
  ⟨hg.os, hg.tape, hg.output, hg.size, fun k hk => hg.block k (by omega) (fun e => by
    rcases h.2 with ⟨rfl, _⟩ | ⟨g, cap, cur, rfl, hb2, _⟩
    · simp [Value.ownBlock] at e
    · simp [Value.ownBlock] at e; omega)⟩

/-- Of, of a kind that exists. -/
theorem of_k (k : Nat) (hk : 1 ≤ k ∧ k ≤ 3) (A : Option Addr) (N C : Nat) (B : List Nat) (w : World) (hs : SrcAt w (.slice A N C) B) (hN : N = B.length) (h256 : ∀ x ∈ B, x < 256) (hp : N ≤ 4294967296) (V : Nat) (hV : valS k B = V) : Calls Try.prog 13 #[.int .i64 ((k : Nat) : Int), .slice A N C] w fun e w' => e = .returned (.tuple #[.int .i64 ((V : Nat) : Int), .int .i64 0]) ∧ Below w.heap.size w w' := by
  subst hV
  have := of_any ((k : Nat) : Int) A N C B w hs hN h256 hp
  rwa [ofC_k hk] at this

theorem bytesL_length (k s : Nat) : (bytesL k s).length ≤ 4 := by unfold bytesL; split <;> simp
theorem bytesL_low (k s : Nat) : ∀ c ∈ bytesL k s, c < 256 := by
  unfold bytesL
  split
  · intro c hc
    simp only [List.mem_cons, List.not_mem_nil, or_false] at hc
    omega
  · intro c hc
    simp only [List.mem_cons, List.not_mem_nil, or_false] at hc
    omega

set_option maxRecDepth 100000 in
set_option maxHeartbeats 6400000 in
theorem zerosLaw_walk (A : Option Addr) (N C : Nat) (B : List Nat) (w : World) (hs : SrcAt w (.slice A N C) B) (hN : N = B.length) (h256 : ∀ x ∈ B, x < 256) :
    Calls Try.prog 9 #[.slice A N C] w fun e w' => e = .returned (.bool true) ∧ Below w.heap.size w w' := by
  have KN := fun w => Lib.hid (known10_any w)
  by_cases hl : 2000 < N
  · clear hs hN h256
    go_enter Try.func9, Try.ntmps9
    go_wp2_with fail
    refine (KN _).out.mono ?_
    rintro e w' ⟨rfl, hb⟩
    go_wp2
    go_ret
    exact ⟨rfl, hb⟩
  · have HS := Lib.hid hs
    have HN := Lib.hid hN
    have H256 := Lib.hid h256
    have HL := Lib.hid hl
    clear hs hN h256
    go_enter Try.func9, Try.ntmps9
    go_wp2
    go_loopw [3] (fun x3 wr => ∃ j : Nat, 1 ≤ j ∧ j ≤ 3 ∧ x3 = .int .i64 ((j : Nat) : Int) ∧ Below w.heap.size w wr) (fun x3 _ => 3 - (intOf x3).toNat)
    case atStart => exact ⟨1, by omega, by omega, rfl, Below.refl _ _⟩
    case round =>
      obtain ⟨j, hj1, hj3, rfl, hbel⟩ := hrel
      have HW0 := Lib.hid hbel
      have hx := HS.out.below hbel HS.out.lt
      have hg : (wr.alloc (.cells #[] 5)).heap[wr.heap.size]? = some (.cells #[] 5 (0, 0)) := heap_alloc_last wr _
      have hx1 := hx.below ((Below.refl _ wr).alloc (Nat.le_refl _) (.cells #[] 5)) hx.lt
      obtain ⟨v1, w1, hrun1, hown1, hb1⟩ := run_append_zero 22 (base := w.heap.size) hg hbel.size (Nat.le_trans hbel.size (by simp)) hx1 (by have := HN.out; have := HL.out; omega)
      obtain ⟨A1, c1, rfl, hn1, hc1⟩ := own_form hown1
      rw [← HN.out] at hown1 hrun1 hn1
      have hb1' := hbel.trans ((((Below.refl _ wr).alloc (Nat.le_refl _) (.cells #[] 5)).trans (hb1.mono (by simp))).mono hbel.size)
      have HR1 := Lib.hid hrun1
      have HB1 := Lib.hid hb1'
      have HO1 := Lib.hid hown1
      clear hx hg hx1 hrun1 hown1 hb1 hb1' hbel
      obtain rfl | rfl | rfl : j = 1 ∨ j = 2 ∨ j = 3 := by omega
      · obtain ⟨M, hM⟩ : ∃ M : Nat, N / 2 * 2 = M := ⟨_, rfl⟩
        have hMi : ((N : Nat) : Int) / 2 * 2 = ((M : Nat) : Int) := by omega
        have hMN : M ≤ N := by omega
        have hMc : M ≤ c1 := by omega
        have hm := own_take HO1.out M hMN
        have hlow : ∀ x ∈ B.take M, x < 256 := fun x hx => H256.out x (List.mem_of_mem_take hx)
        have hlen : M = (B.take M).length := by rw [List.length_take, ← HN.out]; omega
        obtain ⟨V, hV⟩ : ∃ V, valS 1 (B.take M) = V := ⟨_, rfl⟩
        have hfit := fit_val 1 (B.take M) hlow (by omega)
        have hz := zero_one (B.take M) (by omega)
        rw [hV] at hfit hz
        have HOF := Lib.hid (of_k 1 (by omega) A1 M c1 (B.take M) w1 (SrcAt.of_row hm) hlen hlow (by have := HL.out; omega) V hV)
        have HBY := fun w => Lib.hid (bytes_any 1 V (by omega) hfit w)
        have HL4 := Lib.hid (bytesL_length 1 V)
        have HLO := Lib.hid (bytesL_low 1 V)
        unfold BytesOf at HBY
        obtain ⟨X, hX⟩ : ∃ X, bytesL 1 V = X := ⟨_, rfl⟩
        rw [hX] at HBY hz HL4 HLO
        have HZ := Lib.hid hz
        have HM := Lib.hid hm
        have HLW := Lib.hid hlow
        have HLE := Lib.hid hlen
        clear hm hlow hlen hV hfit hz hX hM
        go_wp2_with (at_builtin; refine wpList_append_eq rfl _ _ 22 rfl rfl rfl HR1.out ?_)
        refine HOF.out.mono ?_
        rintro e w2 ⟨rfl, hb2⟩
        have HB2 := Lib.hid (HB1.out.trans (hb2.mono HB1.out.size))
        have HM2 := Lib.hid (own_below HM.out hb2)
        clear hb2
        go_wp2_with fail
        refine (HBY _).out.mono ?_
        rintro e w3 ⟨a3, rfl, hs3, _, hb3⟩
        have HB3 := Lib.hid (HB2.out.trans (hb3.mono HB2.out.size))
        have hm3 := own_below HM2.out hb3
        obtain ⟨v4, w4, hrun4, hown4, hg4⟩ := run_append_ownS 22 hm3 HB3.out.size hs3 (by have := HL4.out; have := HL.out; omega)
        have HB4 := Lib.hid (HB3.out.trans (grown_below hm3 hg4 HB3.out.size))
        obtain ⟨A4, c4, rfl, hn4, hc4⟩ := own_form hown4
        have HR4 := Lib.hid hrun4
        have HOF4 := Lib.hid (of_k 1 (by omega) A4 (M + X.length) c4 (B.take M ++ X) w4 (SrcAt.of_row hown4) (by rw [List.length_append, ← HLE.out]) (fun x hx => by
          rcases List.mem_append.1 hx with h | h
          · exact HLW.out x h
          · exact HLO.out x h) (by have := HL4.out; have := HL.out; omega) 0 HZ.out)
        clear hs3 hb3 hm3 hrun4 hown4 hg4
        go_wp2_with (at_builtin; refine wpList_append_eq rfl _ _ 22 rfl rfl rfl HR4.out ?_)
        refine HOF4.out.mono ?_
        rintro e w5 ⟨rfl, hb5⟩
        have HB5 := Lib.hid (HB4.out.trans (hb5.mono HB4.out.size))
        clear hb5
        go_wp2
        go_roundw
        case rel => exact ⟨2, by omega, by omega, rfl, HB5.out⟩
        case measure => simp [intOf]
      · have hm := HO1.out
        obtain ⟨V, hV⟩ : ∃ V, valS 2 B = V := ⟨_, rfl⟩
        have hfit := fit_val 2 B H256.out (by omega)
        have hz := zero_two B H256.out
        rw [hV] at hfit hz
        have HOF := Lib.hid (of_k 2 (by omega) A1 N c1 B w1 (SrcAt.of_row hm) HN.out H256.out (by have := HL.out; omega) V hV)
        have HBY := fun w => Lib.hid (bytes_any 2 V (by omega) hfit w)
        have HL4 := Lib.hid (bytesL_length 2 V)
        have HLO := Lib.hid (bytesL_low 2 V)
        unfold BytesOf at HBY
        obtain ⟨X, hX⟩ : ∃ X, bytesL 2 V = X := ⟨_, rfl⟩
        rw [hX] at HBY hz HL4 HLO
        have HZ := Lib.hid hz
        have HM := Lib.hid hm
        clear hm hV hfit hz hX
        go_wp2_with (at_builtin; refine wpList_append_eq rfl _ _ 22 rfl rfl rfl HR1.out ?_)
        refine HOF.out.mono ?_
        rintro e w2 ⟨rfl, hb2⟩
        have HB2 := Lib.hid (HB1.out.trans (hb2.mono HB1.out.size))
        have HM2 := Lib.hid (own_below HM.out hb2)
        clear hb2
        go_wp2_with fail
        refine (HBY _).out.mono ?_
        rintro e w3 ⟨a3, rfl, hs3, _, hb3⟩
        have HB3 := Lib.hid (HB2.out.trans (hb3.mono HB2.out.size))
        have hm3 := own_below HM2.out hb3
        obtain ⟨v4, w4, hrun4, hown4, hg4⟩ := run_append_ownS 22 hm3 HB3.out.size hs3 (by have := HL4.out; have := HL.out; omega)
        have HB4 := Lib.hid (HB3.out.trans (grown_below hm3 hg4 HB3.out.size))
        obtain ⟨A4, c4, rfl, hn4, hc4⟩ := own_form hown4
        have HR4 := Lib.hid hrun4
        have HOF4 := Lib.hid (of_k 2 (by omega) A4 (N + X.length) c4 (B ++ X) w4 (SrcAt.of_row hown4) (by rw [List.length_append, ← HN.out]) (fun x hx => by
          rcases List.mem_append.1 hx with h | h
          · exact H256.out x h
          · exact HLO.out x h) (by have := HL4.out; have := HL.out; omega) 0 HZ.out)
        clear hs3 hb3 hm3 hrun4 hown4 hg4
        go_wp2_with (at_builtin; refine wpList_append_eq rfl _ _ 22 rfl rfl rfl HR4.out ?_)
        refine HOF4.out.mono ?_
        rintro e w5 ⟨rfl, hb5⟩
        have HB5 := Lib.hid (HB4.out.trans (hb5.mono HB4.out.size))
        clear hb5
        go_wp2
        go_roundw
        case rel => exact ⟨3, by omega, by omega, rfl, HB5.out⟩
        case measure => simp [intOf]
      · have HB := Lib.hid (show Below w.heap.size w wr from HW0.out)
        go_wp2_with fail
        refine (KN _).out.mono ?_
        rintro e w3 ⟨rfl, hb3⟩
        have HB3 := Lib.hid (HB.out.trans (hb3.mono HB.out.size))
        clear hb3
        go_wp2
        go_ret
        exact ⟨rfl, HB3.out⟩
end Go.Proofs.Ytpnhiaibidecnaa
