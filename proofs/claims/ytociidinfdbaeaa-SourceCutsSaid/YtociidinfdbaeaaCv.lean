/- The walk of SourceCuts. -/
import Derived.Test.YtociidinfdbaeaaCu
import Derived.StillTailTactics
namespace Go.Proofs.Ytociidinfdbaeaa
open Go.RowKit Go.Shelf

theorem feed_two {w w1 : World} {p p2 : Nat} {v v2 x : Value} {B B2 N : List Nat} {L L2 T T2 : Nat} {C C2 : Bool} (h : Two w w1 p v B L T C p2 v2 B2 L2 T2 C2) (hx : SrcAt w1 x N) (c : Int) (B' : List Nat) (hc : feedCode L B.length C N.length = c) (hB : (if c = 0 then B ++ N else B) = B') :
    Calls Try.prog 18 #[.pointer (some ⟨p, 0, none⟩), x] w1 fun e w' => e = .returned (.int .i64 c) ∧ ∃ v', Two w w' p v' B' L T C p2 v2 B2 L2 T2 C2 := by
  subst hc hB
  refine (feed_any p v x B N L T C w1 h.one.at_ hx).mono ?_
  rintro e w' ⟨rfl, v', hs, hk⟩
  exact ⟨rfl, v', h.step hs hk⟩

theorem feed_ok {L m : Nat} {k : Nat} (h : m + k ≤ L) : feedCode L m false k = 0 := by
  unfold feedCode
  rw [if_neg (by simp), if_neg (by omega)]

theorem src_mid {w W : World} {p : Nat} {v : Value} {B : List Nat} {L T : Nat} {C : Bool} (h : Mid w W p v B L T C) {s : Value} {N : List Nat} (hs : SrcAt w s N) : SrcAt W s N := hs.below h.below hs.lt

theorem strOf_size (B : List Nat) : (strOf B).size = B.length := by simp [strOf, ByteArray.size]

theorem h0w {w : World} {s : Value} {N : List Nat} (h : SrcAt w s N) : SrcAt w s N := h

set_option maxRecDepth 100000 in
set_option maxHeartbeats 8000000 in
theorem cuts_short (A0 A1 A2 : Option Addr) (A Ch Q : List Nat) (c0 c1 c2 : Nat) (w : World) (hA : A.length ≤ 500) (hCh : Ch.length ≤ 500) (hQ : Q.length ≤ 500)
    (h0 : SrcAt w (.slice A0 A.length c0) A) (h1 : SrcAt w (.slice A1 Ch.length c1) Ch) (h2 : SrcAt w (.slice A2 Q.length c2) Q) (hc0 : A.length ≤ c0) (b0 : ∀ y ∈ A, y < 256) (b1 : ∀ y ∈ Ch, y < 256) (b2 : ∀ y ∈ Q, y < 256) :
    Calls Try.prog 6 #[.slice A0 A.length c0, .slice A1 Ch.length c1, .slice A2 Q.length c2] w fun e w' => e = .returned (.bool true) ∧ Below w.heap.size w w' := by
  have H0 := Lib.hid h0
  have H1 := Lib.hid h1
  have H2 := Lib.hid h2
  have B0 := Lib.hid b0
  have B1 := Lib.hid b1
  have B2 := Lib.hid b2
  have HC0 := Lib.hid hc0
  clear h0 h1 h2 b0 b1 b2 hc0
  go_enter Try.func6, Try.ntmps6
  go_wp2_with fail
  refine (new_ok 1000 _ (by decide) (by decide)).mono ?_
  rintro e w1 ⟨rfl, hS, hb⟩
  obtain ⟨p, hp⟩ : ∃ p, w.heap.size = p := ⟨_, rfl⟩
  have hM : Mid w w1 p (.slice none 0 0) [] 1000 0 false := ⟨by rw [← hp]; exact hS, hb, by omega, fun k hk => by simp [Value.ownBlock] at hk⟩
  rw [hp]
  have HP := Lib.hid hp
  have M1 := Lib.hid hM
  clear hS hb hM hp
  go_wp2_with fail
  refine (new_ok 1000 _ (by decide) (by decide)).mono ?_
  rintro e w2 ⟨rfl, hS, hb⟩
  obtain ⟨p2, hp2⟩ : ∃ p2, w1.heap.size = p2 := ⟨_, rfl⟩
  have hT : Two w w2 p (.slice none 0 0) [] 1000 0 false p2 (.slice none 0 0) [] 1000 0 false := Two.mk' M1.out (by rw [← hp2]; exact hS) hb (by omega) (fun k hk => by simp [Value.ownBlock] at hk)
  rw [hp2]
  have HP2 := Lib.hid hp2
  have T2 := Lib.hid hT
  clear hS hb hT hp2
  have HF : ∀ wx, wx = w2 → Calls Try.prog 18 #[.pointer (some ⟨p, 0, none⟩), .slice A0 A.length c0] wx fun e w' => e = .returned (.int .i64 0) ∧ ∃ v', Two w w' p v' A 1000 0 false p2 (.slice none 0 0) [] 1000 0 false := fun wx hx => by
    subst hx
    exact feed_two T2.out (src_mid T2.out.one H0.out) 0 A (feed_ok (by simp; omega)) (by simp)
  have HF' := Lib.hid HF
  clear HF
  go_wp2_with fail
  refine (HF'.out _ rfl).mono ?_
  rintro e w3 ⟨rfl, v3, hT⟩
  have T3 := Lib.hid hT
  clear hT HF'
  go_wp2_with fail
  go_loopw [11, 12, 13] (fun a i n wr => ∃ k j : Nat, a = .int .i64 k ∧ i = .int .i64 j ∧ k ≤ A.length ∧ j ≤ k ∧ ∃ v v2, Two w wr p v A 1000 0 false p2 v2 (A.take k) 1000 0 false) (fun a _ _ _ => A.length - (intOf a).toNat)
  case atStart =>
    exact ⟨0, 0, rfl, rfl, Nat.zero_le _, Nat.le_refl _, v3, _, by rw [List.take_zero]; exact T3.out⟩
  case round =>
    obtain ⟨k, j, rfl, rfl, hk, hj, v, v2, hT⟩ := hrel
    have TT := Lib.hid hT
    clear hT
    by_cases hlt : k < A.length
    · have hmem := sub_src (src_mid TT.out.one H0.out) HC0.out k
      have hne : ¬ c0 = k := by have := HC0.out; omega
      simp only [if_neg hne] at hmem
      have HMEM := Lib.hid hmem
      clear hmem hne
      by_cases hjc : j < Ch.length
      · obtain ⟨a1, ha1, hcell⟩ := src_byte (src_mid TT.out.one H1.out) j hjc
        subst ha1
        obtain ⟨y, hy⟩ : ∃ y, Ch[j] = y := ⟨_, rfl⟩
        rw [hy] at hcell
        have hy2 : y < 256 := by rw [← hy]; exact B1.out _ (List.getElem_mem hjc)
        clear hy
        obtain ⟨m, hm, hkm, hm1⟩ : ∃ m : Nat, (if ((A.length : Nat) : Int) - (k : Nat) < 1 + ((y : Nat) : Int) % 50 then ((A.length : Nat) : Int) - (k : Nat) else 1 + ((y : Nat) : Int) % 50) = ((m : Nat) : Int) ∧ k + m ≤ A.length ∧ 1 ≤ m := by
          by_cases hc : ((A.length : Nat) : Int) - (k : Nat) < 1 + ((y : Nat) : Int) % 50
          · exact ⟨A.length - k, by rw [if_pos hc]; omega, by omega, by omega⟩
          · exact ⟨1 + y % 50, by rw [if_neg hc]; omega, by omega, by omega⟩
        have hlo : k + m ≤ c0 := by have := HC0.out; omega
        have HF := Lib.hid (feed_two TT.out.swap (HMEM.out m hkm) 0 (A.take (k + m)) (feed_ok (by simp; omega)) (by rw [if_pos rfl]; exact take_add' A k m))
        go_wp2_with fail
        refine HF.out.mono ?_
        rintro e w4 ⟨rfl, v', hT⟩
        have T4 := Lib.hid hT
        clear hT HF hm
        go_wp2_with fail
        go_roundw
        case rel =>
          exact ⟨k + m, j + 1, by go_num, by go_num, hkm, by omega, v, _, T4.out.swap⟩
        case measure => simp [intOf]; omega
      · obtain ⟨m, hm, hkm, hm1⟩ : ∃ m : Nat, (if ((A.length : Nat) : Int) - (k : Nat) < ((A.length : Nat) : Int) then ((A.length : Nat) : Int) - (k : Nat) else ((A.length : Nat) : Int)) = ((m : Nat) : Int) ∧ k + m ≤ A.length ∧ 1 ≤ m := by
          by_cases hc : ((A.length : Nat) : Int) - (k : Nat) < ((A.length : Nat) : Int)
          · exact ⟨A.length - k, by rw [if_pos hc]; omega, by omega, by omega⟩
          · exact ⟨A.length, by rw [if_neg hc], by omega, by omega⟩
        have hlo : k + m ≤ c0 := by have := HC0.out; omega
        have HF := Lib.hid (feed_two TT.out.swap (HMEM.out m hkm) 0 (A.take (k + m)) (feed_ok (by simp; omega)) (by rw [if_pos rfl]; exact take_add' A k m))
        go_wp2_with fail
        refine HF.out.mono ?_
        rintro e w4 ⟨rfl, v', hT⟩
        have T4 := Lib.hid hT
        clear hT HF hm
        go_wp2_with fail
        go_roundw
        case rel =>
          exact ⟨k + m, j + 1, by go_num, by go_num, hkm, by omega, v, _, T4.out.swap⟩
        case measure => simp [intOf]; omega
    · obtain rfl : k = A.length := by omega
      rw [List.take_length] at TT
      clear hk hj hlt T3 M1
      have hBB : Both w wr p p2 A 0 := ⟨⟨v, v2, by rw [List.drop_zero]; exact TT.out⟩, Nat.zero_le _⟩
      have BB := Lib.hid hBB
      clear TT hBB
      go_wp2_with fail
      go_loopw [14, 15] (fun dn i wr => ∃ T j : Nat, dn = .int .i64 T ∧ i = .int .i64 j ∧ j ≤ Q.length ∧ Both w wr p p2 A T) (fun _ i _ => Q.length - (intOf i).toNat)
      case atStart => exact ⟨0, 0, rfl, rfl, Nat.zero_le _, BB.out⟩
      case round =>
        clear BB T2 HP HP2 v v2 v3 H1 hCh B1
        obtain ⟨T, i, rfl, rfl, hi, hB⟩ := hrel
        have hTA := hB.lt
        have BB := Lib.hid hB
        have HS := Lib.hid ((h0w H0.out).below hB.below H0.out.lt)
        clear hB
        by_cases hlt : i < Q.length
        · obtain ⟨a2, ha2, hcell⟩ := src_byte (H2.out.below BB.out.below H2.out.lt) i hlt
          subst ha2
          obtain ⟨y, hy⟩ : ∃ y, Q[i] = y := ⟨_, rfl⟩
          rw [hy] at hcell
          have hy2 : y < 256 := by rw [← hy]; exact B2.out _ (List.getElem_mem hlt)
          have hat : ∀ wx, Below w.heap.size w wx → wx.cell? (a2.add i) = some (.int .u8 (y : Nat)) := fun wx hx => by
            obtain ⟨a3, ha3, hc3⟩ := src_byte (H2.out.below hx H2.out.lt) i hlt
            obtain rfl : a2 = a3 := by simpa using ha3
            rw [hy] at hc3
            exact hc3
          have HAT := Lib.hid hat
          clear hy hat
          have HY := Lib.hid hy2
          clear hy2
          go_upto_if 105 with fail
          go_cut [16, 17, 18, 19, 20] from 94 to 222 (fun sa sb sg sh sn wx => ∃ c N X1 d1 X2 d2 k, sa = .slice X1 N.length d1 ∧ sb = .slice X2 N.length d2 ∧ sg = .int .i64 c ∧ sh = .int .i64 c ∧ SrcAt wx (.slice X1 N.length d1) N ∧ SrcAt wx (.slice X2 N.length d2) N ∧ (∀ y ∈ N, y < 256) ∧ N.length ≤ 1000000 ∧ Both w wx p p2 A k)
          case first =>
            by_cases he : ((y : Nat) : Int) % 2 = 0
            · obtain ⟨c, N, k, hG, hz, hf1, hf2⟩ := both_take w p p2 A T hTA (by omega) (((y : Nat) : Int) % 20)
              obtain ⟨v, v2, hT⟩ := BB.out.ex
              have F1 := Lib.hid (hf1 _ _ _ hT)
              have F2 := Lib.hid hf2
              have G := Lib.hid hG
              have Z := Lib.hid hz
              have TT := Lib.hid hT
              clear hf1 hf2 hG hz hT
              have hy2 := HY.out
              go_wp2_with fail
              refine F1.out.mono ?_
              rintro e w4 ⟨X1, d1, v', rfl, hs1, hn1, hT2, hr1⟩
              have S1 := Lib.hid hs1
              have N1 := Lib.hid hn1
              have T4 := Lib.hid hT2
              clear hs1 hn1 hT2 hr1 F1 hcell he
              go_wp2_with fail
              refine (F2.out _ _ _ T4.out).mono ?_
              rintro e w5 ⟨X2, d2, v2', rfl, hs2, hn2, hT3, hr2⟩
              have S1' := Lib.hid (took_keeps TT.out S1.out N1.out hr2)
              have S2 := Lib.hid hs2
              have hB5 : Both w w5 p p2 A (T + k) := ⟨⟨_, _, hT3.swap⟩, G.out.fit⟩
              have B5 := Lib.hid hB5
              have HS5 := Lib.hid (H0.out.below hT3.one.below H0.out.lt)
              clear hs2 hn2 hT3 hr2 F2 hB5 S1 N1 T4 TT BB HS
              have h256 : ∀ y ∈ N, y < 256 := fun y hy => B0.out y (G.out.bytes y hy)
              obtain ⟨AX, hAX⟩ : ∃ AX, (if c0 = T then A0 else A0.map (·.add T)) = AX := ⟨_, rfl⟩
              have hca : ∀ n, (convert 29 9 (.slice X1 N.length d1)).run Try.prog (w5.drewN n) = .ok (.string (strOf N)) (w5.drewN n) := fun n => conv_src (S1'.out.below (below_drewN _ _) S1'.out.lt) h256
              have H256 := Lib.hid h256
              clear h256
              by_cases hc : c = 0
              · obtain ⟨hz1, hz2⟩ := Z.out hc
                have hsub := sub_src HS5.out HC0.out T N.length hz2
                rw [hAX, ← hz1] at hsub
                have hcx : ∀ n, (convert 29 9 (.slice AX N.length (c0 - T))).run Try.prog (w5.drewN n) = .ok (.string (strOf N)) (w5.drewN n) := fun n => conv_src (hsub.below (below_drewN _ _) hsub.lt) H256.out
                have hlo : T + N.length ≤ c0 := by have := HC0.out; omega
                clear hz1 hsub Z
                subst hc
                go_wp2_with fail
                go_quiet (fail)
                go_wp2
                go_meet
                case rel => exact ⟨0, N, X1, d1, X2, d2, T + k, rfl, rfl, rfl, rfl, S1'.out.below (below_drewN _ _) S1'.out.lt, S2.out.below (below_drewN _ _) S2.out.lt, H256.out, G.out.len, B5.out.drewN _⟩
              · have hq : (c == 0) = false := by simpa using hc
                clear hc Z
                go_wp2_with fail
                go_quiet (fail)
                go_wp2
                go_meet
                case rel => exact ⟨c, N, X1, d1, X2, d2, T + k, rfl, rfl, rfl, rfl, S1'.out.below (below_drewN _ _) S1'.out.lt, S2.out.below (below_drewN _ _) S2.out.lt, H256.out, G.out.len, B5.out.drewN _⟩
            · obtain ⟨c, N, k, hG, hz, hf1, hf2⟩ := both_until w p p2 A T hTA (by omega) y 30
              obtain ⟨v, v2, hT⟩ := BB.out.ex
              have F1 := Lib.hid (hf1 _ _ _ hT)
              have F2 := Lib.hid hf2
              have G := Lib.hid hG
              have Z := Lib.hid hz
              have TT := Lib.hid hT
              clear hf1 hf2 hG hz hT
              have hy2 := HY.out
              go_wp2_with fail
              refine F1.out.mono ?_
              rintro e w4 ⟨X1, d1, v', rfl, hs1, hn1, hT2, hr1⟩
              have S1 := Lib.hid hs1
              have N1 := Lib.hid hn1
              have T4 := Lib.hid hT2
              have hcell4 : w4.cell? (a2.add i) = some (.int .u8 (y : Nat)) := HAT.out _ T4.out.one.below
              clear hs1 hn1 hT2 hr1 F1 hcell he
              go_wp2_with fail
              refine (F2.out _ _ _ T4.out).mono ?_
              rintro e w5 ⟨X2, d2, v2', rfl, hs2, hn2, hT3, hr2⟩
              have S1' := Lib.hid (took_keeps TT.out S1.out N1.out hr2)
              have S2 := Lib.hid hs2
              have hB5 : Both w w5 p p2 A (T + k) := ⟨⟨_, _, hT3.swap⟩, G.out.fit⟩
              have B5 := Lib.hid hB5
              have HS5 := Lib.hid (H0.out.below hT3.one.below H0.out.lt)
              have CELL := Lib.hid (HAT.out _ hT3.one.below)
              clear hs2 hn2 hT3 hr2 F2 hB5 S1 N1 T4 TT BB HS hcell4
              have h256 : ∀ y ∈ N, y < 256 := fun y hy => B0.out y (G.out.bytes y hy)
              obtain ⟨AX, hAX⟩ : ∃ AX, (if c0 = T then A0 else A0.map (·.add T)) = AX := ⟨_, rfl⟩
              have hca : ∀ n, (convert 29 9 (.slice X1 N.length d1)).run Try.prog (w5.drewN n) = .ok (.string (strOf N)) (w5.drewN n) := fun n => conv_src (S1'.out.below (below_drewN _ _) S1'.out.lt) h256
              have H256 := Lib.hid h256
              clear h256
              by_cases hc : c = 0
              · obtain ⟨hz1, hz2⟩ := Z.out hc
                have hsub := sub_src HS5.out HC0.out T (N.length + 1) (by omega)
                rw [hAX, ← hz1] at hsub
                have h256' : ∀ z ∈ N ++ [y], z < 256 := fun z hz => by
                  rcases List.mem_append.1 hz with h | h
                  · exact H256.out z h
                  · simp at h; rw [h]; exact HY.out
                have hlo : T + N.length + 1 ≤ c0 := by have := HC0.out; omega
                have hcell5 : w5.drew.cell? (a2.add i) = some (.int .u8 (y : Nat)) := CELL.out
                have hbW : Below w5.heap.size w5 (w5.drew.alloc (.cells #[.int .u8 (y : Nat)] 5)) := (Below.refl _ _).drew.alloc (Nat.le_refl _) _
                have hcell6 : (w5.drew.alloc (.cells #[.int .u8 (y : Nat)] 5)).cell? (a2.add i) = some (.int .u8 (y : Nat)) := (hbW.cell (World.block_lt_of_cell? _ _ CELL.out)).trans CELL.out
                have hca1 : (convert 29 9 (.slice X1 N.length d1)).run Try.prog w5.drew = .ok (.string (strOf N)) w5.drew := conv_src S1'.out.drew H256.out
                have hca2 : (convert 29 9 (.slice X1 N.length d1)).run Try.prog (w5.drew.alloc (.cells #[.int .u8 (y : Nat)] 5)) = .ok (.string (strOf N)) (w5.drew.alloc (.cells #[.int .u8 (y : Nat)] 5)) := conv_src (S1'.out.below hbW S1'.out.lt) H256.out
                have hcx1 : (convert 29 9 (.slice AX (N.length + 1) (c0 - T))).run Try.prog w5.drew = .ok (.string (strOf (N ++ [y]))) w5.drew := conv_src hsub.drew h256'
                have hcx2 : (convert 29 9 (.slice AX (N.length + 1) (c0 - T))).run Try.prog (w5.drew.alloc (.cells #[.int .u8 (y : Nat)] 5)) = .ok (.string (strOf (N ++ [y]))) (w5.drew.alloc (.cells #[.int .u8 (y : Nat)] 5)) := conv_src (hsub.below hbW hsub.lt) h256'
                have hnew : SrcAt (w5.drew.alloc (.cells #[.int .u8 (y : Nat)] 5)) (.slice (some ⟨w5.heap.size, 0, none⟩) 1 1) [y] := new_src w5.drew [y] 1 _ rfl _ rfl 1 rfl
                have hcy : (convert 29 9 (.slice (some ⟨w5.heap.size, 0, none⟩) 1 1)).run Try.prog (w5.alloc (.cells #[.int .u8 (y : Nat)] 5)).drew = .ok (.string (strOf [y])) (w5.alloc (.cells #[.int .u8 (y : Nat)] 5)).drew := conv_src (w := (w5.alloc (.cells #[.int .u8 (y : Nat)] 5)).drew) hnew (fun z hz => by simp at hz; rw [hz]; exact HY.out)
                have happ : strOf N ++ strOf [y] = strOf (N ++ [y]) := strOf_append N [y]
                have hw1 : IntKind.i64.wrap (((T : Nat) : Int) + ((N.length : Nat) : Int)) = ((T : Nat) : Int) + ((N.length : Nat) : Int) := IntWalk.i64_in _ (by omega)
                have hw2 : IntKind.i64.wrap (((T : Nat) : Int) + ((N.length : Nat) : Int) + 1) = ((T : Nat) : Int) + ((N.length : Nat) : Int) + 1 := IntWalk.i64_in _ (by omega)
                have hb1 : (0 : Int) ≤ ((T : Nat) : Int) + ((N.length : Nat) : Int) + 1 := by omega
                have hb2 : ((T : Nat) : Int) + ((N.length : Nat) : Int) + 1 ≤ ((c0 : Nat) : Int) := by omega
                have hn1 : (((T : Nat) : Int) + ((N.length : Nat) : Int) + 1).toNat = T + N.length + 1 := by omega
                have hn2 : T ≤ T + N.length + 1 := by omega
                have hn3 : T + N.length + 1 - T = N.length + 1 := by omega
                have hdec : decide (((A.length : Nat) : Int) ≤ (T : Nat) + ((N.length : Nat) : Int)) = false := decide_eq_false (by omega)
                have hNl := G.out.len
                have hsz : (9223372036854775807 < (strOf N).size + (strOf [y]).size) = False := eq_false (by rw [strOf_size, strOf_size]; simp; omega)
                clear hNl
                have K1 := Lib.hid (And.intro hcell5 (And.intro hca1 hcx1))
                have K2 := Lib.hid (And.intro hcell6 (And.intro hca2 hcx2))
                have BW := Lib.hid hbW
                clear hz1 Z hca hsub hnew h256' hcell5 hcell6 hca1 hca2 hcx1 hcx2 hbW
                subst hc
                go_wp2_with fail
                go_region_held (fun w' => w'.cell? (a2.add i) = some (.int .u8 (y : Nat)) ∧ (convert 29 9 (.slice X1 N.length d1)).run Try.prog w' = .ok (.string (strOf N)) w' ∧ (convert 29 9 (.slice AX (N.length + 1) (c0 - T))).run Try.prog w' = .ok (.string (strOf (N ++ [y]))) w') (first | exact K1.out | exact K2.out) (fail)
                go_wp2
                go_meet
                case rel => exact ⟨0, N, X1, d1, X2, d2, T + k, rfl, rfl, rfl, rfl, S1'.out.below BW.out S1'.out.lt, S2.out.below BW.out S2.out.lt, H256.out, G.out.len, B5.out.later BW.out⟩
              · have hq : (c == 0) = false := by simpa using hc
                clear hc Z
                go_wp2_with fail
                go_quiet (fail)
                go_wp2
                go_meet
                case rel => exact ⟨c, N, X1, d1, X2, d2, T + k, rfl, rfl, rfl, rfl, S1'.out.below (below_drewN _ _) S1'.out.lt, S2.out.below (below_drewN _ _) S2.out.lt, H256.out, G.out.len, B5.out.drewN _⟩
          case rest =>
            obtain ⟨c, N, X1, d1, X2, d2, k, rfl, rfl, rfl, rfl, hs1, hs2, h256, hlen, hB⟩ := hcut
            clear BB HS hcell HY hTA
            have hc1 : (convert 29 9 (.slice X1 N.length d1)).run Try.prog wc = .ok (.string (strOf N)) wc := conv_src hs1 h256
            have hc2 : (convert 29 9 (.slice X2 N.length d2)).run Try.prog wc = .ok (.string (strOf N)) wc := conv_src hs2 h256
            have OB := Lib.hid (offset_both hB)
            have LB := Lib.hid (left_both hB)
            have B6 := Lib.hid hB
            have hkA := hB.lt
            clear hs1 hs2 h256 hlen hB
            go_wp2_with (first | (go_at_call 21; go_must (first | refine (OB.out).1.mono ?_ | refine (OB.out).2.mono ?_); rintro e wz ⟨rfl, rfl⟩) | (go_at_call 22; go_must (first | refine (LB.out).1.mono ?_ | refine (LB.out).2.mono ?_); rintro e wz ⟨rfl, rfl⟩))
            go_roundw
            case rel => exact ⟨k, i + 1, by go_num, by go_num, by omega, B6.out⟩
            case measure => simp [intOf]; omega
        · obtain rfl : i = Q.length := by omega
          clear hlt hi H2 B2 HS
          have LB := Lib.hid (left_both BB.out)
          have TR := Lib.hid (take_rest BB.out (by omega))
          clear BB
          go_wp2_with fail
          refine LB.out.1.mono ?_
          rintro e wz ⟨rfl, rfl⟩
          go_wp2_with fail
          refine TR.out.mono ?_
          rintro e w6 ⟨a, d, n, rfl, hs, hb⟩
          obtain ⟨AX, hAX⟩ : ∃ AX, (if c0 = T then A0 else A0.map (·.add T)) = AX := ⟨_, rfl⟩
          have hsub := sub_src (H0.out.below hb H0.out.lt) HC0.out T (A.length - T) (by omega)
          have e2 : ((A.drop T).take (A.length - T)) = A.drop T := List.take_of_length_le (by rw [List.length_drop]; omega)
          rw [hAX, e2] at hsub
          have h256 : ∀ y ∈ A.drop T, y < 256 := fun y hy => B0.out y (List.mem_of_mem_drop hy)
          have hca : (convert 29 9 (.slice a n d)).run Try.prog w6.drew = .ok (.string (strOf (A.drop T))) w6.drew := conv_src hs.drew h256
          have hcx : (convert 29 9 (.slice AX (A.length - T) (c0 - T))).run Try.prog w6.drew = .ok (.string (strOf (A.drop T))) w6.drew := conv_src hsub.drew h256
          have HB := Lib.hid hb
          have hlo : A.length ≤ c0 := HC0.out
          clear hsub hs h256 hb e2
          go_wp2_with fail
          go_still_tail 12, (by kernel_rfl)
          change wpList _ _ _ _ _ w6.drew
          go_wp2_with fail
          refine (known_any _).mono ?_
          rintro e w7 ⟨rfl, hb7⟩
          go_wp2
          go_ret
          exact ⟨rfl, HB.out.drew.trans (hb7.mono HB.out.size)⟩
end Go.Proofs.Ytociidinfdbaeaa
