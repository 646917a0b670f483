/- The examples of the chapter: known returns true and changes nothing that was there. No conditions. -/
import Derived.Test.YtociidinfdbaeaaI
import Derived.Laws.IdiomStrings
import Derived.Lib.BufferRead
namespace Go.Proofs.Ytociidinfdbaeaa
open Go.RowKit Go.Shelf

/-- The text of bytes. -/
def strOf (B : List Nat) : ByteArray := ⟨(B.map UInt8.ofNat).toArray⟩

theorem Try.underlying5 : Try.prog.underlying 5 = some (.int .u8) := by kernel_rfl
theorem Try.underlying9 : Try.prog.underlying 9 = some .string := by kernel_rfl

theorem conv_src {w : World} {s : Value} {B : List Nat} (h : SrcAt w s B) (hB : ∀ c ∈ B, c < 256) : (convert 29 9 s).run Try.prog w = .ok (.string (strOf B)) w := by
  rcases h with ⟨rfl, rfl⟩ | ⟨a, c, rfl, _, hc⟩
  · exact Lib.run_convert_nil_bytes w 29 9 5 0 Try.underlying29 Try.underlying5 Try.underlying9
  · have := run_convert_bytes_back (P := Try.prog) w 29 9 5 a c (B.map UInt8.ofNat) Try.underlying29 Try.underlying5 Try.underlying9 (fun j hj => by
      have hj' : j < B.length := by simpa using hj
      refine hc j _ ?_
      have := hB B[j] (List.getElem_mem hj')
      simp [u8s, hj', Nat.mod_eq_of_lt this])
    simpa [strOf] using this

theorem new_src (w : World) (B : List Nat) (c : Nat) (C : Array Value) (hC : C = (u8s B).toArray) (s : Nat) (hs : w.heap.size = s) (n : Nat) (hn : n = B.length) : SrcAt (w.alloc (.cells C 5)) (.slice (some ⟨s, 0, none⟩) n c) B := by
  subst hC hs hn
  refine .inr ⟨⟨w.heap.size, 0, none⟩, c, rfl, by simp, fun j u hu => ?_⟩
  have hadd : (⟨w.heap.size, 0, none⟩ : Addr).add j = ⟨w.heap.size, j, none⟩ := by unfold Addr.add; split <;> simp_all
  rw [hadd, World.cell?_alloc_new]
  simpa using hu

/-- A source that the call has made: it and its buffer lie in new blocks, and all that was there lies as it lay. -/
structure Mid (w w' : World) (p : Nat) (v : Value) (B : List Nat) (L T : Nat) (C : Bool) : Prop where
  at_ : SAt w' p v B L T C
  below : Below w.heap.size w w'
  new : w.heap.size ≤ p
  own : ∀ k, v.ownBlock = some k → w.heap.size ≤ k

section
variable {w w1 w2 : World} {p : Nat} {v v' : Value} {B B' : List Nat} {L T T' : Nat} {C C' : Bool}
theorem Mid.step (h : Mid w w1 p v B L T C) (hs : SAt w2 p v' B' L T' C') (k : SStep p v v' w1 w2) : Mid w w2 p v' B' L T' C' :=
  ⟨hs, h.below.trans (k.rest.toBelow w.heap.size h.below.size (fun i hi hm => by
    rcases hm with e | e
    · have := h.new; omega
    · have := h.own i e; omega)), h.new, fun i hi => by
    rcases k.own i hi with e | e
    · exact h.own i e
    · exact Nat.le_trans h.below.size e⟩
theorem Mid.later (h : Mid w w1 p v B L T C) (hb : Below w1.heap.size w1 w2) : Mid w w2 p v B L T C :=
  ⟨h.at_.below hb, h.below.trans (hb.mono h.below.size), h.new, h.own⟩
theorem Mid.alloc (h : Mid w w1 p v B L T C) (o : Obj) : Mid w (w1.alloc o) p v B L T C := h.later ((Below.refl _ _).alloc (Nat.le_refl _) _)
theorem Mid.drewN (h : Mid w w1 p v B L T C) (n : Nat) : Mid w (w1.drewN n) p v B L T C := h.later (below_drewN _ _)
end

/-- Feed, at a source of the call's own. -/
theorem feed_mid {w w1 : World} {p : Nat} {v x : Value} {B N : List Nat} {L T : Nat} {C : Bool} (h : Mid w w1 p v B L T C) (hx : SrcAt w1 x N) (c : Int) (B' : List Nat) (hc : feedCode L B.length C N.length = c) (hB : (if c = 0 then B ++ N else B) = B') :
    Calls Try.prog 18 #[.pointer (some ⟨p, 0, none⟩), x] w1 fun e w' => e = .returned (.int .i64 c) ∧ ∃ v', Mid w w' p v' B' L T C := by
  subst hc hB
  refine (feed_any p v x B N L T C w1 h.at_ hx).mono ?_
  rintro e w' ⟨rfl, v', hs, hk⟩
  exact ⟨rfl, v', h.step hs hk⟩

theorem close_mid {w w1 : World} {p : Nat} {v : Value} {B : List Nat} {L T : Nat} (h : Mid w w1 p v B L T false) :
    Calls Try.prog 28 #[.pointer (some ⟨p, 0, none⟩)] w1 fun e w' => e = .returned (.int .i64 0) ∧ Mid w w' p v B L T true := by
  refine (close_any p v B L T false w1 h.at_).mono ?_
  rintro e w' ⟨rfl, hs, hk⟩
  exact ⟨rfl, h.step hs hk.step⟩

/-- New bytes and a source of the call's own. -/
def TookM (w : World) (p : Nat) (B : List Nat) (L T : Nat) (C : Bool) (c : Int) (N : List Nat) (n : Nat) (e : Ending) (w' : World) : Prop :=
  ∃ A d v', e = .returned (.tuple #[.slice A n d, .int .i64 c]) ∧ SrcAt w' (.slice A n d) N ∧ Mid w w' p v' B L T C

theorem row_shape {w : World} {base : Nat} {s : Value} {N : List Nat} (h : w.ownsRow base 5 1 s N.length (u8s N)) : ∃ A d, s = .slice A N.length d := by
  rcases h.2 with ⟨rfl, h0⟩ | ⟨g, cap, cur, rfl, _⟩
  · exact ⟨none, 0, by rw [h0]⟩
  · exact ⟨_, _, rfl⟩

theorem tookN_mid {w w1 : World} {p : Nat} {v : Value} {B : List Nat} {L T : Nat} {C : Bool} (h : Mid w w1 p v B L T C) {c : Int} {N : List Nat} {k : Nat} {e : Ending} {w' : World} (ht : TookN p v B L T C c N k w1 e w') : TookM w p (B.drop k) L (T + k) C c N N.length e w' := by
  obtain ⟨s, rfl, hr, hf, v', hs, hk⟩ := ht
  obtain ⟨A, d, rfl⟩ := row_shape hr
  exact ⟨A, d, v', rfl, .of_row hr, h.step hs hk.step⟩

theorem take_mid {w w1 : World} {p : Nat} {v : Value} {B : List Nat} {L T : Nat} {C : Bool} (h : Mid w w1 p v B L T C) (hT : T ≤ 4611686018427387904) (n : Int) (c : Int) (N B' : List Nat) (T' : Nat) (hc : peekCode L B.length C n = c) (hN : takeB c n B = N) (hB : B.drop (takeN c n) = B') (hT' : T + takeN c n = T') (m : Nat) (hm : N.length = m) :
    Calls Try.prog 19 #[.pointer (some ⟨p, 0, none⟩), .int .i64 n] w1 (TookM w p B' L T' C c N m) := by
  subst hc hN hB hT' hm
  exact (take_any p v B L T n C w1 h.at_ hT).mono fun e w' ht => tookN_mid h ht

theorem until_mid {w w1 : World} {p : Nat} {v : Value} {B : List Nat} {L T : Nat} {C : Bool} (h : Mid w w1 p v B L T C) (hT : T ≤ 4611686018427387904) (x : Nat) (n : Int) (c : Int) (N B' : List Nat) (T' : Nat) (hc : untilCode L B C x n = c) (hN : untilB L B C x n = N) (hB : B.drop (untilK L B C x n) = B') (hT' : T + untilK L B C x n = T') (m : Nat) (hm : N.length = m) :
    Calls Try.prog 20 #[.pointer (some ⟨p, 0, none⟩), .int .u8 x, .int .i64 n] w1 (TookM w p B' L T' C c N m) := by
  subst hc hN hB hT' hm
  exact (until_any p v B L T x n C w1 h.at_ hT).mono fun e w' ht => tookN_mid h ht

theorem peek_mid {w w1 : World} {p : Nat} {v : Value} {B : List Nat} {L T : Nat} {C : Bool} (h : Mid w w1 p v B L T C) (n : Int) (c : Int) (N : List Nat) (hc : peekCode L B.length C n = c) (hN : takeB c n B = N) (m : Nat) (hm : N.length = m) :
    Calls Try.prog 27 #[.pointer (some ⟨p, 0, none⟩), .int .i64 n] w1 (TookM w p B L T C c N m) := by
  subst hc hN hm
  refine (peek_any p v B L T n C w1 h.at_).mono ?_
  rintro e w' ⟨s, rfl, hf⟩
  obtain ⟨A, d, rfl⟩ := row_shape hf.1
  exact ⟨A, d, v, rfl, hf.src, h.later hf.2.1⟩

set_option maxRecDepth 100000 in
set_option maxHeartbeats 4000000 in
theorem known_any (w : World) :
    Calls Try.prog 9 #[] w fun e w' => e = .returned (.bool true) ∧ Below w.heap.size w w' := by
  go_enter Try.func9, Try.ntmps9
  go_wp2_with fail
  refine (new_ok 4 _ (by decide) (by decide)).mono ?_
  rintro e w1 ⟨rfl, hA, hb⟩
  obtain ⟨p, hp⟩ : ∃ p, w.heap.size = p := ⟨_, rfl⟩
  have hM : Mid w w1 p (.slice none 0 0) [] 4 0 false := ⟨by rw [← hp]; exact hA, hb, by omega, fun k hk => by simp [Value.ownBlock] at hk⟩
  rw [hp]
  have HP := Lib.hid hp
  have M1 := Lib.hid hM
  clear hA hb hM hp
  go_wp2_with fail
  refine (feed_mid (N := [1, 2, 3]) (M1.out.alloc _) (new_src _ _ _ _ rfl _ rfl _ rfl) 0 [1, 2, 3] (by decide) (by decide)).mono ?_
  rintro e w2 ⟨rfl, v2, hM⟩
  have M2 := Lib.hid hM
  clear hM
  go_wp2_with fail
  refine (feed_mid (N := [4, 5]) (M2.out.alloc _) (new_src _ _ _ _ rfl _ rfl _ rfl) 7 [1, 2, 3] (by decide) (by decide)).mono ?_
  rintro e w3 ⟨rfl, v3, hM⟩
  have M3 := Lib.hid hM
  clear hM
  go_wp2_with fail
  refine (take_mid M3.out (by decide) 2 0 [1, 2] [3] 2 (by decide) (by decide) (by decide) (by decide) 2 rfl).mono ?_
  rintro e w4 ⟨A4, d4, v4, rfl, hs, hM⟩
  have M4 := Lib.hid hM
  have hs4 : (convert 29 9 (.slice A4 2 d4)).run Try.prog w4 = .ok (.string ⟨#[1, 2]⟩) w4 := conv_src hs (by decide)
  clear hM hs
  go_wp2_with fail
  refine (feed_mid (N := [4, 5]) (M4.out.alloc _) (new_src _ _ _ _ rfl _ rfl _ rfl) 0 [3, 4, 5] (by decide) (by decide)).mono ?_
  rintro e w5 ⟨rfl, v5, hM⟩
  have M5 := Lib.hid hM
  clear hM
  go_wp2_with fail
  refine (left_any p _ _ _ _ _ _ M5.out.at_).mono ?_
  rintro e wz ⟨rfl, rfl⟩
  go_wp2_with fail
  refine (offset_any p _ _ _ _ _ _ M5.out.at_).mono ?_
  rintro e wz ⟨rfl, rfl⟩
  go_wp2_with fail
  refine (room_any p _ _ _ _ _ _ M5.out.at_).mono ?_
  rintro e wz ⟨rfl, n1, rfl⟩
  have M6 := Lib.hid (M5.out.drewN n1)
  go_wp2_with fail
  refine (peek_mid M6.out 4 4 [] (by decide) (by decide) 0 rfl).mono ?_
  rintro e w7 ⟨A7, d7, v7, rfl, hs, hM⟩
  have M7 := Lib.hid hM
  clear hM hs
  go_wp2_with fail
  refine (peek_mid M7.out 5 3 [] (by decide) (by decide) 0 rfl).mono ?_
  rintro e w8 ⟨A8, d8, v8, rfl, hs, hM⟩
  have M8 := Lib.hid hM
  clear hM hs
  go_wp2_with fail
  refine (until_mid M8.out (by decide) 5 3 0 [3, 4] [] 5 (by decide) (by decide) (by decide) (by decide) 2 rfl).mono ?_
  rintro e w9 ⟨A9, d9, v9, rfl, hs, hM⟩
  have M9 := Lib.hid hM
  have hs9 : (convert 29 9 (.slice A9 2 d9)).run Try.prog w9 = .ok (.string ⟨#[3, 4]⟩) w9 := conv_src hs (by decide)
  clear hM hs
  go_wp2_with fail
  refine (offset_any p _ _ _ _ _ _ M9.out.at_).mono ?_
  rintro e wz ⟨rfl, rfl⟩
  go_wp2_with fail
  refine (feed_mid (N := [9]) (M9.out.alloc _) (new_src _ _ _ _ rfl _ rfl _ rfl) 0 [9] (by decide) (by decide)).mono ?_
  rintro e w10 ⟨rfl, v10, hM⟩
  have M10 := Lib.hid hM
  clear hM
  go_wp2_with fail
  refine (close_mid M10.out).mono ?_
  rintro e w11 ⟨rfl, hM⟩
  have M11 := Lib.hid hM
  clear hM
  go_wp2_with fail
  refine (until_mid M11.out (by decide) 5 3 9 [] [9] 5 (by decide) (by decide) (by decide) (by decide) 0 rfl).mono ?_
  rintro e w12 ⟨A12, d12, v12, rfl, hs, hM⟩
  have M12 := Lib.hid hM
  clear hM hs
  go_wp2_with fail
  refine (until_mid M12.out (by decide) 5 0 5 [] [9] 5 (by decide) (by decide) (by decide) (by decide) 0 rfl).mono ?_
  rintro e w13 ⟨A13, d13, v13, rfl, hs, hM⟩
  have M13 := Lib.hid hM
  clear hM hs
  go_wp2_with fail
  refine (feed_mid (N := [1]) (M13.out.alloc _) (new_src _ _ _ _ rfl _ rfl _ rfl) 8 [9] (by decide) (by decide)).mono ?_
  rintro e w14 ⟨rfl, v14, hM⟩
  have M14 := Lib.hid hM
  clear hM
  go_wp2_with fail
  refine (take_mid M14.out (by decide) 1 0 [9] [] 6 (by decide) (by decide) (by decide) (by decide) 1 rfl).mono ?_
  rintro e w15 ⟨A15, d15, v15, rfl, hs, hM⟩
  have M15 := Lib.hid hM
  have hs15 : (convert 29 9 (.slice A15 1 d15)).run Try.prog w15 = .ok (.string ⟨#[9]⟩) w15 := conv_src hs (by decide)
  clear hM hs
  go_wp2_with fail
  refine (ended_any p _ _ _ _ _ _ M15.out.at_).mono ?_
  rintro e wz ⟨rfl, rfl⟩
  go_wp2
  go_ret
  exact ⟨rfl, M15.out.below⟩
end Go.Proofs.Ytociidinfdbaeaa
