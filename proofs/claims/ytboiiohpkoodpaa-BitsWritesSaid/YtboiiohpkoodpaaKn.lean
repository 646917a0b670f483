/- The examples of the chapter: known returns true and changes nothing that was there. No conditions. -/
import Derived.Test.YtboiiohpkoodpaaAb
import Derived.Laws.IdiomStrings
import Derived.Lib.BufferRead
namespace Go.Proofs.Ytboiiohpkoodpaa
open Go.RowKit Go.Shelf

/-- The text of bytes. -/
def strOf (B : List Nat) : ByteArray := ⟨(B.map UInt8.ofNat).toArray⟩

theorem conv_src {w : World} {s : Value} {B : List Nat} (h : SrcAt w s B) (hB : ∀ c ∈ B, c < 256) : (convert 28 9 s).run Try.prog w = .ok (.string (strOf B)) w := by
  rcases h with ⟨rfl, rfl⟩ | ⟨a, c, rfl, _, hc⟩
  · exact Lib.run_convert_nil_bytes w 28 9 5 0 Try.underlying28 Try.underlying5 Try.underlying9
  · have := run_convert_bytes_back (P := Try.prog) w 28 9 5 a c (B.map UInt8.ofNat) Try.underlying28 Try.underlying5 Try.underlying9 (fun j hj => by
      have hj' : j < B.length := by simpa using hj
      refine hc j _ ?_
      have := hB B[j] (List.getElem_mem hj')
      simp [u8s, hj', Nat.mod_eq_of_lt this])
    simpa [strOf] using this

theorem new_src (w : World) (B : List Nat) (c : Nat) (C : Array Value) (hC : C = (u8s B).toArray) (s : Nat) (hs : w.heap.size = s) (n : Nat) (hn : n = B.length) : SrcAt (w.alloc (.cells C 5)) (.slice (some ⟨s, 0, none⟩) n c) B := by
  subst hC hs hn
  refine .inr ⟨⟨w.heap.size, 0, none⟩, c, rfl, by simp, fun j u hu => ?_⟩
  have hadd : (⟨w.heap.size, 0, none⟩ : Addr).add j = ⟨w.heap.size, j, none⟩ := by unfold Addr.add; split <;> simp_all
  rw [hadd, cell_new_at w _ 5 _ j rfl]
  simpa using hu

theorem step_below {b : Nat} {v : Value} {w1 w2 : World} {n : Nat} (h : WStep b (.slice none 0 0) v w1 w2) (hb : n ≤ b) (hn : n ≤ w1.heap.size) : Below n w1 w2 :=
  h.rest.toBelow n hn (fun i hi hm => by
    rcases hm with e | e
    · omega
    · simp [Value.ownBlock] at e)

theorem RLeft.toBelow {b : Nat} {v : Value} {B : List Nat} {p n : Nat} {w1 w2 : World} (h : RLeft b v B p w1 w2) (hb : n ≤ b) (hn : n ≤ w1.heap.size) : Below n w1 w2 :=
  h.2.toBelow n hn (fun i hi e => by omega)

set_option maxRecDepth 100000 in
set_option maxHeartbeats 4000000 in
theorem known_any (w : World) :
    Calls Try.prog 10 #[] w fun e w' => e = .returned (.bool true) ∧ Below w.heap.size w w' := by
  go_enter Try.func10, Try.ntmps10
  go_wp2_with fail
  refine (newWriter_any _).mono ?_
  rintro e w1 ⟨rfl, hW1, hb1⟩
  have HW1 := Lib.hid hW1
  have HB1 := Lib.hid hb1
  clear hW1 hb1
  go_wp2_with fail
  refine (put_ok w.heap.size _ [] 5 3 _ HW1.out (by decide) (by decide) (by decide) (by decide) (by decide)).mono ?_
  rintro e w2 ⟨rfl, v2, hW2, hs2⟩
  rw [show ([] : List Bool) ++ digs 5 3 = [true, false, true] by decide] at hW2
  have HW2 := Lib.hid hW2
  have HS2 := Lib.hid hs2
  clear hW2 hs2
  go_wp2_with fail
  have h3 := put_err w.heap.size v2 [true, false, true] 0 33 w2 HW2.out (by decide) (by decide)
  rw [show putCode ([true, false, true] : List Bool).length 0 33 = 2 by decide] at h3
  refine h3.mono ?_
  clear h3
  rintro e w3 ⟨rfl, v3, hW3, hs3⟩
  have HW3 := Lib.hid hW3
  have HS3 := Lib.hid (HS2.out.trans hs3)
  clear hW3 hs3
  go_wp2_with fail
  have h4 := put_err w.heap.size v3 [true, false, true] 8 3 w3 HW3.out (by decide) (by decide)
  rw [show putCode ([true, false, true] : List Bool).length 8 3 = 2 by decide] at h4
  refine h4.mono ?_
  clear h4
  rintro e w4 ⟨rfl, v4, hW4, hs4⟩
  have HW4 := Lib.hid hW4
  have HS4 := Lib.hid (HS3.out.trans hs4)
  clear hW4 hs4
  go_wp2_with fail
  have h5 := little_err w.heap.size v4 [true, false, true] 1 2 w4 HW4.out (by decide) (by decide)
  rw [show littleCode ([true, false, true] : List Bool).length 1 2 = 8 by decide] at h5
  refine h5.mono ?_
  clear h5
  rintro e w5 ⟨rfl, v5, hW5, hs5⟩
  have HW5 := Lib.hid hW5
  have HS5 := Lib.hid (HS4.out.trans hs5)
  clear hW5 hs5
  go_wp2_with fail
  have h6 := align_ok w.heap.size v5 [true, false, true] 8 w5 HW5.out (by decide) (by decide) (by decide) (by decide) (by decide)
  rw [show ([true, false, true] : List Bool) ++ List.replicate (bord ([true, false, true] : List Bool).length 8 - ([true, false, true] : List Bool).length) false = [true, false, true, false, false, false, false, false] by decide] at h6
  refine h6.mono ?_
  clear h6
  rintro e w6 ⟨rfl, v6, hW6, hs6⟩
  have HW6 := Lib.hid hW6
  have HS6 := Lib.hid (HS5.out.trans hs6)
  clear hW6 hs6
  go_wp2_with fail
  have h7 := little_ok w.heap.size v6 [true, false, true, false, false, false, false, false] 258 2 w6 HW6.out (by decide) (by decide) (by decide) (by decide) (by decide) (by decide) (by decide)
  obtain ⟨l7, hl7⟩ : ∃ l7, [true, false, true, false, false, false, false, false] ++ unpack (leBytes 258 2) = l7 := ⟨_, rfl⟩
  rw [hl7] at h7
  have hp7 : packs l7 = [160, 2, 1] := by rw [← hl7]; decide
  have hn7 : l7.length = 24 := by rw [← hl7]; decide
  have HP7 := Lib.hid hp7
  have HN7 := Lib.hid hn7
  clear hl7 hp7 hn7
  refine h7.mono ?_
  clear h7
  rintro e w7 ⟨rfl, v7, hW7, hs7⟩
  have HW7 := Lib.hid hW7
  have HS7 := Lib.hid (HS6.out.trans hs7)
  clear hW7 hs7
  go_wp2_with fail
  have h8 := len_any w.heap.size v7 l7 w7 HW7.out
  rw [HN7.out] at h8
  refine h8.mono ?_
  clear h8
  rintro e w8 ⟨rfl, rfl⟩
  go_wp2_with fail
  have h9 := out_any w.heap.size v7 l7 w7 HW7.out (by rw [HN7.out]; decide)
  rw [HP7.out] at h9
  refine h9.mono ?_
  clear h9
  rintro e w9 ⟨s9, rfl, ho9, hb9, hf9⟩
  obtain ⟨g9, c9, rfl⟩ : ∃ g c, s9 = .slice (some ⟨g, 0, none⟩) 3 c := by
    rcases hf9 with rfl | h
    · exact absurd ho9.2 (by simp)
    · exact h
  have hcv := conv_src (SrcAt.of_row ho9) (by decide)
  rw [show strOf [160, 2, 1] = ⟨#[160, 2, 1]⟩ from rfl] at hcv
  have HB9 := Lib.hid ((HB1.out.trans (step_below HS7.out (Nat.le_refl _) HB1.out.size)).trans (hb9.mono (Nat.le_trans HB1.out.size HS7.out.rest.size)))
  clear ho9 hb9 hf9
  go_wp2_with fail
  clear hcv
  refine (newReader_ok _ [160, 2, 1] _ (new_src w9 [160, 2, 1] 3 _ rfl _ rfl _ rfl) (by decide)).mono ?_
  rintro e w10 ⟨rb, rv, rfl, hR10, hb10, hlb10, _⟩
  have HB10 := Lib.hid ((HB9.out.alloc HB9.out.size _).trans (hb10.mono (by have := HB9.out.size; simp; omega)))
  have HLB := Lib.hid (show w.heap.size ≤ rb by have := HB9.out.size; simp at hlb10; omega)
  have HR10 := Lib.hid hR10
  clear hR10 hb10 hlb10
  go_wp2_with fail
  have h11 := get_ok rb rv [160, 2, 1] 0 4 w10 HR10.out (by decide) (by decide) (by decide) (by decide) (by decide)
  rw [show val (((unpack [160, 2, 1]).drop 0).take 4) = 10 by decide] at h11
  refine h11.mono ?_
  clear h11
  rintro e w11 ⟨rfl, hr11⟩
  have HB11 := Lib.hid (HB10.out.trans (hr11.toBelow HLB.out HB10.out.size))
  have HR11 := Lib.hid hr11.1
  clear hr11
  go_wp2_with fail
  have h12 := take_err rb rv [160, 2, 1] (0 + 4) 1 w11 HR11.out (by decide) (by decide) (by decide)
  rw [show takeCode ([160, 2, 1] : List Nat).length (0 + 4) 1 = 8 by decide] at h12
  refine h12.mono ?_
  clear h12
  rintro e w12 ⟨rfl, hr12⟩
  have HB12 := Lib.hid (HB11.out.trans (hr12.toBelow HLB.out HB11.out.size))
  have HR12 := Lib.hid hr12.1
  clear hr12
  go_wp2_with fail
  have h13 := pad_ok rb rv [160, 2, 1] (0 + 4) 8 w12 HR12.out (by decide) (by decide) (by decide) (by decide) (by decide) (by decide)
  rw [show bord (0 + 4) 8 = 8 by decide] at h13
  refine h13.mono ?_
  clear h13
  rintro e w13 ⟨rfl, hr13⟩
  have HB13 := Lib.hid (HB12.out.trans (hr13.toBelow HLB.out HB12.out.size))
  have HR13 := Lib.hid hr13.1
  clear hr13
  go_wp2_with fail
  have h14 := rlittle_ok rb rv [160, 2, 1] 8 2 w13 HR13.out (by decide) (by decide) (by decide) (by decide) (by decide) (by decide)
  rw [show leVal ((([160, 2, 1] : List Nat).drop (8 / 8)).take 2) = 258 by decide] at h14
  refine h14.mono ?_
  clear h14
  rintro e w14 ⟨rfl, hr14⟩
  have HB14 := Lib.hid (HB13.out.trans (hr14.toBelow HLB.out HB13.out.size))
  have HR14 := Lib.hid hr14.1
  clear hr14
  go_wp2_with fail
  have h15 := get_err rb rv [160, 2, 1] (8 + 8 * 2) 1 w14 HR14.out (by decide) (by decide) (by decide)
  rw [show getCode ([160, 2, 1] : List Nat).length (8 + 8 * 2) 1 = 4 by decide] at h15
  refine h15.mono ?_
  clear h15
  rintro e w15 ⟨rfl, hr15⟩
  have HB15 := Lib.hid (HB14.out.trans (hr15.toBelow HLB.out HB14.out.size))
  have HR15 := Lib.hid hr15.1
  clear hr15
  go_wp2_with fail
  have h16 := place_any rb rv [160, 2, 1] (8 + 8 * 2) w15 HR15.out
  rw [show (((8 + 8 * 2 : Nat)) : Int) = 24 by decide] at h16
  refine h16.mono ?_
  clear h16
  rintro e w16 ⟨rfl, rfl⟩
  go_wp2_with fail
  have h17 := left_any rb rv [160, 2, 1] (8 + 8 * 2) w15 HR15.out (by decide) (by decide)
  rw [show (8 * (([160, 2, 1] : List Nat).length : Int) - ((8 + 8 * 2 : Nat) : Int)) = 0 by decide] at h17
  refine h17.mono ?_
  clear h17
  rintro e w17 ⟨rfl, nn, hw17⟩
  have HB17 : Hid (Below w.heap.size w w17) := Lib.hid (by rw [hw17]; exact below_drewN HB15.out nn)
  clear hw17
  go_wp2_with fail
  refine (newReader_ok _ [160] _ (new_src w17 [160] 1 _ rfl _ rfl _ rfl) (by decide)).mono ?_
  rintro e w18 ⟨sb, sv, rfl, hR18, hb18, hlb18, _⟩
  have HB18 := Lib.hid ((HB17.out.alloc HB17.out.size _).trans (hb18.mono (by have := HB17.out.size; simp; omega)))
  have HLS := Lib.hid (show w.heap.size ≤ sb by have := HB17.out.size; simp at hlb18; omega)
  have HR18 := Lib.hid hR18
  clear hR18 hb18 hlb18
  go_wp2_with fail
  have h19 := skip_ok sb sv [160] 0 1 w18 HR18.out (by decide) (by decide)
  refine h19.mono ?_
  clear h19
  rintro e w19 ⟨rfl, hr19⟩
  have HB19 := Lib.hid (HB18.out.trans (hr19.toBelow HLS.out HB18.out.size))
  have HR19 := Lib.hid hr19.1
  clear hr19
  go_wp2_with fail
  have h20 := pad_err sb sv [160] (0 + 1) 8 w19 HR19.out (by decide) (by decide) (by decide) (by decide)
  rw [show padCode [160] (0 + 1) 8 = 6 by decide] at h20
  refine h20.mono ?_
  clear h20
  rintro e w20 ⟨rfl, hr20⟩
  have HB20 := Lib.hid (HB19.out.trans (hr20.toBelow HLS.out HB19.out.size))
  have HR20 := Lib.hid hr20.1
  clear hr20
  go_wp2_with fail
  have h21 := skip_err sb sv [160] (0 + 1) 8 w20 HR20.out (by decide) (by decide) (by decide)
  rw [show skipCode ([160] : List Nat).length (0 + 1) 8 = 4 by decide] at h21
  refine h21.mono ?_
  clear h21
  rintro e w21 ⟨rfl, hr21⟩
  have HB21 := Lib.hid (HB20.out.trans (hr21.toBelow HLS.out HB20.out.size))
  have HR21 := Lib.hid hr21.1
  clear hr21
  go_wp2_with fail
  have h22 := get_ok sb sv [160] (0 + 1) 7 w21 HR21.out (by decide) (by decide) (by decide) (by decide) (by decide)
  rw [show val (((unpack [160]).drop (0 + 1)).take 7) = 32 by decide] at h22
  refine h22.mono ?_
  clear h22
  rintro e w22 ⟨rfl, hr22⟩
  have HB22 := Lib.hid (HB21.out.trans (hr22.toBelow HLS.out HB21.out.size))
  clear hr22
  go_wp2
  go_ret
  exact ⟨rfl, HB22.out⟩
end Go.Proofs.Ytboiiohpkoodpaa
