/- The walk of SourceCopies: it returns true and changes nothing that was there. Conditions: the calls lie in memory. -/
import Derived.Test.YtociidinfdbaeaaCy
namespace Go.Proofs.Ytociidinfdbaeaa
open Go.RowKit Go.Shelf

/-- A source of the statement's own, and the document's beside it. -/
structure Pair (w wx : World) (p L : Nat) (v : Value) (s : St) (A : Option Addr) (c : Nat) : Prop where
  mid : Mid w wx p v s.B L s.T s.C
  src : SrcAt wx (.slice A s.F.length c) s.F
  le : s.F.length ≤ c
  ap : ∀ k, (Value.slice A s.F.length c).ownBlock = some k → ¬ Mine p v k
  new : ∀ k, (Value.slice A s.F.length c).ownBlock = some k → w.heap.size ≤ k

section
variable {w wx wy : World} {p L : Nat} {v : Value} {s : St} {A : Option Addr} {c : Nat}
theorem Pair.mine (h : Pair w wx p L v s A c) {k : Nat} (hk : Mine p v k) : w.heap.size ≤ k ∧ k < wx.heap.size := by
  rcases hk with rfl | e
  · exact ⟨h.mid.new, h.mid.at_.lt⟩
  · exact ⟨h.mid.own k e, h.mid.at_.buf.lt k e⟩
theorem Pair.rest {S : Nat → Prop} (h : Pair w wx p L v s A c) (hr : Rest S wx wy) (hS : ∀ k, S k → k < wx.heap.size → w.heap.size ≤ k) (h0 : ∀ k, Mine p v k → ¬ S k) (h2 : ∀ k, (Value.slice A s.F.length c).ownBlock = some k → ¬ S k) : Pair w wy p L v s A c :=
  ⟨⟨h.mid.at_.rest hr (h0 p (.inl rfl)) (fun k e => h0 k (.inr e)), h.mid.below.trans (hr.toBelow w.heap.size h.mid.below.size (fun i hi hs => by have := hS i hs (Nat.lt_of_lt_of_le hi h.mid.below.size); omega)), h.mid.new, h.mid.own⟩, h.src.rest hr h2, h.le, h.ap, h.new⟩
theorem Pair.below (h : Pair w wx p L v s A c) (hb : Below wx.heap.size wx wy) : Pair w wy p L v s A c :=
  h.rest (S := fun _ => False) (Rest.below hb) (fun _ e => e.elim) (fun _ _ e => e) (fun _ _ e => e)
theorem Pair.ran {s' : St} {e : Ending} (h : Pair w wx p L v s A c) (hr : Ran p L v s' A s.F.length c wx e wy) :
    ∃ A' c' v', e = .returned (.tuple #[refV L A' s'.F.length c' s'.T s'.C, .bool true]) ∧ Pair w wy p L v' s' A' c' ∧ SStep p v v' wx wy ∧ ∀ k, (Value.slice A' s'.F.length c').ownBlock = some k → (Value.slice A s.F.length c).ownBlock = some k ∨ wx.heap.size ≤ k := by
  obtain ⟨A', c', v', rfl, hs, hst, hsrc, hle, hown, hap⟩ := hr
  refine ⟨A', c', v', rfl, ⟨h.mid.step hs hst, hsrc, hle, hap, fun k hk => ?_⟩, hst, hown⟩
  rcases hown k hk with e | e
  · exact h.new k e
  · exact Nat.le_trans h.mid.below.size e
end

theorem acts_ok {w : World} {x : Value} {l : List ActD} (hx : ActsAt w x l) (hsm : smallB l = true) : (∀ d ∈ l, d.B.length ≤ 100 ∧ ∀ y ∈ d.B, y < 256) ∧ l.length ≤ 60 := by
  unfold smallB at hsm
  rw [Bool.and_eq_true, List.all_eq_true, decide_eq_true_eq] at hsm
  refine ⟨fun d hd => ⟨by simpa using hsm.1 d hd, ?_⟩, hsm.2⟩
  rcases hx with ⟨rfl, rfl⟩ | ⟨g, o, cx, rfl, hx⟩
  · simp at hd
  · obtain ⟨i, hi⟩ := List.getElem?_of_mem hd
    exact (hx i d hi).2.2.2.2.2.2.1

theorem new_run_ok {w : World} {x : Value} {l : List ActD} (hx : ActsAt w x l) (hsm : smallB l = true) (L : Nat) : (St.new.run L l).Ok 6000 := by
  obtain ⟨h1, h2⟩ := acts_ok hx hsm
  have h := St.new_ok.run L l h1
  exact ⟨h.le, by have := h.few; omega, h.bytes⟩

theorem pair_run {w00 wx : World} {p L : Nat} {v : Value} {s : St} {A : Option Addr} {c : Nat} (h : Pair w00 wx p L v s A c) {x : Value} {l : List ActD} (ok : s.Ok 6000) (hx : ActsAt w00 x l) (hsm : smallB l = true) :
    Calls Try.prog 12 #[.pointer (some ⟨p, 0, none⟩), refV L A s.F.length c s.T s.C, x] wx (Ran p L v (s.run L l) A s.F.length c wx) :=
  run_any w00 wx p L v A c 6000 s x l h.mid h.src h.le h.ap ok (by have := (acts_ok hx hsm).2; omega) hx hsm

theorem run_ok6 {w : World} {x : Value} {l : List ActD} {s : St} (ok : s.Ok 6000) (hx : ActsAt w x l) (hsm : smallB l = true) (L : Nat) : (s.run L l).Ok 12000 := by
  obtain ⟨h1, h2⟩ := acts_ok hx hsm
  have h := ok.run L l h1
  exact ⟨h.le, by have := h.few; omega, h.bytes⟩

theorem pair_is {w00 wx : World} {p L : Nat} {v : Value} {s : St} {A : Option Addr} {c m : Nat} (h : Pair w00 wx p L v s A c) (ok : s.Ok m) (hm : m ≤ 1000000) :
    Calls Try.prog 14 #[.pointer (some ⟨p, 0, none⟩), refV L A s.F.length c s.T s.C] wx fun e w' => e = .returned (.bool true) ∧ Below wx.heap.size wx w' :=
  is_any p L v A c s wx h.mid.at_ h.src h.le ok.le ok.bytes (Nat.le_trans ok.few hm)

set_option maxRecDepth 100000 in
set_option maxHeartbeats 3200000 in
theorem copies_bad (limit : Int) (x a b : Value) (X A B : List ActD) (w : World) (hx : ActsAt w x X) (ha : ActsAt w a A) (hb : ActsAt w b B) (lx : X.length ≤ 9223372036854775807) (la : A.length ≤ 9223372036854775807) (lb : B.length ≤ 9223372036854775807)
    (h : ¬ (smallB X = true ∧ smallB A = true ∧ smallB B = true ∧ 1 ≤ limit ∧ limit ≤ 1000)) :
    Calls Try.prog 4 #[.int .i64 limit, x, a, b] w fun e w' => e = .returned (.bool true) ∧ Below w.heap.size w w' := by
  have F1 := Lib.hid (acts_fit x X w hx lx)
  have F2 := Lib.hid (acts_fit a A w ha la)
  have F3 := Lib.hid (acts_fit b B w hb lb)
  clear hx ha hb lx la lb
  by_cases h1 : smallB X = false
  · rw [h1] at F1
    clear h h1
    go_enter Try.func4, Try.ntmps4
    go_wp2_with ((go_at_call 8; go_must (first | with_reducible refine F1.out.mono ?_ | with_reducible refine F2.out.mono ?_ | with_reducible refine F3.out.mono ?_); rintro e w' ⟨rfl, rfl⟩))
    refine (known_any _).mono ?_
    rintro e w' ⟨rfl, hb⟩
    go_wp2
    go_ret
    exact ⟨rfl, hb⟩
  · rw [Bool.not_eq_false] at h1
    by_cases h2 : smallB A = false
    · rw [h1] at F1
      rw [h2] at F2
      clear h h1 h2
      go_enter Try.func4, Try.ntmps4
      go_wp2_with ((go_at_call 8; go_must (first | with_reducible refine F1.out.mono ?_ | with_reducible refine F2.out.mono ?_ | with_reducible refine F3.out.mono ?_); rintro e w' ⟨rfl, rfl⟩))
      refine (known_any _).mono ?_
      rintro e w' ⟨rfl, hb⟩
      go_wp2
      go_ret
      exact ⟨rfl, hb⟩
    · rw [Bool.not_eq_false] at h2
      by_cases h3 : smallB B = false
      · rw [h1] at F1
        rw [h2] at F2
        rw [h3] at F3
        clear h h1 h2 h3
        go_enter Try.func4, Try.ntmps4
        go_wp2_with ((go_at_call 8; go_must (first | with_reducible refine F1.out.mono ?_ | with_reducible refine F2.out.mono ?_ | with_reducible refine F3.out.mono ?_); rintro e w' ⟨rfl, rfl⟩))
        refine (known_any _).mono ?_
        rintro e w' ⟨rfl, hb⟩
        go_wp2
        go_ret
        exact ⟨rfl, hb⟩
      · rw [Bool.not_eq_false] at h3
        have hl : limit < 1 ∨ 1000 < limit := by
          by_cases h5 : limit < 1
          · exact .inl h5
          · by_cases h6 : 1000 < limit
            · exact .inr h6
            · exact absurd ⟨h1, h2, h3, by omega, by omega⟩ h
        rw [h1] at F1
        rw [h2] at F2
        rw [h3] at F3
        clear h h1 h2 h3
        by_cases h5 : limit < 1
        · clear hl
          go_enter Try.func4, Try.ntmps4
          go_wp2_with ((go_at_call 8; go_must (first | with_reducible refine F1.out.mono ?_ | with_reducible refine F2.out.mono ?_ | with_reducible refine F3.out.mono ?_); rintro e w' ⟨rfl, rfl⟩))
          refine (known_any _).mono ?_
          rintro e w' ⟨rfl, hb⟩
          go_wp2
          go_ret
          exact ⟨rfl, hb⟩
        · have h6 : 1000 < limit := by omega
          clear hl
          go_enter Try.func4, Try.ntmps4
          go_wp2_with ((go_at_call 8; go_must (first | with_reducible refine F1.out.mono ?_ | with_reducible refine F2.out.mono ?_ | with_reducible refine F3.out.mono ?_); rintro e w' ⟨rfl, rfl⟩))
          refine (known_any _).mono ?_
          rintro e w' ⟨rfl, hb⟩
          go_wp2
          go_ret
          exact ⟨rfl, hb⟩
end Go.Proofs.Ytociidinfdbaeaa
