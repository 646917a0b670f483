/- A clone and a copy of bytes, putting a chunk, passing bytes of a source, and what is there of a number of bytes. Conditions: the source or the buffer lies in memory; the chunk's bytes lie in memory; so many bytes are there. -/
import Derived.Test.YtociidinfdbaeaaB
import Derived.RangeFuncRecord
namespace Go.Proofs.Ytociidinfdbaeaa
open Go.RowKit Go.Shelf

theorem Try.underlying29 : Try.prog.underlying 29 = some (.slice 5) := by kernel_rfl

set_option maxHeartbeats 800000 in
theorem clone_nil (w : World) :
    Calls Try.prog 44 #[.slice none 0 0] w fun e w' => e = .returned (.slice none 0 0) ∧ w = w' := by
  have hn := fun (w : World) => Lib.run_eql_slice_nil (P := Try.prog) w 29 5 none 0 0 0 0 Try.underlying29
  go_enter Try.func44, Try.ntmps44
  go_wp2
  go_ret
  exact ⟨rfl, rfl⟩

/-- A new slice that holds bytes, or nil. -/
def NewBytes (w : World) (B : List Nat) (nil : Bool) (e : Ending) (w' : World) : Prop :=
  ∃ v, e = .returned v ∧ w'.ownsRow w.heap.size 5 1 v B.length (u8s B) ∧ Below w.heap.size w w' ∧ (nil = false → ∃ g c, v = .slice (some ⟨g, 0, none⟩) B.length c)

set_option maxHeartbeats 800000 in
theorem clone_some (a : Addr) (c : Nat) (B : List Nat) (w : World) (hcells : ∀ j u, (u8s B)[j]? = some u → w.cell? (a.add j) = some u) (ha : a.block < w.heap.size) (hl : B.length ≤ 140737488351232) :
    Calls Try.prog 44 #[.slice (some a) B.length c] w (NewBytes w B false) := by
  obtain ⟨i0, hi, hz0, hz1, hz2⟩ := info_parts Try.info5
  have hn := fun (w : World) => Lib.run_eql_slice_nil (P := Try.prog) w 29 5 (some a) B.length c 0 0 Try.underlying29
  have HC := Lib.hid hcells
  clear hcells
  go_enter Try.func44, Try.ntmps44
  have HO := Lib.hid (World.ownsRow_lit (base := w.heap.size) (e := 5) (size := 1) w #[] 0 (Nat.le_refl _) (Nat.zero_le _) rfl)
  go_wp2_with (at_builtin; go_must (refine wpList_append_own_at _ rfl _ _ 29 rfl w.heap.size 5 i0 (.int .u8 0) 1 1 Try.underlying29 hi hz0 hz1 hz2 rfl (by decide) _ _ _ rfl HO.out a B.length c (u8s B) rfl (by rw [u8s_length, Nat.mul_one]) (fun j u hu => ?_) (fun u hu => by obtain ⟨c, _, rfl⟩ := List.mem_map.1 hu; rfl) (Nat.le_trans (by simpa using hl) (by decide)) (by simp; omega) (by simp) ?_))
  · exact (World.cell?_alloc_lt w _ _ (by rw [add_block]; exact ha)).trans (HC.out j u hu)
  · intro v1 w1 hown1 hgrow1 hnil1 _
    have hbel : Below w.heap.size w w1 := ((Below.refl _ w).alloc (Nat.le_refl _) _).grown hgrow1 (by simp) (fun k hk => by have : w.heap.size = k := by simpa [Value.ownBlock] using hk
                                                                                                                            omega)
    have HW := Lib.hid hown1
    have HBL := Lib.hid hbel
    rcases Joins.ownsRow_forms hown1 with ⟨rfl, _⟩ | ⟨g, cap, rfl⟩
    · exact (hnil1 rfl).elim
    · clear hgrow1 hnil1 hown1 hbel
      go_wp2
      go_ret
      exact ⟨_, rfl, by simpa using HW.out, HBL.out, fun _ => ⟨g, cap, by simp⟩⟩

/-- A new slice with bytes of its own. -/
def Fresh (w w' : World) (v : Value) (B : List Nat) : Prop :=
  w'.ownsRow w.heap.size 5 1 v B.length (u8s B) ∧ Below w.heap.size w w' ∧ (v = .slice none 0 0 ∨ ∃ g c, v = .slice (some ⟨g, 0, none⟩) B.length c)

theorem clone_any (s : Value) (B : List Nat) (w : World) (h : SrcAt w s B) (hl : B.length ≤ 140737488351232) :
    Calls Try.prog 44 #[s] w fun e w' => ∃ v, e = .returned v ∧ Fresh w w' v B := by
  rcases h with ⟨rfl, rfl⟩ | ⟨a, c, rfl, ha, hc⟩
  · refine (clone_nil w).mono ?_
    rintro e w' ⟨rfl, rfl⟩
    exact ⟨_, rfl, World.ownsRow_nil _ _ _ _, Below.refl _ _, .inl rfl⟩
  · refine (clone_some a c B w hc ha hl).mono ?_
    rintro e w' ⟨v, rfl, h1, h2, h3⟩
    exact ⟨v, rfl, h1, h2, .inr (h3 rfl)⟩

/-- What is new is a buffer. -/
theorem Buf.of_row {w : World} {base : Nat} {v : Value} {B : List Nat} {n : Nat} (h : w.ownsRow base 5 1 v n (u8s B)) : Buf w v B := by
  have hn : n = B.length := by have := h.1; rw [u8s_length] at this; omega
  subst hn
  rcases h.2 with ⟨rfl, h0⟩ | ⟨g, cap, cur, rfl, _, hg, hnc, hcm, hcs, ht⟩
  · obtain rfl := List.eq_nil_of_length_eq_zero h0
    exact Buf.nil w
  · have hlt := (Array.getElem?_eq_some_iff.1 hg).1
    refine ⟨some ⟨g, 0, none⟩, g, 0, cap, rfl, ⟨hnc, fun _ => rfl, fun _ => hlt, by rw [u8s_length, Nat.mul_one], fun j u hu => ?_, fun j hj => ⟨?_, ?_⟩⟩, hcm, fun e => by simp at e, fun a ha => by simp only [Option.some.injEq] at ha; subst ha; exact hlt⟩
    · have := h.cells rfl j u hu
      rwa [Addr.add_lit] at this
    · simp only [World.cell?, hg]
      rw [Array.getElem?_eq_getElem (by omega)]
      rfl
    · simp [World.frozen?, hg]

set_option maxRecDepth 100000 in
set_option maxHeartbeats 800000 in
theorem put_any (p : Nat) (v x : Value) (B N : List Nat) (L T : Nat) (C : Bool) (w : World) (h : SAt w p v B L T C) (hx : SrcAt w x N) (hl : B.length + N.length ≤ L) :
    Calls Try.prog 41 #[.pointer (some ⟨p, 0, none⟩), x] w fun e w' => e = .returned (.tuple #[]) ∧ ∃ v', SAt w' p v' (B ++ N) L T C ∧ SStep p v v' w w' := by
  have c0 := h.c0
  have hf := h.fr 0
  have hm := h.max
  have H := Lib.hid h
  have HX := Lib.hid hx
  have HB := Lib.hid h.buf
  obtain ⟨ao, cap, rfl, _, _⟩ := h.buf.form
  clear h hx
  go_enter Try.func41, Try.ntmps41
  go_wp2_with (at_builtin; go_must (refine wpList_append_buf _ rfl _ _ rfl rfl HB.out rfl HX.out (by omega) ?_))
  intro v1 w1 hb1 hg1 ho1
  have hp1 : w1.heap[p]? = some (.cells #[.slice ao B.length cap, .int .i64 L, .int .i64 T, .bool C] 57 (0, 0)) := (hg1.block p H.out.lt (fun e => H.out.ne e.symm)).trans H.out.obj
  have hne : v1.ownBlock ≠ some p := fun e => by
    rcases ho1 p e with e' | e'
    · exact H.out.ne e'
    · have := H.out.lt; omega
  have hr1 : Rest (Mine p (.slice ao B.length cap)) w w1 := (Rest.refl _ w).grown hg1 (fun k e _ => .inr e)
  have c01 : w1.cell? ⟨p, 0, none⟩ = some (.slice ao B.length cap) := by simp [World.cell?, hp1]
  have f01 : w1.frozen? ⟨p, 0, none⟩ = false := by simp [World.frozen?, hp1]
  obtain ⟨ao1, cap1, hv, _, _⟩ := hb1.form
  rw [List.length_append] at hv
  subst hv
  have HP1 := Lib.hid hp1
  have HB1 := Lib.hid hb1
  have HO1 := Lib.hid ho1
  have HR1 := Lib.hid hr1
  have HN1 := Lib.hid hne
  clear hp1 hb1 ho1 hr1 hg1 hne c0 hf
  go_wp2
  go_end0
  refine ⟨rfl, _, ⟨heap_setCell_same w1 p 0 _ 57 _ HP1.out, HB1.out.setCell HN1.out _, HN1.out, by simp; omega, H.out.pos, H.out.max⟩, HR1.out.setCell (p := ⟨p, 0, none⟩) (fun _ => .inl rfl) _, HO1.out⟩

/-- A step of a source that makes no new buffer. -/
structure Keeps (p : Nat) (v v' : Value) (w w' : World) : Prop where
  rest : Rest (Mine p v) w w'
  own : ∀ k, v'.ownBlock = some k → v.ownBlock = some k
theorem Keeps.step {p : Nat} {v v' : Value} {w w' : World} (h : Keeps p v v' w w') : SStep p v v' w w' := ⟨h.rest, fun k hk => .inl (h.own k hk)⟩
theorem Keeps.below {p : Nat} {v : Value} {w w' : World} (h : Below w.heap.size w w') : Keeps p v v w w' := ⟨Rest.below h, fun _ h => h⟩
theorem Keeps.after {p : Nat} {v v' : Value} {w w1 w2 : World} (h : Below w.heap.size w w1) (k : Keeps p v v' w1 w2) : Keeps p v v' w w2 := ⟨(Rest.below h).trans k.rest (fun _ _ e => e), k.own⟩

theorem after_drop {w : World} {p : Nat} {v : Value} {B : List Nat} {L T : Nat} {C : Bool} (h : SAt w p v B L T C) (v' : Value) :
    (w.setCell ⟨p, 0, none⟩ v').heap[p]? = some (.cells #[v', .int .i64 L, .int .i64 T, .bool C] 57 (0, 0)) ∧ (w.setCell ⟨p, 0, none⟩ v').cell? ⟨p, 2, none⟩ = some (.int .i64 T) ∧ (w.setCell ⟨p, 0, none⟩ v').frozen? ⟨p, 2, none⟩ = false := by
  have hobj := heap_setCell_same w p 0 _ 57 v' h.obj
  exact ⟨hobj, by simp [World.cell?, hobj], by simp [World.frozen?, hobj]⟩

set_option maxRecDepth 100000 in
set_option maxHeartbeats 800000 in
theorem pass_any (p : Nat) (v : Value) (B : List Nat) (L T n : Nat) (C : Bool) (w : World) (h : SAt w p v B L T C) (hn : n ≤ B.length) (hT : T ≤ 4611686018427387904) :
    Calls Try.prog 40 #[.pointer (some ⟨p, 0, none⟩), .int .i64 n] w fun e w' => e = .returned (.tuple #[]) ∧ ∃ v', SAt w' p v' (B.drop n) L (T + n) C ∧ Keeps p v v' w w' := by
  have HD := Lib.hid (drop_any p v B n w h.c0 (h.fr 0) h.buf hn)
  have hm := h.max
  have hfit := h.fit
  have H := Lib.hid h
  clear h
  go_enter Try.func40, Try.ntmps40
  go_wp2_with (go_at_call 36; go_must (refine HD.out.mono ?_); rintro e w1 ⟨rfl, v', rfl, hb, ho⟩; have HB := Lib.hid hb; have HO := Lib.hid ho; obtain ⟨hobj, c2, f2⟩ := after_drop H.out v'; have HJ := Lib.hid hobj; clear hb ho hobj)
  go_end0
  have hne : v'.ownBlock ≠ some p := fun e => H.out.ne (HO.out p e)
  refine ⟨rfl, v', ⟨?_, (HB.out.setCell hne _).setCell hne _, hne, by simp; omega, H.out.pos, H.out.max⟩, ((Rest.refl (Mine p v) w).setCell (p := ⟨p, 0, none⟩) (fun _ => .inl rfl) _).setCell (p := ⟨p, 2, none⟩) (fun _ => .inl rfl) _, fun k hk => HO.out k hk⟩
  have := heap_setCell_same _ p 2 _ 57 (.int .i64 ((T + n : Nat) : Int)) HJ.out
  simpa using this
end Go.Proofs.Ytociidinfdbaeaa
