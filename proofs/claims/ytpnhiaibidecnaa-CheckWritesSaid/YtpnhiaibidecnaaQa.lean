/- Bytes in memory: slices of bytes, their texts, parts of them, append. No conditions: plain facts on memory. -/
import Derived.Test.YtpnhiaibidecnaaM
import Derived.BigQuiet
import Derived.BigRegion
import Derived.Deep.QuietTactic
import Derived.Deep.RegionHeld3
import Derived.Deep.CutRange
import Derived.Shelf.Abstract
import Derived.OwnWalkIn
import Derived.Laws.IdiomStrings
import Derived.Lib.BufferRead
import Derived.StillTailTactics
import Derived.Lib.QuietBelow
namespace Go.Proofs.Ytpnhiaibidecnaa
open Go.RowKit Go.Shelf

theorem ret_bool' {a b : Bool} (h : a = b) : Ending.returned (.bool a) = .returned (.bool b) := by rw [h]
theorem ret_int' {k : IntKind} {a b : Int} (h : a = b) : Ending.returned (.int k a) = .returned (.int k b) := by rw [h]

/-- Bytes as values. -/
def u8s (B : List Nat) : List Value := B.map fun c => Value.int .u8 (c : Nat)
theorem u8s_length (B : List Nat) : (u8s B).length = B.length := by simp [u8s]
theorem u8s_append (A B : List Nat) : u8s (A ++ B) = u8s A ++ u8s B := by simp [u8s]
theorem u8s_set (A : List Nat) (i c : Nat) : u8s (A.set i c) = (u8s A).set i (.int .u8 (c : Nat)) := by simp [u8s, List.map_set]
theorem u8s_get (B : List Nat) (j : Nat) (h : j < B.length) : (u8s B)[j]? = some (.int .u8 (B[j] : Nat)) := by simp [u8s, h]

/-- The bytes of a slice value, nil or not. -/
def SrcAt (w : World) (s : Value) (B : List Nat) : Prop :=
  (s = .slice none 0 0 ∧ B = []) ∨ ∃ a c, s = .slice (some a) B.length c ∧ a.block < w.heap.size ∧ ∀ j u, (u8s B)[j]? = some u → w.cell? (a.add j) = some u

theorem SrcAt.of_row {w : World} {base : Nat} {v : Value} {B : List Nat} {n : Nat} (h : w.ownsRow base 5 1 v n (u8s B)) : SrcAt w v B := by
  have hn : n = B.length := by have := h.1; rw [u8s_length] at this; omega
  subst hn
  rcases h.2 with ⟨rfl, h0⟩ | ⟨g, cap, cur, rfl, _, hg, _⟩
  · exact .inl ⟨rfl, List.eq_nil_of_length_eq_zero h0⟩
  · exact .inr ⟨⟨g, 0, none⟩, cap, rfl, (Array.getElem?_eq_some_iff.1 hg).1, h.cells rfl⟩

theorem SrcAt.rest {w w' : World} {S : Nat → Prop} {s : Value} {B : List Nat} (h : SrcAt w s B) (hr : Rest S w w') (hs : ∀ k, s.ownBlock = some k → ¬ S k) : SrcAt w' s B := by
  rcases h with h | ⟨a, c, rfl, ha, hc⟩
  · exact .inl h
  · refine .inr ⟨a, c, rfl, Nat.lt_of_lt_of_le ha hr.size, fun j u hu => (hr.cell (p := a.add j) (by rw [add_block]; exact ha) (by rw [add_block]; exact hs _ rfl)).trans (hc j u hu)⟩
theorem SrcAt.below {w w' : World} {n : Nat} {s : Value} {B : List Nat} (h : SrcAt w s B) (hr : Below n w w') (hs : ∀ k, s.ownBlock = some k → k < n) : SrcAt w' s B := by
  rcases h with h | ⟨a, c, rfl, ha, hc⟩
  · exact .inl h
  · exact .inr ⟨a, c, rfl, Nat.lt_of_lt_of_le ha hr.size, fun j u hu => (hr.cell (p := a.add j) (by rw [add_block]; exact hs _ rfl)).trans (hc j u hu)⟩
theorem SrcAt.lt {w : World} {s : Value} {B : List Nat} (h : SrcAt w s B) : ∀ k, s.ownBlock = some k → k < w.heap.size := by
  rcases h with ⟨rfl, _⟩ | ⟨a, c, rfl, ha, _⟩
  · intro k hk; simp [Value.ownBlock] at hk
  · intro k hk; simp [Value.ownBlock] at hk; omega
theorem SrcAt.drew {w : World} {s : Value} {B : List Nat} (h : SrcAt w s B) : SrcAt w.drew s B := h

/-- The stretch of bytes that is the buffer of a source. -/
structure BufAt (w : World) (v : Value) (B : List Nat) (ao : Option Addr) (b off cap : Nat) : Prop where
  eq : v = .slice ao B.length cap
  came : Came w 1 ao b off B.length cap (u8s B)
  max : cap ≤ maxLen
  nil : ao = none → cap = 0
  lt : ∀ a, ao = some a → a.block < w.heap.size

def Buf (w : World) (v : Value) (B : List Nat) : Prop := ∃ ao b off cap, BufAt w v B ao b off cap

theorem BufAt.carry {w w' : World} {v : Value} {B : List Nat} {ao : Option Addr} {b off cap : Nat} (h : BufAt w v B ao b off cap) (hs : w.heap.size ≤ w'.heap.size) (hb : 0 < cap → w'.heap[b]? = w.heap[b]?) : BufAt w' v B ao b off cap := by
  have hB : 0 < B.length → 0 < cap := fun h0 => Nat.lt_of_lt_of_le h0 h.came.le
  refine ⟨h.eq, ⟨h.came.le, h.came.addr, fun hc => Nat.lt_of_lt_of_le (h.came.lt hc) hs, h.came.oldsLen, fun j u hu => ?_, fun j hj => ?_⟩, h.max, h.nil, fun a ha => Nat.lt_of_lt_of_le (h.lt a ha) hs⟩
  · have hj := (List.getElem?_eq_some_iff.1 hu).1
    rw [u8s_length] at hj
    exact (World.cell?_of_block (a := ⟨b, off + j, none⟩) (hb (hB (by omega)))).trans (h.came.olds j u hu)
  · have hc : 0 < cap := by
      rcases Nat.eq_zero_or_pos cap with h0 | h0
      · subst h0; simp at hj
      · exact h0
    obtain ⟨h1, h2⟩ := h.came.spare j hj
    exact ⟨by rw [World.cell?_of_block (a := ⟨b, off + B.length * 1 + j, none⟩) (hb hc)]; exact h1, (World.frozen?_of_block (a := ⟨b, off + B.length * 1 + j, none⟩) (hb hc)).trans h2⟩

theorem BufAt.own {w : World} {v : Value} {B : List Nat} {ao : Option Addr} {b off cap : Nat} (h : BufAt w v B ao b off cap) (hc : 0 < cap) : v.ownBlock = some b := by
  rw [h.eq, h.came.addr hc]; rfl

theorem Buf.rest {w w' : World} {S : Nat → Prop} {v : Value} {B : List Nat} (h : Buf w v B) (hr : Rest S w w') (hs : ∀ k, v.ownBlock = some k → ¬ S k) : Buf w' v B := by
  obtain ⟨ao, b, off, cap, h⟩ := h
  exact ⟨ao, b, off, cap, h.carry hr.size fun hc => hr.block b (h.came.lt hc) (hs b (h.own hc))⟩
theorem Buf.lt {w : World} {v : Value} {B : List Nat} (h : Buf w v B) : ∀ k, v.ownBlock = some k → k < w.heap.size := by
  obtain ⟨ao, b, off, cap, h⟩ := h
  intro k hk
  rw [h.eq] at hk
  cases ao with
  | none => simp [Value.ownBlock] at hk
  | some a =>
    have := h.lt a rfl
    simp [Value.ownBlock] at hk
    omega
theorem Buf.nil (w : World) : Buf w (.slice none 0 0) [] := ⟨none, 0, 0, 0, rfl, ⟨Nat.le_refl _, by omega, by omega, rfl, fun j u hu => by simp [u8s] at hu, fun j hj => by simp at hj⟩, Nat.zero_le _, fun _ => rfl, fun a ha => by cases ha⟩
theorem Buf.form {w : World} {v : Value} {B : List Nat} (h : Buf w v B) : ∃ ao cap, v = .slice ao B.length cap ∧ B.length ≤ cap ∧ cap ≤ maxLen := by
  obtain ⟨ao, b, off, cap, h⟩ := h
  exact ⟨ao, cap, h.eq, h.came.le, h.max⟩
theorem Buf.setCell {w : World} {v : Value} {B : List Nat} (h : Buf w v B) {p : Addr} (hp : v.ownBlock ≠ some p.block) (u : Value) : Buf (w.setCell p u) v B :=
  h.rest (S := fun k => k = p.block) ((Rest.refl (fun k => k = p.block) w).setCell (p := p) (fun _ => rfl) u) (fun k hk e => hp (by rw [hk, e]))

theorem Buf.src {w : World} {v : Value} {B : List Nat} (h : Buf w v B) : SrcAt w v B := by
  obtain ⟨ao, b, off, cap, h⟩ := h
  cases ao with
  | none =>
    have h0 := h.nil rfl
    have := h.came.le
    have hB : B = [] := List.eq_nil_of_length_eq_zero (by omega)
    subst h0; subst hB
    exact .inl ⟨h.eq, rfl⟩
  | some a =>
    refine .inr ⟨a, cap, h.eq, h.lt a rfl, fun j u hu => ?_⟩
    have hj := (List.getElem?_eq_some_iff.1 hu).1
    rw [u8s_length] at hj
    have hc : 0 < cap := Nat.lt_of_lt_of_le (by omega) h.came.le
    have ha := h.came.addr hc
    simp only [Option.some.injEq] at ha
    subst ha
    rw [Addr.add_lit]
    exact h.came.olds j u hu

theorem tape_setCells (b : Nat) : ∀ (vs : List Value) (o : Nat) (w : World), (w.setCells b o vs).tape = w.tape
  | [], _, _ => rfl
  | v :: r, o, w => by rw [World.setCells, tape_setCells b r]; rfl
theorem size_setCells (b : Nat) : ∀ (vs : List Value) (o : Nat) (w : World), (w.setCells b o vs).heap.size = w.heap.size
  | [], _, _ => rfl
  | v :: r, o, w => by rw [World.setCells, size_setCells b r]; simp [World.setCell]

theorem SrcAt.src {w : World} {s : Value} {N : List Nat} (h : SrcAt w s N) : Src Try.prog 1 22 s N.length (u8s N) w := by
  have one : ∀ u ∈ u8s N, u.oneCell' = true := by
    intro u hu
    obtain ⟨c, _, rfl⟩ := List.mem_map.1 hu
    rfl
  rcases h with ⟨rfl, rfl⟩ | ⟨a, c, rfl, _, hc⟩
  · exact Src.ofNil w (e' := 5) (by kernel_rfl) 0
  · exact Src.ofSlice w (e' := 5) (by kernel_rfl) a N.length c (u8s N) (by rw [u8s_length, Nat.mul_one]) hc one

theorem Try.infB : (Try.prog.info? 5).map (fun i => (i.zero, i.size, i.bytes)) = some (some (.int .u8 0), 1, 1) := by kernel_rfl

/-- A new stretch of a buffer: where it was, or in a new block. -/
def Own2 (w : World) (v v' : Value) : Prop := ∀ k, v'.ownBlock = some k → v.ownBlock = some k ∨ w.heap.size ≤ k

/-- The text of bytes. -/
def strOf (B : List Nat) : ByteArray := ⟨(B.map UInt8.ofNat).toArray⟩

theorem Try.undL : Try.prog.underlying 22 = some (.slice 5) := by kernel_rfl
theorem Try.undB : Try.prog.underlying 5 = some (.int .u8) := by kernel_rfl
theorem Try.undS : Try.prog.underlying 9 = some .string := by kernel_rfl

theorem conv_src {w : World} {s : Value} {B : List Nat} (h : SrcAt w s B) (hB : ∀ c ∈ B, c < 256) : (convert 22 9 s).run Try.prog w = .ok (.string (strOf B)) w := by
  rcases h with ⟨rfl, rfl⟩ | ⟨a, c, rfl, _, hc⟩
  · exact Lib.run_convert_nil_bytes w 22 9 5 0 Try.undL Try.undB Try.undS
  · have := run_convert_bytes_back (P := Try.prog) w 22 9 5 a c (B.map UInt8.ofNat) Try.undL Try.undB Try.undS (fun j hj => by
      have hj' : j < B.length := by simpa using hj
      refine hc j _ ?_
      have := hB B[j] (List.getElem_mem hj')
      simp [u8s, hj', Nat.mod_eq_of_lt this])
    simpa [strOf] using this

theorem new_src (w : World) (B : List Nat) (c : Nat) (C : Array Value) (hC : C = (u8s B).toArray) (s : Nat) (hs : w.heap.size = s) (n : Nat) (hn : n = B.length) : SrcAt (w.alloc (.cells C 5)) (.slice (some ⟨s, 0, none⟩) n c) B := by
  subst hC hs hn
  refine .inr ⟨⟨w.heap.size, 0, none⟩, c, rfl, by simp, fun j u hu => ?_⟩
  have hadd : (⟨w.heap.size, 0, none⟩ : Addr).add j = ⟨w.heap.size, j, none⟩ := by unfold Addr.add; split <;> simp_all
  rw [hadd, World.cell?_alloc_new]
  simpa using hu

theorem row_shape {w : World} {base : Nat} {s : Value} {N : List Nat} (h : w.ownsRow base 5 1 s N.length (u8s N)) : ∃ A d, s = .slice A N.length d := by
  rcases h.2 with ⟨rfl, h0⟩ | ⟨g, cap, cur, rfl, _⟩
  · exact ⟨none, 0, by rw [h0]⟩
  · exact ⟨_, _, rfl⟩

/-- A part of a slice of bytes. -/
theorem sub_src {w : World} {A : Option Addr} {n c : Nat} {B : List Nat} (h : SrcAt w (.slice A n c) B) (hnc : n ≤ c) (lo m : Nat) (hlo : lo + m ≤ n) :
    SrcAt w (.slice (if c = lo then A else A.map (·.add lo)) m (c - lo)) ((B.drop lo).take m) := by
  rcases h with ⟨e, rfl⟩ | ⟨a, c', e, ha, hc⟩
  · simp only [Value.slice.injEq] at e
    obtain ⟨rfl, rfl, rfl⟩ := e
    obtain rfl : lo = 0 := by omega
    obtain rfl : m = 0 := by omega
    exact .inl ⟨by simp, by simp⟩
  · simp only [Value.slice.injEq] at e
    obtain ⟨rfl, rfl, rfl⟩ := e
    have hl : ((B.drop lo).take m).length = m := by rw [List.length_take, List.length_drop]; omega
    by_cases h0 : c = lo
    · rw [if_pos h0]
      obtain rfl : m = 0 := by omega
      exact .inr ⟨a, c - lo, by rw [hl], ha, fun j u hu => by simp [u8s] at hu⟩
    · rw [if_neg h0]
      refine .inr ⟨a.add lo, c - lo, by rw [hl]; rfl, by rw [add_block]; exact ha, fun j u hu => ?_⟩
      have hj := (List.getElem?_eq_some_iff.1 hu).1
      rw [u8s_length, hl] at hj
      rw [Addr.add_add]
      refine hc (lo + j) u ?_
      rw [← hu]
      simp [u8s, hj]

theorem strOf_append (A B : List Nat) : strOf A ++ strOf B = strOf (A ++ B) := by
  unfold strOf
  ext1
  simp [ByteArray.data_append]

theorem take_add' (A : List Nat) (k m : Nat) : A.take k ++ (A.drop k).take m = A.take (k + m) := by
  rw [List.take_add]

theorem src_byte {w : World} {A : Option Addr} {n c : Nat} {B : List Nat} (h : SrcAt w (.slice A n c) B) (j : Nat) (hj : j < B.length) : ∃ a, A = some a ∧ w.cell? (a.add j) = some (.int .u8 (B[j] : Nat)) := by
  rcases h with ⟨e, rfl⟩ | ⟨a, c', e, ha, hc⟩
  · simp at hj
  · simp only [Value.slice.injEq] at e
    obtain ⟨rfl, rfl, rfl⟩ := e
    exact ⟨a, rfl, hc j _ (u8s_get B j hj)⟩

/-- Bytes of a call: as SrcAt, or none, at any place. -/
def SrcE (w : World) (s : Value) (B : List Nat) : Prop := SrcAt w s B ∨ (B = [] ∧ ∃ a c, s = .slice (some a) 0 c)

theorem SrcE.below {w w' : World} {s : Value} {B : List Nat} (h : SrcE w s B) (hb : Below w.heap.size w w') : SrcE w' s B := by
  rcases h with h | h
  · exact .inl (h.below hb h.lt)
  · exact .inr h

theorem SrcE.rest {w w' : World} {S : Nat → Prop} {s : Value} {B : List Nat} (h : SrcE w s B) (hr : Rest S w w') (hs : ∀ k, k < w.heap.size → s.ownBlock = some k → ¬ S k) : SrcE w' s B := by
  rcases h with h | h
  · exact .inl (h.rest hr fun k hk => hs k (h.lt k hk) hk)
  · exact .inr h

theorem SrcE.src {w : World} {s : Value} {N : List Nat} (h : SrcE w s N) : Src Try.prog 1 22 s N.length (u8s N) w := by
  rcases h with h | ⟨rfl, a, c, rfl⟩
  · exact h.src
  · exact Src.ofSlice w (e' := 5) (by kernel_rfl) a 0 c [] (by simp) (fun j u hu => by simp at hu) (fun u hu => by simp at hu)

theorem run_append_src (ty : TypeId) {w : World} {v : Value} {B : List Nat} (h : Buf w v B) {x : Value} {N : List Nat} (hsrc : Src Try.prog 1 22 x N.length (u8s N) w) (hl : B.length + N.length ≤ 140737488355328) :
    ∃ v' w', (Builtin.append_ #[22, 22] ty #[v, x]).run Try.prog w = .ok v' w' ∧ Buf w' v' (B ++ N) ∧ w.grownBy w' v.ownBlock ∧ Own2 w v v' := by
  obtain ⟨i, hi, hz, hsz, hby⟩ := info_parts Try.infB
  have ht : Try.prog.underlying 22 = some (.slice 5) := by kernel_rfl
  obtain ⟨ao, b, off, cap, h⟩ := h
  have hlen : (u8s (B ++ N)).length = B.length + N.length := by rw [u8s_length]; simp
  rw [← hsz] at hsrc
  by_cases hfit : B.length + N.length ≤ cap
  · rcases Nat.eq_zero_or_pos cap with h0 | hcap
    · subst h0
      have hN : N = [] := List.eq_nil_of_length_eq_zero (by omega)
      subst hN
      refine ⟨v, w, ?_, by rw [List.append_nil]; exact ⟨ao, b, off, 0, h⟩, ⟨rfl, rfl, rfl, Nat.le_refl _, fun _ _ _ => rfl⟩, fun k hk => .inl hk⟩
      rw [h.eq]
      exact run_append_nothing w 22 22 ty 5 i ht hi ao _ 0 (by simpa using hfit) x hsrc
    · have hao := h.came.addr hcap
      have hsp : ∀ j, j < N.length → (w.cell? ⟨b, off + B.length * 1 + j, none⟩).isSome = true ∧ w.frozen? ⟨b, off + B.length * 1 + j, none⟩ = false := fun j hj => h.came.spare j (by omega)
      have hrun := run_append_room_src (P := Try.prog) w 22 22 ty 5 i ht hi b off B.length cap x N.length (u8s N) hsrc hfit (fun j hj => by rw [u8s_length] at hj; rw [hsz]; exact (hsp j hj).1) (fun j hj => by rw [u8s_length] at hj; rw [hsz]; exact (hsp j hj).2)
      rw [hsz] at hrun
      refine ⟨.slice (some ⟨b, off, none⟩) (B.length + N.length) cap, _, by rw [h.eq, hao]; exact hrun, ⟨some ⟨b, off, none⟩, b, off, cap, by simp, ?_, h.max, fun e => by simp at e, fun a ha => ?_⟩, ⟨World.os_setCells _ _ _ _, tape_setCells _ _ _ _, World.output_setCells _ _ _ _, by rw [size_setCells]; exact Nat.le_refl _, fun k hk hne => World.heap_setCells_other w b _ _ hk (fun e => hne (by rw [h.own hcap, e]))⟩, fun k hk => .inl (by rw [h.own hcap]; exact hk)⟩
      · refine ⟨by simpa using hfit, fun _ => rfl, fun _ => by rw [size_setCells]; exact h.came.lt hcap, by rw [u8s_length, Nat.mul_one], fun j u hu => ?_, fun j hj => ?_⟩
        · have hj := (List.getElem?_eq_some_iff.1 hu).1
          rw [hlen] at hj
          by_cases hjo : j < B.length
          · rw [World.cell?_setCells_out b _ _ _ _ (fun _ _ => Or.inl (by show off + j < off + B.length * 1; omega))]
            refine h.came.olds j u ?_
            rw [u8s_append, List.getElem?_append_left (by rw [u8s_length]; exact hjo)] at hu
            exact hu
          · have ht' : j - B.length < (u8s N).length := by rw [u8s_length]; omega
            have := World.cell?_setCells_in b (u8s N) (off + B.length * 1) w (fun j hj => by rw [u8s_length] at hj; exact (hsp j hj).1) (j - B.length) ht'
            rw [show off + B.length * 1 + (j - B.length) = off + j by omega] at this
            rw [this, ← hu, u8s_append, List.getElem?_append_right (by rw [u8s_length]; omega), u8s_length, List.getElem?_eq_getElem ht']
        · have e1 : off + (B ++ N).length * 1 + j = off + B.length * 1 + (N.length + j) := by simp; omega
          have hsp' := h.came.spare (N.length + j) (by simp at hj; omega)
          rw [e1]
          refine ⟨?_, (World.frozen?_setCells b _ _ _ _).trans hsp'.2⟩
          rw [World.cell?_setCells_out b _ _ _ _ (fun _ _ => Or.inr (by show off + B.length * 1 + (u8s N).length ≤ off + B.length * 1 + (N.length + j); rw [u8s_length]; omega))]
          exact hsp'.1
      · simp only [Option.some.injEq] at ha
        subst ha
        rw [size_setCells]
        exact h.came.lt hcap
  · have h63 : B.length + N.length ≤ maxLen := Nat.le_trans hl (by decide)
    have hold : (Builtin.firstCells i.size B.length (.slice ao B.length cap)).run Try.prog w.drew = .ok (u8s B).toArray w.drew := by
      rcases Nat.eq_zero_or_pos cap with h0 | hcap
      · have := h.came.le
        have hB : B = [] := List.eq_nil_of_length_eq_zero (by omega)
        subst hB; subst h0
        cases ao with
        | none => exact run_firstCells_none w.drew i.size 0 0 0
        | some a' => exact run_firstCells_some w.drew i.size 0 a' 0 0 [] (by simp) (by intro _ _ h'; simp at h')
      · rw [h.came.addr hcap]
        refine run_firstCells_some w.drew i.size B.length ⟨b, off, none⟩ B.length cap (u8s B) (by rw [u8s_length, hsz, Nat.mul_one]) (fun j u hu => ?_)
        rw [Addr.add_lit]
        exact h.came.olds j u hu
    have hrun := run_append_grow_src (P := Try.prog) w 22 22 ty 5 i (.int .u8 0) ht hi hz ao B.length cap (u8s B) hold x N.length (u8s N) hsrc (by omega) (by have : maxLen = 9223372036854775807 := rfl; omega) (growslice_fits (by omega) (by rw [hby, Nat.mul_one]; exact hl))
    have hge := grownCap_ge w (B.length + N.length) cap 5
    have hcm := grownCap_le_maxLen w (B.length + N.length) cap 5 h63
    have hblk : ∀ k, k < w.heap.size → (w.drew.alloc (.cells ((u8s B ++ u8s N).toArray ++ Builtin.zeroCells (Value.int IntKind.u8 0).cells (grownCap w (B.length + N.length) cap 5 - (B.length + N.length))) 5)).heap[k]? = w.heap[k]? := fun k hk => Below.heap_alloc w.drew _ k hk
    have hsize : ((u8s B ++ u8s N).toArray ++ Builtin.zeroCells (Value.int IntKind.u8 0).cells (grownCap w (B.length + N.length) cap 5 - (B.length + N.length))).size = grownCap w (B.length + N.length) cap 5 := by
      rw [Array.size_append, List.size_toArray, ← u8s_append, hlen, size_zeroCells]
      show B.length + N.length + _ * 1 = _
      omega
    rw [← h.eq] at hrun
    refine ⟨_, _, hrun, ⟨some ⟨w.heap.size, 0, none⟩, w.heap.size, 0, grownCap w (B.length + N.length) cap 5, by simp, ⟨by simp; omega, fun _ => rfl, fun _ => by simp, by rw [u8s_length, Nat.mul_one], fun j u hu => ?_, fun j hj => ?_⟩, hcm, fun e => by simp at e, fun a ha => ?_⟩, ⟨rfl, rfl, rfl, by simp, fun k hk _ => hblk k hk⟩, fun k hk => .inr ?_⟩
    · have e1 : (w.drew.alloc (.cells ((u8s B ++ u8s N).toArray ++ Builtin.zeroCells (Value.int IntKind.u8 0).cells (grownCap w (B.length + N.length) cap 5 - (B.length + N.length))) 5)).cell? ⟨w.heap.size, 0 + j, none⟩ = _ := World.cell?_alloc_new w.drew _ _ (0 + j)
      have hj := (List.getElem?_eq_some_iff.1 hu).1
      rw [hlen] at hj
      rw [e1, Nat.zero_add, Array.getElem?_append_left (by simp only [List.size_toArray]; rw [← u8s_append, hlen]; exact hj), List.getElem?_toArray, ← u8s_append]
      exact hu
    · have hj' : 0 + (B ++ N).length * 1 + j < grownCap w (B.length + N.length) cap 5 := by simp at hj ⊢; omega
      refine ⟨?_, World.frozen?_alloc_new w.drew _ _ _⟩
      have e1 : (w.drew.alloc (.cells ((u8s B ++ u8s N).toArray ++ Builtin.zeroCells (Value.int IntKind.u8 0).cells (grownCap w (B.length + N.length) cap 5 - (B.length + N.length))) 5)).cell? ⟨w.heap.size, 0 + (B ++ N).length * 1 + j, none⟩ = _ := World.cell?_alloc_new w.drew _ _ _
      rw [e1, Array.getElem?_eq_getElem (by rw [hsize]; exact hj')]
      rfl
    · simp only [Option.some.injEq] at ha
      subst ha
      simp
    · simp [Value.ownBlock] at hk
      omega

/-- At the list of a plain region's operations, whatever the bytes' form. -/
theorem wpList_append_src (w : World) {ops : Array Oper} {rest : List Oper} {o : Oper} {a : Act} {Q : Exit → Act → World → Prop} (hgd : o.guard = none) (s x : Operand)
    (ho : o.op = .call { callee := .builtin .append, args := #[s, x], argTypes := #[22, 22] }) {v : Value} {B : List Nat} (hv : a.eval s = v) (h : Buf w v B) {xv : Value} {N : List Nat} (hx : a.eval x = xv) (hs : Src Try.prog 1 22 xv N.length (u8s N) w) (hl : B.length + N.length ≤ 140737488355328)
    (hK : ∀ v' w', Buf w' v' (B ++ N) → w.grownBy w' v.ownBlock → Own2 w v v' → wpList Try.prog ops Q rest (a.put o.dst v') w') : wpList Try.prog ops Q (o :: rest) a w := by
  refine wpList_plain hgd fun K hK' => ?_
  obtain ⟨v', w', hrun, h1, h2, h3⟩ := run_append_src o.type h hs hl
  unfold Oper.wp
  simp [execOp, ho, resolve, invoke, builtin, hv, hx, hrun, Result.andThen]
  exact hK' _ _ (hK v' w' h1 h2 h3)
theorem quiet_same {P : Program} {f : FuncId} {args : Array Value} {w : World} {n : Nat} {v : Value}
    (h : Calls P f args (w.drewN n) fun e w' => e = .returned v ∧ w.drewN n = w') : Calls P f args (w.drewN n) fun e w'' => e = .returned v ∧ ∃ m, w'' = w.drewN m :=
  h.mono fun _ _ ⟨he, hm⟩ => ⟨he, n, hm.symm⟩

theorem Buf.drewN {w : World} {v : Value} {B : List Nat} (h : Buf w v B) (n : Nat) : Buf (w.drewN n) v B :=
  h.rest (S := fun _ => False) ⟨rfl, rfl, rfl, Nat.le_refl _, fun _ _ _ => rfl⟩ (fun _ _ e => e)


end Go.Proofs.Ytpnhiaibidecnaa
