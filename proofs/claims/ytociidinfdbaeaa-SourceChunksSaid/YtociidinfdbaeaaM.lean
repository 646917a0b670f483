/- A source in memory: its block and the stretch of bytes that is its buffer; what a step of it leaves as it was; append at such a stretch. No conditions: plain facts on memory. -/
import Derived.Test.YtociidinfdbaeaaProg
import Derived.WalkKit
import Derived.WalkSpells
import Derived.WalkLawsBesides
import Derived.Deep.AppendLies
import Derived.Deep.Upon
import Derived.Lib.Hide
namespace Go.Proofs.Ytociidinfdbaeaa
open Go.RowKit

/-- All but the blocks of S lies as it lay. -/
structure Rest (S : Nat → Prop) (w w' : World) : Prop where
  os : w'.os = w.os
  tape : w'.tape = w.tape
  output : w'.output = w.output
  size : w.heap.size ≤ w'.heap.size
  block : ∀ k, k < w.heap.size → ¬ S k → w'.heap[k]? = w.heap[k]?

theorem Rest.refl (S : Nat → Prop) (w : World) : Rest S w w := ⟨rfl, rfl, rfl, Nat.le_refl _, fun _ _ _ => rfl⟩
theorem Rest.trans {S T : Nat → Prop} {a b c : World} (h : Rest S a b) (k : Rest T b c) (hT : ∀ i, i < a.heap.size → T i → S i) : Rest S a c :=
  ⟨k.os.trans h.os, k.tape.trans h.tape, k.output.trans h.output, Nat.le_trans h.size k.size, fun i hi hs =>
    (k.block i (Nat.lt_of_lt_of_le hi h.size) (fun ht => hs (hT i hi ht))).trans (h.block i hi hs)⟩
theorem Rest.mono {S T : Nat → Prop} {a b : World} (h : Rest S a b) (hT : ∀ i, i < a.heap.size → S i → T i) : Rest T a b :=
  ⟨h.os, h.tape, h.output, h.size, fun i hi hs => h.block i hi (fun ht => hs (hT i hi ht))⟩
theorem Rest.below {S : Nat → Prop} {a b : World} (h : Below a.heap.size a b) : Rest S a b :=
  ⟨h.os, h.tape, h.output, h.size, fun i hi _ => h.block i hi⟩
theorem Rest.toBelow {S : Nat → Prop} {a b : World} (h : Rest S a b) (n : Nat) (hn : n ≤ a.heap.size) (hs : ∀ i, i < n → ¬ S i) : Below n a b :=
  ⟨h.os, h.tape, h.output, h.size, fun i hi => h.block i (by omega) (hs i hi)⟩
theorem Rest.setCell {S : Nat → Prop} {a w : World} (h : Rest S a w) {p : Addr} (hp : p.block < a.heap.size → S p.block) (u : Value) : Rest S a (w.setCell p u) :=
  h.trans (T := fun i => i = p.block) ⟨rfl, rfl, rfl, by simp [World.setCell], fun k _ hk => Below.heap_setCell _ _ _ _ hk⟩ (fun i hi e => by subst e; exact hp hi)
theorem Rest.alloc {S : Nat → Prop} {a w : World} (h : Rest S a w) (o : Obj) : Rest S a (w.alloc o) :=
  h.trans (T := S) ⟨rfl, rfl, rfl, by simp, fun k hk _ => Below.heap_alloc _ _ _ hk⟩ (fun _ _ e => e)
theorem Rest.drew {S : Nat → Prop} {a w : World} (h : Rest S a w) : Rest S a w.drew := ⟨h.os, h.tape, h.output, h.size, h.block⟩
theorem Rest.grown {S : Nat → Prop} {a w w' : World} {row : Option Nat} (h : Rest S a w) (hg : w.grownBy w' row) (hr : ∀ k, row = some k → k < a.heap.size → S k) : Rest S a w' :=
  h.trans (T := fun i => some i = row) ⟨hg.os, hg.tape, hg.output, hg.size, fun k hk hs => hg.block k hk hs⟩ (fun i hi e => hr i e.symm hi)
theorem Rest.cell {S : Nat → Prop} {a b : World} (h : Rest S a b) {p : Addr} (hp : p.block < a.heap.size) (hs : ¬ S p.block) : b.cell? p = a.cell? p := World.cell?_of_block (w := a) (h.block p.block hp hs)
theorem Rest.frozen {S : Nat → Prop} {a b : World} (h : Rest S a b) {p : Addr} (hp : p.block < a.heap.size) (hs : ¬ S p.block) : b.frozen? p = a.frozen? p := World.frozen?_of_block (w := a) (h.block p.block hp hs)
/-- What is owned, and not in S, stays owned. -/
theorem Rest.row {S : Nat → Prop} {a b : World} (h : Rest S a b) {base : Nat} {e : TypeId} {size : Nat} {v : Value} {n : Nat} {xs : List Value} (ho : a.ownsRow base e size v n xs) (hs : ∀ k, v.ownBlock = some k → ¬ S k) : b.ownsRow base e size v n xs := by
  refine ⟨ho.1, ?_⟩
  rcases ho.2 with hn | ⟨g, cap, cur, rfl, hb, hgg, rest⟩
  · exact .inl hn
  · exact .inr ⟨g, cap, cur, rfl, hb, (h.block g (Array.getElem?_eq_some_iff.1 hgg).1 (hs g rfl)).trans hgg, rest⟩

theorem add_block (a : Addr) (j : Nat) : (a.add j).block = a.block := by unfold Addr.add; split <;> rfl

/-- Bytes as values. -/
def u8s (B : List Nat) : List Value := B.map fun c => Value.int .u8 (c : Nat)
theorem u8s_length (B : List Nat) : (u8s B).length = B.length := by simp [u8s]
theorem u8s_append (A B : List Nat) : u8s (A ++ B) = u8s A ++ u8s B := by simp [u8s]
theorem u8s_set (A : List Nat) (i c : Nat) : u8s (A.set i c) = (u8s A).set i (.int .u8 (c : Nat)) := by simp [u8s, List.map_set]
theorem u8s_get (B : List Nat) (j : Nat) (h : j < B.length) : (u8s B)[j]? = some (.int .u8 (B[j] : Nat)) := by simp [u8s, h]

/-- The bytes of a slice value, nil or not. -/
def SrcAt (w : World) (s : Value) (B : List Nat) : Prop :=
  (s = .slice none 0 0 ∧ B = []) ∨ ∃ a c, s = .slice (some a) B.length c ∧ a.block < w.heap.size ∧ ∀ j u, (u8s B)[j]? = some u → w.cell? (a.add j) = some u

theorem SrcAt.of_row {w : World} {base : Nat} {v : Value} {B : List Nat} {n : Nat} (h : w.ownsRow base 5 1 v n (u8s B)) : SrcAt w v B := by
  have hn : n = B.length := by have := h.1; rw [u8s_length] at this; omega
  subst hn
  rcases h.2 with ⟨rfl, h0⟩ | ⟨g, cap, cur, rfl, _, hg, _⟩
  · exact .inl ⟨rfl, List.eq_nil_of_length_eq_zero h0⟩
  · exact .inr ⟨⟨g, 0, none⟩, cap, rfl, (Array.getElem?_eq_some_iff.1 hg).1, h.cells rfl⟩

theorem SrcAt.rest {w w' : World} {S : Nat → Prop} {s : Value} {B : List Nat} (h : SrcAt w s B) (hr : Rest S w w') (hs : ∀ k, s.ownBlock = some k → ¬ S k) : SrcAt w' s B := by
  rcases h with h | ⟨a, c, rfl, ha, hc⟩
  · exact .inl h
  · refine .inr ⟨a, c, rfl, Nat.lt_of_lt_of_le ha hr.size, fun j u hu => (hr.cell (p := a.add j) (by rw [add_block]; exact ha) (by rw [add_block]; exact hs _ rfl)).trans (hc j u hu)⟩
theorem SrcAt.below {w w' : World} {n : Nat} {s : Value} {B : List Nat} (h : SrcAt w s B) (hr : Below n w w') (hs : ∀ k, s.ownBlock = some k → k < n) : SrcAt w' s B := by
  rcases h with h | ⟨a, c, rfl, ha, hc⟩
  · exact .inl h
  · exact .inr ⟨a, c, rfl, Nat.lt_of_lt_of_le ha hr.size, fun j u hu => (hr.cell (p := a.add j) (by rw [add_block]; exact hs _ rfl)).trans (hc j u hu)⟩
theorem SrcAt.lt {w : World} {s : Value} {B : List Nat} (h : SrcAt w s B) : ∀ k, s.ownBlock = some k → k < w.heap.size := by
  rcases h with ⟨rfl, _⟩ | ⟨a, c, rfl, ha, _⟩
  · intro k hk; simp [Value.ownBlock] at hk
  · intro k hk; simp [Value.ownBlock] at hk; omega
theorem SrcAt.drew {w : World} {s : Value} {B : List Nat} (h : SrcAt w s B) : SrcAt w.drew s B := h

/-- The stretch of bytes that is the buffer of a source. -/
structure BufAt (w : World) (v : Value) (B : List Nat) (ao : Option Addr) (b off cap : Nat) : Prop where
  eq : v = .slice ao B.length cap
  came : Came w 1 ao b off B.length cap (u8s B)
  max : cap ≤ maxLen
  nil : ao = none → cap = 0
  lt : ∀ a, ao = some a → a.block < w.heap.size

def Buf (w : World) (v : Value) (B : List Nat) : Prop := ∃ ao b off cap, BufAt w v B ao b off cap

theorem BufAt.carry {w w' : World} {v : Value} {B : List Nat} {ao : Option Addr} {b off cap : Nat} (h : BufAt w v B ao b off cap) (hs : w.heap.size ≤ w'.heap.size) (hb : 0 < cap → w'.heap[b]? = w.heap[b]?) : BufAt w' v B ao b off cap := by
  have hB : 0 < B.length → 0 < cap := fun h0 => Nat.lt_of_lt_of_le h0 h.came.le
  refine ⟨h.eq, ⟨h.came.le, h.came.addr, fun hc => Nat.lt_of_lt_of_le (h.came.lt hc) hs, h.came.oldsLen, fun j u hu => ?_, fun j hj => ?_⟩, h.max, h.nil, fun a ha => Nat.lt_of_lt_of_le (h.lt a ha) hs⟩
  · have hj := (List.getElem?_eq_some_iff.1 hu).1
    rw [u8s_length] at hj
    exact (World.cell?_of_block (a := ⟨b, off + j, none⟩) (hb (hB (by omega)))).trans (h.came.olds j u hu)
  · have hc : 0 < cap := by
      rcases Nat.eq_zero_or_pos cap with h0 | h0
      · subst h0; simp at hj
      · exact h0
    obtain ⟨h1, h2⟩ := h.came.spare j hj
    exact ⟨by rw [World.cell?_of_block (a := ⟨b, off + B.length * 1 + j, none⟩) (hb hc)]; exact h1, (World.frozen?_of_block (a := ⟨b, off + B.length * 1 + j, none⟩) (hb hc)).trans h2⟩

theorem BufAt.own {w : World} {v : Value} {B : List Nat} {ao : Option Addr} {b off cap : Nat} (h : BufAt w v B ao b off cap) (hc : 0 < cap) : v.ownBlock = some b := by
  rw [h.eq, h.came.addr hc]; rfl

theorem Buf.rest {w w' : World} {S : Nat → Prop} {v : Value} {B : List Nat} (h : Buf w v B) (hr : Rest S w w') (hs : ∀ k, v.ownBlock = some k → ¬ S k) : Buf w' v B := by
  obtain ⟨ao, b, off, cap, h⟩ := h
  exact ⟨ao, b, off, cap, h.carry hr.size fun hc => hr.block b (h.came.lt hc) (hs b (h.own hc))⟩
theorem Buf.lt {w : World} {v : Value} {B : List Nat} (h : Buf w v B) : ∀ k, v.ownBlock = some k → k < w.heap.size := by
  obtain ⟨ao, b, off, cap, h⟩ := h
  intro k hk
  rw [h.eq] at hk
  cases ao with
  | none => simp [Value.ownBlock] at hk
  | some a =>
    have := h.lt a rfl
    simp [Value.ownBlock] at hk
    omega
theorem Buf.nil (w : World) : Buf w (.slice none 0 0) [] := ⟨none, 0, 0, 0, rfl, ⟨Nat.le_refl _, by omega, by omega, rfl, fun j u hu => by simp [u8s] at hu, fun j hj => by simp at hj⟩, Nat.zero_le _, fun _ => rfl, fun a ha => by cases ha⟩
theorem Buf.form {w : World} {v : Value} {B : List Nat} (h : Buf w v B) : ∃ ao cap, v = .slice ao B.length cap ∧ B.length ≤ cap ∧ cap ≤ maxLen := by
  obtain ⟨ao, b, off, cap, h⟩ := h
  exact ⟨ao, cap, h.eq, h.came.le, h.max⟩
theorem Buf.setCell {w : World} {v : Value} {B : List Nat} (h : Buf w v B) {p : Addr} (hp : v.ownBlock ≠ some p.block) (u : Value) : Buf (w.setCell p u) v B :=
  h.rest (S := fun k => k = p.block) ((Rest.refl (fun k => k = p.block) w).setCell (p := p) (fun _ => rfl) u) (fun k hk e => hp (by rw [hk, e]))

theorem Buf.src {w : World} {v : Value} {B : List Nat} (h : Buf w v B) : SrcAt w v B := by
  obtain ⟨ao, b, off, cap, h⟩ := h
  cases ao with
  | none =>
    have h0 := h.nil rfl
    have := h.came.le
    have hB : B = [] := List.eq_nil_of_length_eq_zero (by omega)
    subst h0; subst hB
    exact .inl ⟨h.eq, rfl⟩
  | some a =>
    refine .inr ⟨a, cap, h.eq, h.lt a rfl, fun j u hu => ?_⟩
    have hj := (List.getElem?_eq_some_iff.1 hu).1
    rw [u8s_length] at hj
    have hc : 0 < cap := Nat.lt_of_lt_of_le (by omega) h.came.le
    have ha := h.came.addr hc
    simp only [Option.some.injEq] at ha
    subst ha
    rw [Addr.add_lit]
    exact h.came.olds j u hu

theorem tape_setCells (b : Nat) : ∀ (vs : List Value) (o : Nat) (w : World), (w.setCells b o vs).tape = w.tape
  | [], _, _ => rfl
  | v :: r, o, w => by rw [World.setCells, tape_setCells b r]; rfl
theorem size_setCells (b : Nat) : ∀ (vs : List Value) (o : Nat) (w : World), (w.setCells b o vs).heap.size = w.heap.size
  | [], _, _ => rfl
  | v :: r, o, w => by rw [World.setCells, size_setCells b r]; simp [World.setCell]

theorem SrcAt.src {w : World} {s : Value} {N : List Nat} (h : SrcAt w s N) : Src Try.prog 1 29 s N.length (u8s N) w := by
  have one : ∀ u ∈ u8s N, u.oneCell' = true := by
    intro u hu
    obtain ⟨c, _, rfl⟩ := List.mem_map.1 hu
    rfl
  rcases h with ⟨rfl, rfl⟩ | ⟨a, c, rfl, _, hc⟩
  · exact Src.ofNil w (e' := 5) (by kernel_rfl) 0
  · exact Src.ofSlice w (e' := 5) (by kernel_rfl) a N.length c (u8s N) (by rw [u8s_length, Nat.mul_one]) hc one

theorem Try.info5 : (Try.prog.info? 5).map (fun i => (i.zero, i.size, i.bytes)) = some (some (.int .u8 0), 1, 1) := by kernel_rfl

/-- A new stretch of a buffer: where it was, or in a new block. -/
def Own2 (w : World) (v v' : Value) : Prop := ∀ k, v'.ownBlock = some k → v.ownBlock = some k ∨ w.heap.size ≤ k

theorem run_append_buf (ty : TypeId) {w : World} {v : Value} {B : List Nat} (h : Buf w v B) {x : Value} {N : List Nat} (hs : SrcAt w x N) (hl : B.length + N.length ≤ 140737488355328) :
    ∃ v' w', (Builtin.append_ #[29, 29] ty #[v, x]).run Try.prog w = .ok v' w' ∧ Buf w' v' (B ++ N) ∧ w.grownBy w' v.ownBlock ∧ Own2 w v v' := by
  obtain ⟨i, hi, hz, hsz, hby⟩ := info_parts Try.info5
  have hsrc := hs.src
  have ht : Try.prog.underlying 29 = some (.slice 5) := by kernel_rfl
  obtain ⟨ao, b, off, cap, h⟩ := h
  have hlen : (u8s (B ++ N)).length = B.length + N.length := by rw [u8s_length]; simp
  rw [← hsz] at hsrc
  by_cases hfit : B.length + N.length ≤ cap
  · rcases Nat.eq_zero_or_pos cap with h0 | hcap
    · subst h0
      have hN : N = [] := List.eq_nil_of_length_eq_zero (by omega)
      subst hN
      refine ⟨v, w, ?_, by rw [List.append_nil]; exact ⟨ao, b, off, 0, h⟩, ⟨rfl, rfl, rfl, Nat.le_refl _, fun _ _ _ => rfl⟩, fun k hk => .inl hk⟩
      rw [h.eq]
      exact run_append_nothing w 29 29 ty 5 i ht hi ao _ 0 (by simpa using hfit) x hsrc
    · have hao := h.came.addr hcap
      have hsp : ∀ j, j < N.length → (w.cell? ⟨b, off + B.length * 1 + j, none⟩).isSome = true ∧ w.frozen? ⟨b, off + B.length * 1 + j, none⟩ = false := fun j hj => h.came.spare j (by omega)
      have hrun := run_append_room_src (P := Try.prog) w 29 29 ty 5 i ht hi b off B.length cap x N.length (u8s N) hsrc hfit (fun j hj => by rw [u8s_length] at hj; rw [hsz]; exact (hsp j hj).1) (fun j hj => by rw [u8s_length] at hj; rw [hsz]; exact (hsp j hj).2)
      rw [hsz] at hrun
      refine ⟨.slice (some ⟨b, off, none⟩) (B.length + N.length) cap, _, by rw [h.eq, hao]; exact hrun, ⟨some ⟨b, off, none⟩, b, off, cap, by simp, ?_, h.max, fun e => by simp at e, fun a ha => ?_⟩, ⟨World.os_setCells _ _ _ _, tape_setCells _ _ _ _, World.output_setCells _ _ _ _, by rw [size_setCells]; exact Nat.le_refl _, fun k hk hne => World.heap_setCells_other w b _ _ hk (fun e => hne (by rw [h.own hcap, e]))⟩, fun k hk => .inl (by rw [h.own hcap]; exact hk)⟩
      · refine ⟨by simpa using hfit, fun _ => rfl, fun _ => by rw [size_setCells]; exact h.came.lt hcap, by rw [u8s_length, Nat.mul_one], fun j u hu => ?_, fun j hj => ?_⟩
        · have hj := (List.getElem?_eq_some_iff.1 hu).1
          rw [hlen] at hj
          by_cases hjo : j < B.length
          · rw [World.cell?_setCells_out b _ _ _ _ (fun _ _ => Or.inl (by show off + j < off + B.length * 1; omega))]
            refine h.came.olds j u ?_
            rw [u8s_append, List.getElem?_append_left (by rw [u8s_length]; exact hjo)] at hu
            exact hu
          · have ht' : j - B.length < (u8s N).length := by rw [u8s_length]; omega
            have := World.cell?_setCells_in b (u8s N) (off + B.length * 1) w (fun j hj => by rw [u8s_length] at hj; exact (hsp j hj).1) (j - B.length) ht'
            rw [show off + B.length * 1 + (j - B.length) = off + j by omega] at this
            rw [this, ← hu, u8s_append, List.getElem?_append_right (by rw [u8s_length]; omega), u8s_length, List.getElem?_eq_getElem ht']
        · have e1 : off + (B ++ N).length * 1 + j = off + B.length * 1 + (N.length + j) := by simp; omega
          have hsp' := h.came.spare (N.length + j) (by simp at hj; omega)
          rw [e1]
          refine ⟨?_, (World.frozen?_setCells b _ _ _ _).trans hsp'.2⟩
          rw [World.cell?_setCells_out b _ _ _ _ (fun _ _ => Or.inr (by show off + B.length * 1 + (u8s N).length ≤ off + B.length * 1 + (N.length + j); rw [u8s_length]; omega))]
          exact hsp'.1
      · simp only [Option.some.injEq] at ha
        subst ha
        rw [size_setCells]
        exact h.came.lt hcap
  · have h63 : B.length + N.length ≤ maxLen := Nat.le_trans hl (by decide)
    have hold : (Builtin.firstCells i.size B.length (.slice ao B.length cap)).run Try.prog w.drew = .ok (u8s B).toArray w.drew := by
      rcases Nat.eq_zero_or_pos cap with h0 | hcap
      · have := h.came.le
        have hB : B = [] := List.eq_nil_of_length_eq_zero (by omega)
        subst hB; subst h0
        cases ao with
        | none => exact run_firstCells_none w.drew i.size 0 0 0
        | some a' => exact run_firstCells_some w.drew i.size 0 a' 0 0 [] (by simp) (by intro _ _ h'; simp at h')
      · rw [h.came.addr hcap]
        refine run_firstCells_some w.drew i.size B.length ⟨b, off, none⟩ B.length cap (u8s B) (by rw [u8s_length, hsz, Nat.mul_one]) (fun j u hu => ?_)
        rw [Addr.add_lit]
        exact h.came.olds j u hu
    have hrun := run_append_grow_src (P := Try.prog) w 29 29 ty 5 i (.int .u8 0) ht hi hz ao B.length cap (u8s B) hold x N.length (u8s N) hsrc (by omega) (by have : maxLen = 9223372036854775807 := rfl; omega) (growslice_fits (by omega) (by rw [hby, Nat.mul_one]; exact hl))
    have hge := grownCap_ge w (B.length + N.length) cap 5
    have hcm := grownCap_le_maxLen w (B.length + N.length) cap 5 h63
    have hblk : ∀ k, k < w.heap.size → (w.drew.alloc (.cells ((u8s B ++ u8s N).toArray ++ Builtin.zeroCells (Value.int IntKind.u8 0).cells (grownCap w (B.length + N.length) cap 5 - (B.length + N.length))) 5)).heap[k]? = w.heap[k]? := fun k hk => Below.heap_alloc w.drew _ k hk
    have hsize : ((u8s B ++ u8s N).toArray ++ Builtin.zeroCells (Value.int IntKind.u8 0).cells (grownCap w (B.length + N.length) cap 5 - (B.length + N.length))).size = grownCap w (B.length + N.length) cap 5 := by
      rw [Array.size_append, List.size_toArray, ← u8s_append, hlen, size_zeroCells]
      show B.length + N.length + _ * 1 = _
      omega
    rw [← h.eq] at hrun
    refine ⟨_, _, hrun, ⟨some ⟨w.heap.size, 0, none⟩, w.heap.size, 0, grownCap w (B.length + N.length) cap 5, by simp, ⟨by simp; omega, fun _ => rfl, fun _ => by simp, by rw [u8s_length, Nat.mul_one], fun j u hu => ?_, fun j hj => ?_⟩, hcm, fun e => by simp at e, fun a ha => ?_⟩, ⟨rfl, rfl, rfl, by simp, fun k hk _ => hblk k hk⟩, fun k hk => .inr ?_⟩
    · have e1 : (w.drew.alloc (.cells ((u8s B ++ u8s N).toArray ++ Builtin.zeroCells (Value.int IntKind.u8 0).cells (grownCap w (B.length + N.length) cap 5 - (B.length + N.length))) 5)).cell? ⟨w.heap.size, 0 + j, none⟩ = _ := World.cell?_alloc_new w.drew _ _ (0 + j)
      have hj := (List.getElem?_eq_some_iff.1 hu).1
      rw [hlen] at hj
      rw [e1, Nat.zero_add, Array.getElem?_append_left (by simp only [List.size_toArray]; rw [← u8s_append, hlen]; exact hj), List.getElem?_toArray, ← u8s_append]
      exact hu
    · have hj' : 0 + (B ++ N).length * 1 + j < grownCap w (B.length + N.length) cap 5 := by simp at hj ⊢; omega
      refine ⟨?_, World.frozen?_alloc_new w.drew _ _ _⟩
      have e1 : (w.drew.alloc (.cells ((u8s B ++ u8s N).toArray ++ Builtin.zeroCells (Value.int IntKind.u8 0).cells (grownCap w (B.length + N.length) cap 5 - (B.length + N.length))) 5)).cell? ⟨w.heap.size, 0 + (B ++ N).length * 1 + j, none⟩ = _ := World.cell?_alloc_new w.drew _ _ _
      rw [e1, Array.getElem?_eq_getElem (by rw [hsize]; exact hj')]
      rfl
    · simp only [Option.some.injEq] at ha
      subst ha
      simp
    · simp [Value.ownBlock] at hk
      omega

/-- At the list of a plain region's operations. -/
theorem wpList_append_buf (w : World) {ops : Array Oper} {rest : List Oper} {o : Oper} {a : Act} {Q : Exit → Act → World → Prop} (hgd : o.guard = none) (s x : Operand)
    (ho : o.op = .call { callee := .builtin .append, args := #[s, x], argTypes := #[29, 29] }) {v : Value} {B : List Nat} (hv : a.eval s = v) (h : Buf w v B) {xv : Value} {N : List Nat} (hx : a.eval x = xv) (hs : SrcAt w xv N) (hl : B.length + N.length ≤ 140737488355328)
    (hK : ∀ v' w', Buf w' v' (B ++ N) → w.grownBy w' v.ownBlock → Own2 w v v' → wpList Try.prog ops Q rest (a.put o.dst v') w') : wpList Try.prog ops Q (o :: rest) a w := by
  refine wpList_plain hgd fun K hK' => ?_
  obtain ⟨v', w', hrun, h1, h2, h3⟩ := run_append_buf o.type h hs hl
  unfold Oper.wp
  simp [execOp, ho, resolve, invoke, builtin, hv, hx, hrun, Result.andThen]
  exact hK' _ _ (hK v' w' h1 h2 h3)
end Go.Proofs.Ytociidinfdbaeaa
