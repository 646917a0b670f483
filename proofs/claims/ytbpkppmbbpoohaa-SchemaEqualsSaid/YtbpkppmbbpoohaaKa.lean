/- The law's definitions in known: their blocks, and what the calls on them answer. No conditions. -/
import Derived.Test.YtbpkppmbbpoohaaJq
import Derived.Deep.RegionHeld3
import Derived.Deep.CutRange
namespace Go.Proofs.Ytbpkppmbbpoohaa
open Go.RowKit Go.Shelf

/-- The blocks of a new definition. -/
structure Two (n : Nat) (W : World) (tb fb mb : Nat) : Prop where
  ge : n ≤ tb
  h1 : tb < fb
  h2 : fb < mb
  lt : mb < W.heap.size
  at_ : TwoAt W tb fb mb
theorem Two.below {n : Nat} {W W' : World} {tb fb mb : Nat} (h : Two n W tb fb mb) (hb : Below W.heap.size W W') : Two n W' tb fb mb := by
  have h1 := h.h1
  have h2 := h.h2
  have h3 := h.lt
  exact ⟨h.ge, h1, h2, Nat.lt_of_lt_of_le h3 hb.size, h.at_.below hb (by omega) (by omega) h3⟩
theorem two_some (w : World) : Calls Try.prog 37 #[] w fun e w' => ∃ tb fb mb, e = .returned (.agg #[.string ⟨#[100]⟩, .slice (some ⟨mb, 0, none⟩) 1 1, .string ⟨#[109]⟩]) ∧ Two w.heap.size w' tb fb mb ∧ Below w.heap.size w w' :=
  (two_any w).mono (fun e w' ⟨h1, h2, h3, h4⟩ => ⟨_, _, _, h1, ⟨by omega, by omega, by omega, by omega, h2⟩, h4⟩)


theorem flawed_at (nm st : List UInt8) (A : Option Addr) (n c : Nat) (fm ff fc : Int) (E : Nats) (w : World)
    (he : ∀ wx, Below w.heap.size w wx → Calls Try.prog 59 #[.agg #[.string (strL nm), .slice A n c, .string (strL st)]] wx (ExPost (some (fm, ff, fc)) E wx)) :
    Calls Try.prog 38 #[.agg #[.string (strL nm), .slice A n c, .string (strL st)], .int .i64 fm, .int .i64 ff, .int .i64 fc] w fun e w' => e = .returned (.bool true) ∧ Below w.heap.size w w' :=
  flawed_of nm st A n c fm ff fc w (fun wx hb => check_of nm st A n c (some (fm, ff, fc)) E wx (fun wy hy => he wy (hb.trans (hy.mono hb.size))))

/-- A definition's box with its blocks. -/
structure DAt (W : World) (b tb fb mb : Nat) (hi bi ba : Int) (fnm st : List UInt8) : Prop where
  bx : W.heap[b]? = some (.cells #[.string ⟨#[100]⟩, .slice (some ⟨mb, 0, none⟩) 1 1, .string (strL st)] 44 (0, 0))
  var : VarAt W tb fb mb hi bi ba fnm
theorem VarAt.rest {S : Nat → Prop} {W W' : World} {tb fb mb : Nat} {hi bi ba : Int} {fnm : List UInt8} (h : VarAt W tb fb mb hi bi ba fnm) (hr : Rest S W W') (h1 : ¬ S tb) (h2 : ¬ S fb) (h3 : ¬ S mb) : VarAt W' tb fb mb hi bi ba fnm :=
  ⟨(hr.block tb (Array.getElem?_eq_some_iff.1 h.tm).1 h1).trans h.tm, (hr.block fb (Array.getElem?_eq_some_iff.1 h.fd).1 h2).trans h.fd, (hr.block mb (Array.getElem?_eq_some_iff.1 h.ms).1 h3).trans h.ms⟩
section
variable {W W' : World} {b tb fb mb : Nat} {hi bi ba : Int} {fnm st : List UInt8}
theorem DAt.rest {S : Nat → Prop} (h : DAt W b tb fb mb hi bi ba fnm st) (hr : Rest S W W') (h0 : ¬ S b) (h1 : ¬ S tb) (h2 : ¬ S fb) (h3 : ¬ S mb) : DAt W' b tb fb mb hi bi ba fnm st :=
  ⟨(hr.block b (Array.getElem?_eq_some_iff.1 h.bx).1 h0).trans h.bx, h.var.rest hr h1 h2 h3⟩
theorem DAt.below (h : DAt W b tb fb mb hi bi ba fnm st) (hb : Below W.heap.size W W') : DAt W' b tb fb mb hi bi ba fnm st :=
  ⟨(hb.block b (Array.getElem?_eq_some_iff.1 h.bx).1).trans h.bx, h.var.below hb⟩
theorem DAt.c0 (h : DAt W b tb fb mb hi bi ba fnm st) : W.cell? ⟨b, 0, none⟩ = some (.string ⟨#[100]⟩) := by simp [World.cell?, h.bx]
theorem DAt.c1 (h : DAt W b tb fb mb hi bi ba fnm st) : W.cell? ⟨b, 1, none⟩ = some (.slice (some ⟨mb, 0, none⟩) 1 1) := by simp [World.cell?, h.bx]
theorem DAt.c2 (h : DAt W b tb fb mb hi bi ba fnm st) : W.cell? ⟨b, 2, none⟩ = some (.string (strL st)) := by simp [World.cell?, h.bx]
theorem DAt.fr (h : DAt W b tb fb mb hi bi ba fnm st) (o : Nat) : W.frozen? ⟨b, o, none⟩ = false := by simp [World.frozen?, h.bx]
theorem VarAt.m1 (h : VarAt W tb fb mb hi bi ba fnm) : W.cell? ⟨mb, 1, none⟩ = some (.slice (some ⟨fb, 0, none⟩) 2 2) := by simp [World.cell?, h.ms]
theorem VarAt.m0 (h : VarAt W tb fb mb hi bi ba fnm) : W.cell? ⟨mb, 0, none⟩ = some (.string ⟨#[109]⟩) := by simp [World.cell?, h.ms]
theorem VarAt.ffr (h : VarAt W tb fb mb hi bi ba fnm) (o : Nat) : W.frozen? ⟨fb, o, none⟩ = false := by simp [World.frozen?, h.fd]
theorem VarAt.mfr (h : VarAt W tb fb mb hi bi ba fnm) (o : Nat) : W.frozen? ⟨mb, o, none⟩ = false := by simp [World.frozen?, h.ms]
theorem VarAt.f6 (h : VarAt W tb fb mb hi bi ba fnm) : W.cell? ⟨fb, 6, none⟩ = some (.int .i64 hi) := by simp [World.cell?, h.fd, dN, dB, FieldD.cells]
theorem VarAt.f22 (h : VarAt W tb fb mb hi bi ba fnm) : W.cell? ⟨fb, 22, none⟩ = some (.int .i64 ba) := by simp [World.cell?, h.fd, dN, dB, FieldD.cells]
theorem VarAt.f15 (h : VarAt W tb fb mb hi bi ba fnm) : W.cell? ⟨fb, 15, none⟩ = some (.string (strL fnm)) := by simp [World.cell?, h.fd, dN, dB, FieldD.cells]
theorem VarAt.f17 (h : VarAt W tb fb mb hi bi ba fnm) : W.cell? ⟨fb, 17, none⟩ = some (.int .i64 bi) := by simp [World.cell?, h.fd, dN, dB, FieldD.cells]
theorem DAt.setSt (h : DAt W b tb fb mb hi bi ba fnm st) (s : List UInt8) (h1 : tb ≠ b) (h2 : fb ≠ b) (h3 : mb ≠ b) : DAt (W.setCell ⟨b, 2, none⟩ (.string (strL s))) b tb fb mb hi bi ba fnm s :=
  ⟨heap_setCell_same W b 2 _ 44 (.string (strL s)) h.bx, h.var.rest ((Rest.refl (fun k => k = b) W).setCell (S := fun k => k = b) (p := ⟨b, 2, none⟩) (fun _ => rfl) _) h1 h2 h3⟩
theorem DAt.setF (h : DAt W b tb fb mb hi bi ba fnm st) (j : Nat) (v : Value) (hi' bi' ba' : Int) (fnm' : List UInt8) (h0 : b ≠ fb) (h1 : tb ≠ fb) (h3 : mb ≠ fb)
    (e : (((dN hi).cells ++ (dB tb fnm bi ba).cells).toArray.setIfInBounds j v) = ((dN hi').cells ++ (dB tb fnm' bi' ba').cells).toArray) : DAt (W.setCell ⟨fb, j, none⟩ v) b tb fb mb hi' bi' ba' fnm' st := by
  have hr : Rest (fun k => k = fb) W (W.setCell ⟨fb, j, none⟩ v) := (Rest.refl (fun k => k = fb) W).setCell (S := fun k => k = fb) (p := ⟨fb, j, none⟩) (fun _ => rfl) _
  have hs := heap_setCell_same W fb j _ 28 v h.var.fd
  rw [e] at hs
  exact ⟨(hr.block b (Array.getElem?_eq_some_iff.1 h.bx).1 h0).trans h.bx, (hr.block tb (Array.getElem?_eq_some_iff.1 h.var.tm).1 h1).trans h.var.tm, hs, (hr.block mb (Array.getElem?_eq_some_iff.1 h.var.ms).1 h3).trans h.var.ms⟩
theorem rest_set (W : World) (k j : Nat) (v : Value) : Rest (fun i => i = k) W (W.setCell ⟨k, j, none⟩ v) := (Rest.refl (fun i => i = k) W).setCell (S := fun i => i = k) (p := ⟨k, j, none⟩) (fun _ => rfl) _
end
theorem alloc6 (w : World) (A B C D E F : Obj) :
    ∃ w', ((((((w.alloc A).alloc B).alloc C).alloc D).alloc E).alloc F) = w' ∧ w'.heap[w.heap.size]? = some A ∧ w'.heap[w.heap.size + 1]? = some B ∧ w'.heap[w.heap.size + 1 + 1]? = some C ∧
    w'.heap[w.heap.size + 1 + 1 + 1]? = some D ∧ w'.heap[w.heap.size + 1 + 1 + 1 + 1]? = some E ∧ w'.heap[w.heap.size + 1 + 1 + 1 + 1 + 1]? = some F ∧ Below w.heap.size w w' ∧ w'.heap.size = w.heap.size + 6 := by
  refine ⟨_, rfl, ?_⟩
  obtain ⟨hA, hB, hC, hD, hb, hs⟩ := alloc4 w A B C D
  generalize ((((w.alloc A).alloc B).alloc C).alloc D) = w4 at hA hB hC hD hb hs ⊢
  have hE := World.alloc_heap_new w4 E
  have s5 : (w4.alloc E).heap.size = w.heap.size + 1 + 1 + 1 + 1 + 1 := by simp; omega
  have hF := World.alloc_heap_new (w4.alloc E) F
  rw [s5] at hF
  have k : ∀ i, i < w4.heap.size → ((w4.alloc E).alloc F).heap[i]? = w4.heap[i]? := fun i hi => (Below.heap_alloc _ F _ (by omega)).trans (Below.heap_alloc _ E _ hi)
  refine ⟨(k _ (by omega)).trans hA, (k _ (by omega)).trans hB, (k _ (by omega)).trans hC, (k _ (by omega)).trans hD, ?_, hF, (hb.alloc (by omega) _).alloc (by omega) _, by simp; omega⟩
  rw [show w.heap.size + 1 + 1 + 1 + 1 = w4.heap.size by omega]
  exact (Below.heap_alloc _ F _ (by simp)).trans hE

theorem natIn_two0 (tb : Nat) (A : Option Addr) (c : Nat) : natInR none (defE [⟨[109], A, c, [dN 255, dB tb [98] 0 0]⟩]) [⟨[109], A, c, [dN 255, dB tb [98] 0 0]⟩] 0 = ((1, true), 0) := by
  simp [natInR, inB, defE, stepN, natS_two, setN, getN]
theorem natIn_two1 (tb : Nat) (A : Option Addr) (c : Nat) : natInR none (defE [⟨[109], A, c, [dN 255, dB tb [98] 0 0]⟩]) [⟨[109], A, c, [dN 255, dB tb [98] 0 0]⟩] 1 = ((0, false), 3) := by
  simp [natInR, inB]
theorem depth_two (mi zd ze : Int) (zs : Bool) {tb fb mb : Nat} {w : World} (h : VarAt w tb fb mb 255 0 0 [98])
    (hz : natInR none (defE [⟨[109], some ⟨fb, 0, none⟩, 2, [dN 255, dB tb [98] 0 0]⟩]) [⟨[109], some ⟨fb, 0, none⟩, 2, [dN 255, dB tb [98] 0 0]⟩] mi = ((zd, zs), ze)) :
    Calls Try.prog 27 #[.agg #[.string (strL [100]), .slice (some ⟨mb, 0, none⟩) 1 1, .string (strL [109])], .int .i64 mi] w fun e w' => e = .returned (.tuple #[.int .i64 zd, .int .i64 ze]) ∧ Below w.heap.size w w' :=
  depth_of [100] [109] (some ⟨mb, 0, none⟩) 1 1 mi zd ze zs w (fun wx hb => by
    have hv := h.below hb
    have := naturein_of [100] [109] (some ⟨mb, 0, none⟩) 1 [⟨[109], some ⟨fb, 0, none⟩, 2, [dN 255, dB tb [98] 0 0]⟩] (fun _ => False) mi none (defE [⟨[109], some ⟨fb, 0, none⟩, 2, [dN 255, dB tb [98] 0 0]⟩]) wx (slAt_msg rfl _ (fun e => e.elim) hv.ms) (fun _ => Nat.le_refl _) (fun wy hy => by
      have := examine_var [109] (hv.below hy) valid_ba0 (fun _ => allow_255) (spB_ok tb [98] 0) fieldN_ok (fieldB_ok tb)
      rwa [two_none] at this)
    rw [hz] at this
    exact this)
theorem ranges_two {tb fb mb : Nat} {w : World} (h : VarAt w tb fb mb 255 0 0 [98]) :
    Calls Try.prog 23 #[.agg #[.string (strL [109]), .slice (some ⟨fb, 0, none⟩) 2 2]] w fun e w' => ∃ r, e = .returned (.map (some r)) ∧ w.heap.size ≤ r ∧ MapAt w' r [([110], .agg #[.int .i64 0, .int .i64 255])] ∧ Below w.heap.size w w' :=
  ranges_any [109] (some ⟨fb, 0, none⟩) 2 [dN 255, dB tb [98] 0 0] (fun _ => False) w (slAt_two _ (fun e => e.elim) h.fd)

/-- The fields with the third one, behind their growth. -/
theorem slAt_three {W : World} {base g cap tb : Nat} (S : Nat → Prop) (hS : ¬ S g) (h : W.ownsRow base 28 15 (.slice (some ⟨g, 0, none⟩) 3 cap) 3 (((dN 255).cells ++ (dB tb [98] 0 0).cells) ++ dL.cells)) : SlAt FieldD.cells 15 S W (some ⟨g, 0, none⟩) cap (threeD tb) := by
  refine slAt_row (base := base) (n := 3) (t := 28) (by simpa [threeD] using h) rfl (fun i d hd j hj => ?_) (fun _ => rfl) (fun k hk => by simp at hk; subst hk; exact hS)
  match i, hd with
  | 0, hd =>
    simp only [threeD, List.getElem?_cons_zero, Option.some.injEq] at hd
    subst hd
    simp only [threeD, List.flatMap_cons]
    rw [show 0 * 15 + j = j by omega, List.getElem?_append_left hj]
  | 1, hd =>
    simp only [threeD, List.getElem?_cons_succ, List.getElem?_cons_zero, Option.some.injEq] at hd
    subst hd
    simp only [threeD, List.flatMap_cons]
    rw [List.getElem?_append_right (by show 15 ≤ _; omega), show 1 * 15 + j - (dN 255).cells.length = j by show 1 * 15 + j - 15 = j; omega, List.getElem?_append_left hj]
  | 2, hd =>
    simp only [threeD, List.getElem?_cons_succ, List.getElem?_cons_zero, Option.some.injEq] at hd
    subst hd
    simp only [threeD, List.flatMap_cons]
    rw [List.getElem?_append_right (by show 15 ≤ _; omega), show 2 * 15 + j - (dN 255).cells.length = 15 + j by show 2 * 15 + j - 15 = 15 + j; omega, List.getElem?_append_right (by show 15 ≤ _; omega), show 15 + j - (dB tb [98] 0 0).cells.length = j by show 15 + j - 15 = j; omega, List.getElem?_append_left hj]
  | i + 3, hd => simp [threeD] at hd
theorem Try.infoField : (Try.prog.info? 28).map (fun i => (i.zero, i.size, i.bytes)) = some (some (.agg #[.string ⟨#[]⟩, .int .i64 0, .int .i64 0, .bool false, .bool false, .int .i64 0, .int .i64 0, .int .i64 0, .slice none 0 0, .string ⟨#[]⟩, .string ⟨#[]⟩, .string ⟨#[]⟩, .slice none 0 0, .int .i64 0, .int .i64 0]), 15, 176) := by kernel_rfl
end Go.Proofs.Ytbpkppmbbpoohaa
