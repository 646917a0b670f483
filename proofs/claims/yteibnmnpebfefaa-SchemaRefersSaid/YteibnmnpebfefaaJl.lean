/- The law's definition of two fields. No conditions. -/
import Derived.Test.YteibnmnpebfefaaJk
namespace Go.Proofs.Yteibnmnpebfefaa
open Go.RowKit Go.Shelf

theorem alloc4 (w : World) (A B C D : Obj) :
    ((((w.alloc A).alloc B).alloc C).alloc D).heap[w.heap.size]? = some A ∧ ((((w.alloc A).alloc B).alloc C).alloc D).heap[w.heap.size + 1]? = some B ∧
    ((((w.alloc A).alloc B).alloc C).alloc D).heap[w.heap.size + 1 + 1]? = some C ∧ ((((w.alloc A).alloc B).alloc C).alloc D).heap[w.heap.size + 1 + 1 + 1]? = some D ∧
    Below w.heap.size w ((((w.alloc A).alloc B).alloc C).alloc D) ∧ ((((w.alloc A).alloc B).alloc C).alloc D).heap.size = w.heap.size + 4 := by
  have s1 : (w.alloc A).heap.size = w.heap.size + 1 := by simp
  have s2 : ((w.alloc A).alloc B).heap.size = w.heap.size + 1 + 1 := by simp
  have s3 : (((w.alloc A).alloc B).alloc C).heap.size = w.heap.size + 1 + 1 + 1 := by simp
  have hB := World.alloc_heap_new (w.alloc A) B
  have hC := World.alloc_heap_new ((w.alloc A).alloc B) C
  have hD := World.alloc_heap_new (((w.alloc A).alloc B).alloc C) D
  rw [s1] at hB
  rw [s2] at hC
  rw [s3] at hD
  refine ⟨?_, ?_, ?_, hD, (((below_alloc w A).alloc (by omega) _).alloc (by omega) _).alloc (by omega) _, by simp⟩
  · exact (Below.heap_alloc _ D _ (by omega)).trans ((Below.heap_alloc _ C _ (by omega)).trans ((Below.heap_alloc _ B _ (by omega)).trans (World.alloc_heap_new w A)))
  · exact (Below.heap_alloc _ D _ (by omega)).trans ((Below.heap_alloc _ C _ (by omega)).trans hB)
  · exact (Below.heap_alloc _ D _ (by omega)).trans hC

/-- The blocks of the law's definition: the term, the two fields, the message. -/
structure TwoAt (W : World) (tb fb mb : Nat) : Prop where
  tm : W.heap[tb]? = some (.cells #[.string ⟨#[110]⟩, .int .i64 1] 76 (0, 0))
  fd : W.heap[fb]? = some (.cells #[.string ⟨#[110]⟩, .int .i64 1, .int .i64 8, .bool false, .bool false, .int .i64 0, .int .i64 255, .int .i64 0, .slice none 0 0, .string ⟨#[]⟩, .string ⟨#[]⟩, .string ⟨#[]⟩, .slice none 0 0, .int .i64 0, .int .i64 0,
    .string ⟨#[98]⟩, .int .i64 4, .int .i64 0, .bool false, .bool false, .int .i64 0, .int .i64 0, .int .i64 0, .slice (some ⟨tb, 0, none⟩) 1 1, .string ⟨#[]⟩, .string ⟨#[]⟩, .string ⟨#[]⟩, .slice none 0 0, .int .i64 0, .int .i64 0] 28 (0, 0))
  ms : W.heap[mb]? = some (.cells #[.string ⟨#[109]⟩, .slice (some ⟨fb, 0, none⟩) 2 2] 50 (0, 0))
theorem TwoAt.below {W W' : World} {tb fb mb n : Nat} (h : TwoAt W tb fb mb) (hb : Below n W W') (h1 : tb < n) (h2 : fb < n) (h3 : mb < n) : TwoAt W' tb fb mb :=
  ⟨(hb.block tb h1).trans h.tm, (hb.block fb h2).trans h.fd, (hb.block mb h3).trans h.ms⟩

set_option maxRecDepth 100000 in
set_option maxHeartbeats 1600000 in
theorem two_any (w : World) : Calls Try.prog 37 #[] w fun e w' => e = .returned (.agg #[.string ⟨#[100]⟩, .slice (some ⟨w.heap.size + 1 + 1 + 1, 0, none⟩) 1 1, .string ⟨#[109]⟩]) ∧ TwoAt w' (w.heap.size + 1) (w.heap.size + 1 + 1) (w.heap.size + 1 + 1 + 1) ∧ w'.heap.size = w.heap.size + 4 ∧ Below w.heap.size w w' := by
  obtain ⟨b, eb⟩ : ∃ b, w.heap.size = b := ⟨_, rfl⟩
  have H4 := alloc4 w (.cells #[.string ⟨#[100]⟩, .slice (some ⟨b + 1 + 1 + 1, 0, none⟩) 1 1, .string ⟨#[109]⟩] 44) (.cells #[.string ⟨#[110]⟩, .int .i64 1] 76) (.cells #[.string ⟨#[110]⟩, .int .i64 1, .int .i64 8, .bool false, .bool false, .int .i64 0, .int .i64 255, .int .i64 0, .slice none 0 0, .string ⟨#[]⟩, .string ⟨#[]⟩, .string ⟨#[]⟩, .slice none 0 0, .int .i64 0, .int .i64 0,
    .string ⟨#[98]⟩, .int .i64 4, .int .i64 0, .bool false, .bool false, .int .i64 0, .int .i64 0, .int .i64 0, .slice (some ⟨b + 1, 0, none⟩) 1 1, .string ⟨#[]⟩, .string ⟨#[]⟩, .string ⟨#[]⟩, .slice none 0 0, .int .i64 0, .int .i64 0] 28) (.cells #[.string ⟨#[109]⟩, .slice (some ⟨b + 1 + 1, 0, none⟩) 2 2] 50)
  have H4 := Lib.hid H4
  have EB := Lib.hid eb
  clear eb
  go_enter Try.func37, Try.ntmps37
  go_wp2_with fail
  obtain ⟨hA, hB, hC, hD, hbl, hsz⟩ := H4.out
  rw [EB.out] at hA hB hC hD hbl hsz ⊢
  generalize (((w.alloc _).alloc _).alloc _).alloc _ = w4 at hA hB hC hD hbl hsz ⊢
  have c0 : w4.cell? ⟨b, 0, none⟩ = some (.string ⟨#[100]⟩) := by simp [World.cell?, hA]
  have c1 : w4.cell? ⟨b, 1, none⟩ = some (.slice (some ⟨b + 1 + 1 + 1, 0, none⟩) 1 1) := by simp [World.cell?, hA]
  have c2 : w4.cell? ⟨b, 2, none⟩ = some (.string ⟨#[109]⟩) := by simp [World.cell?, hA]
  refine bodyPost_ret (by simp [results, Try.results37, go_sem, c0, c1, c2]; try rfl) rfl ?_
  exact ⟨rfl, ⟨hB, hC, hD⟩, hsz, hbl⟩
end Go.Proofs.Yteibnmnpebfefaa
