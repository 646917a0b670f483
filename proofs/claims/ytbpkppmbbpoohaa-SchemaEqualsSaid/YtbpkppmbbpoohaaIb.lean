/- Outlines of fields, and fields without what their kinds use. No conditions. -/
import Derived.Test.YtbpkppmbbpoohaaIa
namespace Go.Proofs.Ytbpkppmbbpoohaa
open Go.RowKit Go.Shelf

set_option maxRecDepth 100000 in
set_option maxHeartbeats 3200000 in
theorem outline_any (v0 v9 v10 v11 : ByteArray) (k bi lo hi ba ch ke : Int) (li ls : Bool) (ta ca : Option Addr) (tn tc cn cc : Nat) (w : World) :
    Calls Try.prog 78 #[.agg #[.string v0, .int .i64 k, .int .i64 bi, .bool li, .bool ls, .int .i64 lo, .int .i64 hi, .int .i64 ba, .slice ta tn tc, .string v9, .string v10, .string v11, .slice ca cn cc, .int .i64 ch, .int .i64 ke]] w fun e w' => e = .returned (.agg #[.string v0, .int .i64 k, .bool li, .bool ls, .int .i64 bi, .int .i64 lo, .int .i64 hi, .int .i64 ba, .int .i64 (tn : Int), .int .i64 (cn : Int), .int .i64 ch, .int .i64 ke, .string v9, .string v10, .string v11]) ∧ Below w.heap.size w w' := by
  have hb : ∀ o1 o2, Below w.heap.size w ((w.alloc o1).alloc o2) := fun o1 o2 => ((Below.refl w.heap.size w).alloc (Nat.le_refl _) _).alloc (by simp) _
  go_enter Try.func78, Try.ntmps78
  go_wp2

  refine bodyPost_ret (by simp [results, Try.results78, go_sem]; try rfl) rfl ?_
  exact ⟨rfl, hb _ _⟩

set_option maxRecDepth 100000 in
set_option maxHeartbeats 3200000 in
theorem cleared_1 (d : FieldD) (w : World) (hk : d.kind = 1) :
    Calls Try.prog 130 #[.agg #[.string (strL d.name), .int .i64 d.kind, .int .i64 d.bits, .bool d.little, .bool d.loose, .int .i64 d.low, .int .i64 d.high, .int .i64 d.base, .slice d.ta d.terms.length d.tc, .string (strL d.of_), .string (strL d.tag), .string (strL d.from_), .slice d.ca d.cases.length d.cc, .int .i64 d.check, .int .i64 d.key]] w fun e w' => e = .returned (.agg #[.string (strL d.name), .int .i64 d.kind, .int .i64 0, .bool false, .bool d.loose, .int .i64 0, .int .i64 0, .int .i64 d.base, .slice d.ta d.terms.length d.tc, .string (strL d.of_), .string (strL d.tag), .string (strL d.from_), .slice d.ca d.cases.length d.cc, .int .i64 d.check, .int .i64 d.key]) ∧ Below w.heap.size w w' := by
  have hb : ∀ o1 o2, Below w.heap.size w ((w.alloc o1).alloc o2) := fun o1 o2 => ((Below.refl w.heap.size w).alloc (Nat.le_refl _) _).alloc (by simp) _
  rw [hk]
  clear hk
  go_enter Try.func130, Try.ntmps130
  go_wp2

  refine bodyPost_ret (by simp [results, Try.results130, go_sem]; try rfl) rfl ?_
  exact ⟨rfl, hb _ _⟩

set_option maxRecDepth 100000 in
set_option maxHeartbeats 3200000 in
theorem cleared_4 (d : FieldD) (w : World) (hk : d.kind = 4) :
    Calls Try.prog 130 #[.agg #[.string (strL d.name), .int .i64 d.kind, .int .i64 d.bits, .bool d.little, .bool d.loose, .int .i64 d.low, .int .i64 d.high, .int .i64 d.base, .slice d.ta d.terms.length d.tc, .string (strL d.of_), .string (strL d.tag), .string (strL d.from_), .slice d.ca d.cases.length d.cc, .int .i64 d.check, .int .i64 d.key]] w fun e w' => e = .returned (.agg #[.string (strL d.name), .int .i64 d.kind, .int .i64 d.bits, .bool d.little, .bool d.loose, .int .i64 d.low, .int .i64 d.high, .int .i64 0, .slice none 0 0, .string (strL d.of_), .string (strL d.tag), .string (strL d.from_), .slice d.ca d.cases.length d.cc, .int .i64 d.check, .int .i64 d.key]) ∧ Below w.heap.size w w' := by
  have hb : ∀ o1 o2, Below w.heap.size w ((w.alloc o1).alloc o2) := fun o1 o2 => ((Below.refl w.heap.size w).alloc (Nat.le_refl _) _).alloc (by simp) _
  rw [hk]
  clear hk
  go_enter Try.func130, Try.ntmps130
  go_wp2

  refine bodyPost_ret (by simp [results, Try.results130, go_sem]; try rfl) rfl ?_
  exact ⟨rfl, hb _ _⟩

set_option maxRecDepth 100000 in
set_option maxHeartbeats 3200000 in
theorem cleared_7 (d : FieldD) (w : World) (hk : d.kind = 7) :
    Calls Try.prog 130 #[.agg #[.string (strL d.name), .int .i64 d.kind, .int .i64 d.bits, .bool d.little, .bool d.loose, .int .i64 d.low, .int .i64 d.high, .int .i64 d.base, .slice d.ta d.terms.length d.tc, .string (strL d.of_), .string (strL d.tag), .string (strL d.from_), .slice d.ca d.cases.length d.cc, .int .i64 d.check, .int .i64 d.key]] w fun e w' => e = .returned (.agg #[.string (strL d.name), .int .i64 d.kind, .int .i64 d.bits, .bool d.little, .bool d.loose, .int .i64 d.low, .int .i64 d.high, .int .i64 0, .slice none 0 0, .string ⟨#[]⟩, .string (strL d.tag), .string (strL d.from_), .slice d.ca d.cases.length d.cc, .int .i64 d.check, .int .i64 d.key]) ∧ Below w.heap.size w w' := by
  have hb : ∀ o1 o2, Below w.heap.size w ((w.alloc o1).alloc o2) := fun o1 o2 => ((Below.refl w.heap.size w).alloc (Nat.le_refl _) _).alloc (by simp) _
  rw [hk]
  clear hk
  go_enter Try.func130, Try.ntmps130
  go_wp2

  refine bodyPost_ret (by simp [results, Try.results130, go_sem]; try rfl) rfl ?_
  exact ⟨rfl, hb _ _⟩
end Go.Proofs.Ytbpkppmbbpoohaa
