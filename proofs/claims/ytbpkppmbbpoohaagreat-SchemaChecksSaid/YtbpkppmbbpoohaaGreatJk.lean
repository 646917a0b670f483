/- Depth, and the law's test for a flaw. Conditions: the contracts of natureIn and of Check. The law's definition of two fields. No conditions. The two fields of the law's definition in an examination. Conditions: the examination and what lies before lie in memory. -/
import Derived.Test.YtbpkppmbbpoohaaGreatFb
import Derived.Test.YtbpkppmbbpoohaaGreatJb
namespace Go.Proofs.YtbpkppmbbpoohaaGreat
open Go.RowKit Go.Shelf

set_option maxRecDepth 100000 in
set_option maxHeartbeats 1600000 in
theorem depth_of (nm st : List UInt8) (A : Option Addr) (n c : Nat) (mi zd ze : Int) (zs : Bool) (w : World)
    (he : ∀ wx, Below w.heap.size w wx → Calls Tryz.prog 76 #[.agg #[.string (strL nm), .slice A n c, .string (strL st)], .int .i64 mi] wx fun e w' => e = .returned (.tuple #[natV (zd, zs), .int .i64 ze]) ∧ Below wx.heap.size wx w') :
    Calls Tryz.prog 39 #[.agg #[.string (strL nm), .slice A n c, .string (strL st)], .int .i64 mi] w fun e w' => e = .returned (.tuple #[.int .i64 zd, .int .i64 ze]) ∧ Below w.heap.size w w' := by
  have hal := below_alloc w (.cells #[.string (strL nm), .slice A n c, .string (strL st)] 24)
  have hxd : (w.alloc (.cells #[.string (strL nm), .slice A n c, .string (strL st)] 24)).heap[w.heap.size]? = some (.cells #[.string (strL nm), .slice A n c, .string (strL st)] 24 (0, 0)) := heap_alloc_new w _
  obtain ⟨b, eb⟩ : ∃ b, w.heap.size = b := ⟨_, rfl⟩
  obtain ⟨w1, hw1⟩ : ∃ w1, w.alloc (.cells #[.string (strL nm), .slice A n c, .string (strL st)] 24) = w1 := ⟨_, rfl⟩
  rw [hw1] at hal hxd
  rw [eb] at hxd
  have HN := he w1 hal
  unfold natV at HN
  have HN := Lib.hid HN
  have d0 : w1.cell? ⟨b, 0, none⟩ = some (.string (strL nm)) := by simp [World.cell?, hxd]
  have d1 : w1.cell? ⟨b, 1, none⟩ = some (.slice A n c) := by simp [World.cell?, hxd]
  have d2 : w1.cell? ⟨b, 2, none⟩ = some (.string (strL st)) := by simp [World.cell?, hxd]
  have HW := Lib.hid hw1
  have EB := Lib.hid eb
  have HAL := Lib.hid hal
  clear he hal hxd eb hw1
  go_enter Tryz.func39, Tryz.ntmps39
  go_upto_region 1 with fail
  rw [HW.out, EB.out]
  go_wp2_with fail
  refine HN.out.mono ?_
  rintro e w2 ⟨rfl, hb2⟩
  have hb3 := hb2.trans ((below_alloc w2 (.cells #[.int .i64 zd, .bool zs] 123)).mono hb2.size)
  have hn3 := NBox.new w2 zd zs
  obtain ⟨tb, etb⟩ : ∃ tb, w2.heap.size = tb := ⟨_, rfl⟩
  obtain ⟨w3, hw3⟩ : ∃ w3, w2.alloc (.cells #[.int .i64 zd, .bool zs] 123) = w3 := ⟨_, rfl⟩
  rw [hw3] at hb3 hn3
  rw [etb] at hn3
  have q0 := hn3.c0
  have HB := Lib.hid (HAL.out.trans (hb3.mono HAL.out.size))
  have W3 := Lib.hid hw3
  have ETB := Lib.hid etb
  clear hb2 hb3 hn3 etb hw3
  go_upto_region 2 with fail
  rw [W3.out, ETB.out]
  go_wp2_with fail
  go_ret2
  exact ⟨rfl, HB.out⟩

set_option maxRecDepth 100000 in
set_option maxHeartbeats 1600000 in
theorem flawed_of (nm st : List UInt8) (A : Option Addr) (n c : Nat) (fm ff fc : Int) (w : World)
    (he : ∀ wx, Below w.heap.size w wx → Calls Tryz.prog 13 #[.agg #[.string (strL nm), .slice A n c, .string (strL st)]] wx fun e w' => e = .returned (.tuple #[.agg #[.int .i64 fm, .int .i64 ff, .int .i64 fc], .bool true]) ∧ Below wx.heap.size wx w') :
    Calls Tryz.prog 38 #[.agg #[.string (strL nm), .slice A n c, .string (strL st)], .int .i64 fm, .int .i64 ff, .int .i64 fc] w fun e w' => e = .returned (.bool true) ∧ Below w.heap.size w w' := by
  have hal := below_alloc w (.cells #[.string (strL nm), .slice A n c, .string (strL st)] 24)
  have hxd : (w.alloc (.cells #[.string (strL nm), .slice A n c, .string (strL st)] 24)).heap[w.heap.size]? = some (.cells #[.string (strL nm), .slice A n c, .string (strL st)] 24 (0, 0)) := heap_alloc_new w _
  obtain ⟨b, eb⟩ : ∃ b, w.heap.size = b := ⟨_, rfl⟩
  obtain ⟨w1, hw1⟩ : ∃ w1, w.alloc (.cells #[.string (strL nm), .slice A n c, .string (strL st)] 24) = w1 := ⟨_, rfl⟩
  rw [hw1] at hal hxd
  rw [eb] at hxd
  have HN := Lib.hid (he w1 hal)
  have d0 : w1.cell? ⟨b, 0, none⟩ = some (.string (strL nm)) := by simp [World.cell?, hxd]
  have d1 : w1.cell? ⟨b, 1, none⟩ = some (.slice A n c) := by simp [World.cell?, hxd]
  have d2 : w1.cell? ⟨b, 2, none⟩ = some (.string (strL st)) := by simp [World.cell?, hxd]
  have HW := Lib.hid hw1
  have EB := Lib.hid eb
  have HAL := Lib.hid hal
  have hcmp : ∀ w, (binOp .eql 30 (.agg #[.int .i64 fm, .int .i64 ff, .int .i64 fc]) (.agg #[.int .i64 fm, .int .i64 ff, .int .i64 fc])).run Tryz.prog w = .ok (.bool true) w := fun w => by
    simp [go_sem]
  clear he hal hxd eb hw1
  go_enter Tryz.func38, Tryz.ntmps38
  go_upto_region 1 with fail
  rw [HW.out, EB.out]
  go_wp2_with fail
  refine HN.out.mono ?_
  rintro e w2 ⟨rfl, hb2⟩
  have hb3 := hb2.trans ((below_alloc w2 (.cells #[.int .i64 fm, .int .i64 ff, .int .i64 fc] 30)).mono hb2.size)
  have hn3 : (w2.alloc (.cells #[.int .i64 fm, .int .i64 ff, .int .i64 fc] 30)).heap[w2.heap.size]? = some (.cells #[.int .i64 fm, .int .i64 ff, .int .i64 fc] 30 (0, 0)) := heap_alloc_new w2 _
  obtain ⟨tb, etb⟩ : ∃ tb, w2.heap.size = tb := ⟨_, rfl⟩
  obtain ⟨w3, hw3⟩ : ∃ w3, w2.alloc (.cells #[.int .i64 fm, .int .i64 ff, .int .i64 fc] 30) = w3 := ⟨_, rfl⟩
  rw [hw3] at hb3 hn3
  rw [etb] at hn3
  have q0 : w3.cell? ⟨tb, 0, none⟩ = some (.int .i64 fm) := by simp [World.cell?, hn3]
  have q1 : w3.cell? ⟨tb, 1, none⟩ = some (.int .i64 ff) := by simp [World.cell?, hn3]
  have q2 : w3.cell? ⟨tb, 2, none⟩ = some (.int .i64 fc) := by simp [World.cell?, hn3]
  have HB := Lib.hid (HAL.out.trans (hb3.mono HAL.out.size))
  have W3 := Lib.hid hw3
  have ETB := Lib.hid etb
  clear hb2 hb3 hn3 etb hw3
  go_upto_region 2 with fail
  rw [W3.out, ETB.out]
  go_wp2_with fail
  go_ret
  exact ⟨rfl, HB.out⟩
end Go.Proofs.YtbpkppmbbpoohaaGreat

namespace Go.Proofs.YtbpkppmbbpoohaaGreat
open Go.RowKit Go.Shelf

theorem alloc4 (w : World) (A B C D : Obj) :
    ((((w.alloc A).alloc B).alloc C).alloc D).heap[w.heap.size]? = some A ∧ ((((w.alloc A).alloc B).alloc C).alloc D).heap[w.heap.size + 1]? = some B ∧
    ((((w.alloc A).alloc B).alloc C).alloc D).heap[w.heap.size + 1 + 1]? = some C ∧ ((((w.alloc A).alloc B).alloc C).alloc D).heap[w.heap.size + 1 + 1 + 1]? = some D ∧
    Below w.heap.size w ((((w.alloc A).alloc B).alloc C).alloc D) ∧ ((((w.alloc A).alloc B).alloc C).alloc D).heap.size = w.heap.size + 4 := by
  have s1 : (w.alloc A).heap.size = w.heap.size + 1 := by simp
  have s2 : ((w.alloc A).alloc B).heap.size = w.heap.size + 1 + 1 := by simp
  have s3 : (((w.alloc A).alloc B).alloc C).heap.size = w.heap.size + 1 + 1 + 1 := by simp
  have hB := World.alloc_heap_new (w.alloc A) B
  have hC := World.alloc_heap_new ((w.alloc A).alloc B) C
  have hD := World.alloc_heap_new (((w.alloc A).alloc B).alloc C) D
  rw [s1] at hB
  rw [s2] at hC
  rw [s3] at hD
  refine ⟨?_, ?_, ?_, hD, (((below_alloc w A).alloc (by omega) _).alloc (by omega) _).alloc (by omega) _, by simp⟩
  · exact (Below.heap_alloc _ D _ (by omega)).trans ((Below.heap_alloc _ C _ (by omega)).trans ((Below.heap_alloc _ B _ (by omega)).trans (World.alloc_heap_new w A)))
  · exact (Below.heap_alloc _ D _ (by omega)).trans ((Below.heap_alloc _ C _ (by omega)).trans hB)
  · exact (Below.heap_alloc _ D _ (by omega)).trans hC

/-- The blocks of the law's definition: the term, the two fields, the message. -/
structure TwoAt (W : World) (tb fb mb : Nat) : Prop where
  tm : W.heap[tb]? = some (.cells #[.string ⟨#[110]⟩, .int .i64 1] 67 (0, 0))
  fd : W.heap[fb]? = some (.cells #[.string ⟨#[110]⟩, .int .i64 1, .int .i64 8, .bool false, .bool false, .int .i64 0, .int .i64 255, .int .i64 0, .slice none 0 0, .string ⟨#[]⟩, .string ⟨#[]⟩, .string ⟨#[]⟩, .slice none 0 0, .int .i64 0, .int .i64 0,
    .string ⟨#[98]⟩, .int .i64 4, .int .i64 0, .bool false, .bool false, .int .i64 0, .int .i64 0, .int .i64 0, .slice (some ⟨tb, 0, none⟩) 1 1, .string ⟨#[]⟩, .string ⟨#[]⟩, .string ⟨#[]⟩, .slice none 0 0, .int .i64 0, .int .i64 0] 55 (0, 0))
  ms : W.heap[mb]? = some (.cells #[.string ⟨#[109]⟩, .slice (some ⟨fb, 0, none⟩) 2 2] 36 (0, 0))
theorem TwoAt.below {W W' : World} {tb fb mb n : Nat} (h : TwoAt W tb fb mb) (hb : Below n W W') (h1 : tb < n) (h2 : fb < n) (h3 : mb < n) : TwoAt W' tb fb mb :=
  ⟨(hb.block tb h1).trans h.tm, (hb.block fb h2).trans h.fd, (hb.block mb h3).trans h.ms⟩

set_option maxRecDepth 100000 in
set_option maxHeartbeats 1600000 in
theorem two_any (w : World) : Calls Tryz.prog 37 #[] w fun e w' => e = .returned (.agg #[.string ⟨#[100]⟩, .slice (some ⟨w.heap.size + 1 + 1 + 1, 0, none⟩) 1 1, .string ⟨#[109]⟩]) ∧ TwoAt w' (w.heap.size + 1) (w.heap.size + 1 + 1) (w.heap.size + 1 + 1 + 1) ∧ w'.heap.size = w.heap.size + 4 ∧ Below w.heap.size w w' := by
  obtain ⟨b, eb⟩ : ∃ b, w.heap.size = b := ⟨_, rfl⟩
  have H4 := alloc4 w (.cells #[.string ⟨#[100]⟩, .slice (some ⟨b + 1 + 1 + 1, 0, none⟩) 1 1, .string ⟨#[109]⟩] 24) (.cells #[.string ⟨#[110]⟩, .int .i64 1] 67) (.cells #[.string ⟨#[110]⟩, .int .i64 1, .int .i64 8, .bool false, .bool false, .int .i64 0, .int .i64 255, .int .i64 0, .slice none 0 0, .string ⟨#[]⟩, .string ⟨#[]⟩, .string ⟨#[]⟩, .slice none 0 0, .int .i64 0, .int .i64 0,
    .string ⟨#[98]⟩, .int .i64 4, .int .i64 0, .bool false, .bool false, .int .i64 0, .int .i64 0, .int .i64 0, .slice (some ⟨b + 1, 0, none⟩) 1 1, .string ⟨#[]⟩, .string ⟨#[]⟩, .string ⟨#[]⟩, .slice none 0 0, .int .i64 0, .int .i64 0] 55) (.cells #[.string ⟨#[109]⟩, .slice (some ⟨b + 1 + 1, 0, none⟩) 2 2] 36)
  have H4 := Lib.hid H4
  have EB := Lib.hid eb
  clear eb
  go_enter Tryz.func37, Tryz.ntmps37
  go_wp2_with fail
  obtain ⟨hA, hB, hC, hD, hbl, hsz⟩ := H4.out
  rw [EB.out] at hA hB hC hD hbl hsz ⊢
  generalize (((w.alloc _).alloc _).alloc _).alloc _ = w4 at hA hB hC hD hbl hsz ⊢
  have c0 : w4.cell? ⟨b, 0, none⟩ = some (.string ⟨#[100]⟩) := by simp [World.cell?, hA]
  have c1 : w4.cell? ⟨b, 1, none⟩ = some (.slice (some ⟨b + 1 + 1 + 1, 0, none⟩) 1 1) := by simp [World.cell?, hA]
  have c2 : w4.cell? ⟨b, 2, none⟩ = some (.string ⟨#[109]⟩) := by simp [World.cell?, hA]
  refine bodyPost_ret (by simp [results, Tryz.results37, go_sem, c0, c1, c2]; try rfl) rfl ?_
  exact ⟨rfl, ⟨hB, hC, hD⟩, hsz, hbl⟩
end Go.Proofs.YtbpkppmbbpoohaaGreat

namespace Go.Proofs.YtbpkppmbbpoohaaGreat
open Go.RowKit Go.Shelf

def dN (hi : Int) : FieldD := { name := [110], kind := 1, bits := 8, little := false, loose := false, low := 0, high := hi, base := 0, ta := none, tc := 0, terms := [], of_ := [], tag := [], from_ := [], ca := none, cc := 0, cases := [], check := 0, key := 0 }
def dB (tb : Nat) (nm : List UInt8) (bi ba : Int) : FieldD := { name := nm, kind := 4, bits := bi, little := false, loose := false, low := 0, high := 0, base := ba, ta := some ⟨tb, 0, none⟩, tc := 1, terms := [⟨[110], 1⟩], of_ := [], tag := [], from_ := [], ca := none, cc := 0, cases := [], check := 0, key := 0 }
theorem Tryz.entUns : ∀ args w, (callFunc 103 args).run Tryz.prog w = .ok (.enter 103 args) w := enters_of Tryz.func103 (by kernel_rfl) rfl
theorem Tryz.entSize : ∀ args w, (callFunc 106 args).run Tryz.prog w = .ok (.enter 106 args) w := enters_of Tryz.func106 (by kernel_rfl) rfl

theorem fieldN (hi : Int) (x kr kk c : Nat) (m f : Int) (A : Option Addr) (S : Nat → Prop) (w : World) (hx : ExAt w x m f kr A 0 c kk) (hB : SlAt FieldD.cells 15 S w A c []) (hk : MapI w kk (condE (.pointer (some ⟨x, 0, none⟩)))) :
    Calls Tryz.prog 146 #[.pointer (some ⟨x, 0, none⟩), (dN hi).agg] w fun e w' => e = doE (fieldR [] (dN hi) false (unsR (dN hi))) m f ∧ Below w.heap.size w w' :=
  field_any x kr kk c m f A [] (dN hi) S w hx hB hk 103 Tryz.entUns rfl false (fun wx => spare_1 (dN hi) false wx rfl (fun w => by simp [outC1, outZ1, dN, go_sem, strL_toList])) (unsR (dN hi)) (fun wx hb => unsigned_any x kr kk 0 c m f A (dN hi) wx (hx.below hb hx.lt))

theorem slAt_term {W : World} {tb : Nat} (S : Nat → Prop) (hS : ¬ S tb) (h : W.heap[tb]? = some (.cells #[.string ⟨#[110]⟩, .int .i64 1] 67 (0, 0))) : SlAt TermD.cells 2 S W (some ⟨tb, 0, none⟩) 1 [⟨[110], 1⟩] := by
  refine ⟨Nat.le_refl _, by omega, fun i d hi => ?_⟩
  have h0 : i = 0 := by
    have := (List.getElem?_eq_some_iff.1 hi).1
    simp at this; omega
  subst h0
  simp only [List.getElem?_cons_zero, Option.some.injEq] at hi
  subst hi
  refine ⟨tb, 0, rfl, hS, fun j u hu => ?_⟩
  match j, hu with
  | 0, hu =>
    simp only [TermD.cells, List.getElem?_cons_zero, Option.some.injEq] at hu
    subst hu
    simp [World.cell?, h]
    rfl
  | 1, hu =>
    simp only [TermD.cells, List.getElem?_cons_succ, List.getElem?_cons_zero, Option.some.injEq] at hu
    subst hu
    simp [World.cell?, h]
  | j + 2, hu => simp [TermD.cells] at hu

theorem fieldB (hi bi ba : Int) (nm : List UInt8) (tb : Nat) (SP : Bool) (x kr kk c : Nat) (m f : Int) (A : Option Addr) (S : Nat → Prop) (w : World) (hx : ExAt w x m f kr A 1 c kk) (hB : SlAt FieldD.cells 15 S w A c [dN hi]) (hk : MapI w kk (condE (.pointer (some ⟨x, 0, none⟩))))
    (ht : SlAt TermD.cells 2 S w (some ⟨tb, 0, none⟩) 1 [⟨[110], 1⟩]) (hv : validS ba [⟨[110], 1⟩] = true) (ha : allowP (0, hi) = true) (hsp : ∀ w, (binOp .neq 167 (outC4 (dB tb nm bi ba)) (outZ4 (dB tb nm bi ba))).run Tryz.prog w = .ok (.bool SP) w) :
    Calls Tryz.prog 146 #[.pointer (some ⟨x, 0, none⟩), (dB tb nm bi ba).agg] w fun e w' => e = doE (fieldR [dN hi] (dB tb nm bi ba) SP (sizeR (ransP [dN hi]) (dB tb nm bi ba))) m f ∧ Below w.heap.size w w' :=
  field_any x kr kk c m f A [dN hi] (dB tb nm bi ba) S w hx hB hk 106 Tryz.entSize rfl SP (fun wx => spare_4 (dB tb nm bi ba) SP wx rfl hsp) (sizeR (ransP [dN hi]) (dB tb nm bi ba)) (fun wx hb => exSize_ok x kr kk c m f A [dN hi] (dB tb nm bi ba) S wx (hx.below hb hx.lt) (hB.below hb) (ht.below hb) hv (fun t h => by
    have h2 : t = ⟨[110], 1⟩ := by simpa [dB] using h
    subst h2
    exact ⟨(0, hi), rfl, ha⟩))

theorem spB_ok (tb : Nat) (nm : List UInt8) (ba : Int) (w : World) : (binOp .neq 167 (outC4 (dB tb nm 0 ba)) (outZ4 (dB tb nm 0 ba))).run Tryz.prog w = .ok (.bool false) w := by simp [outC4, outZ4, dB, go_sem, strL_toList]
theorem spB_bad (tb : Nat) (nm : List UInt8) (ba : Int) (w : World) : (binOp .neq 167 (outC4 (dB tb nm 8 ba)) (outZ4 (dB tb nm 8 ba))).run Tryz.prog w = .ok (.bool true) w := by simp [outC4, outZ4, dB, go_sem, strL_toList]
theorem fieldB_ok (tb : Nat) : fieldR [dN 255] (dB tb [98] 0 0) false (sizeR (ransP [dN 255]) (dB tb [98] 0 0)) = none := by rfl
theorem fieldB_base (tb : Nat) : fieldR [dN 255] (dB tb [98] 0 (-1)) false (sizeR (ransP [dN 255]) (dB tb [98] 0 (-1))) = some 9 := by rfl
theorem fieldB_twice (tb : Nat) : fieldR [dN 255] (dB tb [110] 0 0) false (sizeR (ransP [dN 255]) (dB tb [110] 0 0)) = some 2 := by rfl
theorem fieldB_bits (tb : Nat) : fieldR [dN 255] (dB tb [98] 8 0) true (sizeR (ransP [dN 255]) (dB tb [98] 8 0)) = some 5 := by rfl
theorem valid_ba0 : validS 0 [⟨[110], 1⟩] = true := by decide
theorem valid_ba1 : validS (-1) [⟨[110], 1⟩] = true := by decide
theorem allow_255 : allowP (0, 255) = true := by decide
theorem uns_ok : unsR (dN 255) = none := by decide
theorem uns_bad : unsR (dN 256) = some 7 := by decide
theorem fieldN_ok : fieldR [] (dN 255) false (unsR (dN 255)) = none := by decide
theorem fieldN_bad : fieldR [] (dN 256) false (unsR (dN 256)) = some 7 := by decide
end Go.Proofs.YtbpkppmbbpoohaaGreat
