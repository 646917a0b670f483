/- Sums in memory: begin, write, result. Conditions: a kind that exists; the sum and the bytes lie in memory, apart from each other. -/
import Derived.Test.YtpnhiaibidecnaaZc
import Derived.Test.YtpnhiaibidecnaaZd
import Derived.Test.YtpnhiaibidecnaaZe
import Derived.Test.YtpnhiaibidecnaaZf
namespace Go.Proofs.Ytpnhiaibidecnaa
open Go.RowKit Go.Shelf

/-- A sum of bytes in memory. -/
structure SumOf (w : World) (b k : Nat) (B : List Nat) : Prop where
  at_ : SumAt w b (stS k B) B.length k
  low : ∀ x ∈ B, x < 256
  kind : 1 ≤ k ∧ k ≤ 3
theorem SumOf.lt {w : World} {b k : Nat} {B : List Nat} (h : SumOf w b k B) : b < w.heap.size := h.at_.lt
theorem SumOf.rest {w w' : World} {b k : Nat} {B : List Nat} {S : Nat → Prop} (h : SumOf w b k B) (hr : Rest S w w') (hs : ¬ S b) : SumOf w' b k B := ⟨h.at_.rest hr hs, h.low, h.kind⟩
theorem SumOf.below {w w' : World} {b k m : Nat} {B : List Nat} (h : SumOf w b k B) (hb : Below m w w') (hm : b < m) : SumOf w' b k B := ⟨h.at_.below hb hm, h.low, h.kind⟩

/-- The parts of how a checksum is computed. -/
theorem rule_0 (x y z u : Int) (f g : Value) (w : World) : (Instr.field 63 (.agg #[.int .i64 x, .int .i64 y, .int .i64 z, .int .i64 u, f, g]) 0).run Try.prog w = .ok (.int .i64 x) w := by kernel_rfl
theorem rule_1 (x y z u : Int) (f g : Value) (w : World) : (Instr.field 63 (.agg #[.int .i64 x, .int .i64 y, .int .i64 z, .int .i64 u, f, g]) 1).run Try.prog w = .ok (.agg #[.int .i64 y, .int .i64 z, .int .i64 u]) w := by kernel_rfl
theorem rule_2 (x y z u : Int) (f g : Value) (w : World) : (Instr.field 63 (.agg #[.int .i64 x, .int .i64 y, .int .i64 z, .int .i64 u, f, g]) 2).run Try.prog w = .ok f w := by kernel_rfl
theorem rule_3 (x y z u : Int) (f g : Value) (w : World) : (Instr.field 63 (.agg #[.int .i64 x, .int .i64 y, .int .i64 z, .int .i64 u, f, g]) 3).run Try.prog w = .ok g w := by kernel_rfl

theorem stS_ones (A B : List Nat) : stS 1 (A ++ B) = (nrm ((stS 1 A).1 + tot A.length B), (stS 1 A).2) := by rw [← stS_append]; rfl
theorem stS_crc (A B : List Nat) : stS 2 (A ++ B) = (crcL (stS 2 A).1 B, (stS 2 A).2) := by rw [← stS_append]; rfl
theorem stS_adler (A B : List Nat) : stS 3 (A ++ B) = adl (stS 3 A) B := by rw [← stS_append]; rfl
theorem stS_low3 (A : List Nat) : (stS 3 A).1 < 65521 ∧ (stS 3 A).2 < 65521 := adl_lt A (by decide) (by decide)

set_option maxRecDepth 100000 in
set_option maxHeartbeats 3200000 in
theorem begin_any (k : Nat) (hk : 1 ≤ k ∧ k ≤ 3) (w : World) : Calls Try.prog 28 #[.int .i64 ((k : Nat) : Int)] w fun e w' => e = .returned (.agg #[.int .i64 (((beg k).1 : Nat) : Int), .int .i64 (((beg k).2 : Nat) : Int), .int .i64 0, .int .i64 ((k : Nat) : Int)]) ∧ Below w.heap.size w w' := by
  have HR := fun w => Lib.hid (ruleOf_any k hk w)
  unfold ruleV at HR
  obtain ⟨x, hx⟩ : ∃ x : Int, ((bitsS k : Nat) : Int) = x := ⟨_, rfl⟩
  obtain ⟨y, hy⟩ : ∃ x : Int, (((beg k).1 : Nat) : Int) = x := ⟨_, rfl⟩
  obtain ⟨z, hz⟩ : ∃ x : Int, (((beg k).2 : Nat) : Int) = x := ⟨_, rfl⟩
  obtain ⟨f, hf⟩ : ∃ x, addF k = x := ⟨_, rfl⟩
  obtain ⟨g, hg⟩ : ∃ x, sumF k = x := ⟨_, rfl⟩
  rw [hx, hy, hz, hf, hg] at HR
  rw [hy, hz]
  clear hx hy hz hf hg
  have r1 := rule_1
  go_enter Try.func28, Try.ntmps28
  go_wp2_with fail
  refine (HR _).out.mono ?_
  rintro e w1 ⟨rfl, hb1⟩
  have hz := (SumAt.new w (0, 0) 0 0 56).below hb1 (by simp)
  have f3 : w1.frozen? ⟨w.heap.size, 3, none⟩ = false := (hb1.frozen (p := ⟨w.heap.size, 3, none⟩) (by simp)).trans (World.frozen?_alloc_new _ _ _ _)
  have hbb := ((Below.refl _ w).alloc (Nat.le_refl _) (.cells #[.int .i64 0, .int .i64 0, .int .i64 0, .int .i64 0] 56)).trans (hb1.mono (by simp))
  have HB1 := Lib.hid hbb
  obtain ⟨c0, c1, c2, c3, f0, f1, f2⟩ := hz
  clear hb1 hbb
  go_wp2
  exact bodyPost_ret (v := .agg #[.int .i64 y, .int .i64 z, .int .i64 0, .int .i64 ((k : Nat) : Int)]) (by simp [results, Try.results28, go_sem, *]) rfl ⟨rfl, (((HB1.out.setCell (Nat.le_refl _) _).setCell (Nat.le_refl _) _).setCell (Nat.le_refl _) _).setCell (Nat.le_refl _) _⟩

set_option maxRecDepth 100000 in
set_option maxHeartbeats 3200000 in
theorem write_1 (A : Option Addr) (N C : Nat) (B D : List Nat) (b : Nat) (w : World) (hs : 0 < N → SrcAt w (.slice A N C) B) (hN : N = B.length) (h256 : ∀ x ∈ B, x < 256) (hu : SumOf w b 1 D) (hne : 0 < N → ∀ j, (Value.slice A N C).ownBlock = some j → j ≠ b) (hp : D.length + N ≤ 4294967296) :
    Calls Try.prog 29 #[.pointer (some ⟨b, 0, none⟩), .slice A N C] w fun e w' => e = .returned (.tuple #[]) ∧ SumOf w' b 1 (D ++ B) ∧ Rest (fun j => j = b) w w' := by
  have c3 := hu.at_.c3
  have HA := fun w' (hb : Below w.heap.size w w') => Lib.hid (addOnes_any A N C B b (stS 1 D) D.length 1 w' (fun h => (hs h).below hb (hs h).lt) hN h256 (hu.at_.below hb hu.lt) hne (by have := stS_lt 1 D hu.low (by omega); omega) hp)
  rw [← stS_ones] at HA
  have HR := fun w => Lib.hid (ruleOf_1 w)
  unfold ruleV at HR
  have HB := Lib.hid (Below.refl w.heap.size w)
  have HLT := Lib.hid hu.lt
  have HD : Hid (∀ x ∈ D ++ B, x < 256) := Lib.hid (fun x hx => by
    rcases List.mem_append.1 hx with h | h
    · exact hu.low x h
    · exact h256 x h)
  have HN := Lib.hid hN
  rw [show addF 1 = 38 from rfl] at HR
  obtain ⟨x, hx⟩ : ∃ x : Int, ((bitsS 1 : Nat) : Int) = x := ⟨_, rfl⟩
  obtain ⟨y, hy⟩ : ∃ x : Int, (((beg 1).1 : Nat) : Int) = x := ⟨_, rfl⟩
  obtain ⟨z, hz⟩ : ∃ x : Int, (((beg 1).2 : Nat) : Int) = x := ⟨_, rfl⟩
  obtain ⟨g, hg⟩ : ∃ x, sumF 1 = x := ⟨_, rfl⟩
  rw [hx, hy, hz, hg] at HR
  clear hx hy hz hg hs hN h256 hu hne
  have r2 := rule_2
  go_enter Try.func29, Try.ntmps29
  go_wp2
  go_region_with (first | (go_at_call 27; refine (HR _).out.mono ?_; rintro e w1 ⟨rfl, hb1⟩; have HB1 := Lib.hid (HB.out.drew.trans hb1); clear hb1) | (go_at_call 38; refine (HA _ HB1.out).out.mono ?_; rintro e w2 ⟨rfl, hs2, hr2⟩; have c2 := hs2.c2; have f2 := hs2.f2; have HS2 := Lib.hid hs2; have HR2 := Lib.hid hr2; clear hs2 hr2))
  all_goals
    go_wp2
    refine bodyPost_end (results_none rfl _ _ _) rfl ?_
    refine ⟨rfl, ⟨?_, HD.out, by decide⟩, ?_⟩
    · have hq := HS2.out.set2 (D ++ B).length
      rw [List.length_append, ← HN.out, show ((D.length + N : Nat) : Int) = ((D.length : Nat) : Int) + ((N : Nat) : Int) by omega] at hq
      rw [List.length_append, ← HN.out]
      exact hq
    · exact ((Rest.below HB1.out).trans HR2.out (fun _ _ e => e)).setCell (p := ⟨b, 2, none⟩) (fun _ => rfl) _

set_option maxRecDepth 100000 in
set_option maxHeartbeats 3200000 in
theorem write_2 (A : Option Addr) (N C : Nat) (B D : List Nat) (b : Nat) (w : World) (hs : 0 < N → SrcAt w (.slice A N C) B) (hN : N = B.length) (h256 : ∀ x ∈ B, x < 256) (hu : SumOf w b 2 D) (hne : 0 < N → ∀ j, (Value.slice A N C).ownBlock = some j → j ≠ b) (hp : D.length + N ≤ 4294967296) :
    Calls Try.prog 29 #[.pointer (some ⟨b, 0, none⟩), .slice A N C] w fun e w' => e = .returned (.tuple #[]) ∧ SumOf w' b 2 (D ++ B) ∧ Rest (fun j => j = b) w w' := by
  have c3 := hu.at_.c3
  have HA := fun w' (hb : Below w.heap.size w w') => Lib.hid (addCRC_any A N C B b (stS 2 D) D.length 2 w' (fun h => (hs h).below hb (hs h).lt) hN h256 (hu.at_.below hb hu.lt) hne (stS_lt 2 D hu.low (by omega)).1 (by omega))
  rw [← stS_crc] at HA
  have HR := fun w => Lib.hid (ruleOf_2 w)
  unfold ruleV at HR
  have HB := Lib.hid (Below.refl w.heap.size w)
  have HLT := Lib.hid hu.lt
  have HD : Hid (∀ x ∈ D ++ B, x < 256) := Lib.hid (fun x hx => by
    rcases List.mem_append.1 hx with h | h
    · exact hu.low x h
    · exact h256 x h)
  have HN := Lib.hid hN
  rw [show addF 2 = 40 from rfl] at HR
  obtain ⟨x, hx⟩ : ∃ x : Int, ((bitsS 2 : Nat) : Int) = x := ⟨_, rfl⟩
  obtain ⟨y, hy⟩ : ∃ x : Int, (((beg 2).1 : Nat) : Int) = x := ⟨_, rfl⟩
  obtain ⟨z, hz⟩ : ∃ x : Int, (((beg 2).2 : Nat) : Int) = x := ⟨_, rfl⟩
  obtain ⟨g, hg⟩ : ∃ x, sumF 2 = x := ⟨_, rfl⟩
  rw [hx, hy, hz, hg] at HR
  clear hx hy hz hg hs hN h256 hu hne
  have r2 := rule_2
  go_enter Try.func29, Try.ntmps29
  go_wp2
  go_region_with (first | (go_at_call 27; refine (HR _).out.mono ?_; rintro e w1 ⟨rfl, hb1⟩; have HB1 := Lib.hid (HB.out.drew.trans hb1); clear hb1) | (go_at_call 40; refine (HA _ HB1.out).out.mono ?_; rintro e w2 ⟨rfl, hs2, hr2⟩; have c2 := hs2.c2; have f2 := hs2.f2; have HS2 := Lib.hid hs2; have HR2 := Lib.hid hr2; clear hs2 hr2))
  all_goals
    go_wp2
    refine bodyPost_end (results_none rfl _ _ _) rfl ?_
    refine ⟨rfl, ⟨?_, HD.out, by decide⟩, ?_⟩
    · have hq := HS2.out.set2 (D ++ B).length
      rw [List.length_append, ← HN.out, show ((D.length + N : Nat) : Int) = ((D.length : Nat) : Int) + ((N : Nat) : Int) by omega] at hq
      rw [List.length_append, ← HN.out]
      exact hq
    · exact ((Rest.below HB1.out).trans HR2.out (fun _ _ e => e)).setCell (p := ⟨b, 2, none⟩) (fun _ => rfl) _

set_option maxRecDepth 100000 in
set_option maxHeartbeats 3200000 in
theorem write_3 (A : Option Addr) (N C : Nat) (B D : List Nat) (b : Nat) (w : World) (hs : 0 < N → SrcAt w (.slice A N C) B) (hN : N = B.length) (h256 : ∀ x ∈ B, x < 256) (hu : SumOf w b 3 D) (hne : 0 < N → ∀ j, (Value.slice A N C).ownBlock = some j → j ≠ b) (hp : D.length + N ≤ 4294967296) :
    Calls Try.prog 29 #[.pointer (some ⟨b, 0, none⟩), .slice A N C] w fun e w' => e = .returned (.tuple #[]) ∧ SumOf w' b 3 (D ++ B) ∧ Rest (fun j => j = b) w w' := by
  have c3 := hu.at_.c3
  have HA := fun w' (hb : Below w.heap.size w w') => Lib.hid (addAdler_any A N C B b (stS 3 D) D.length 3 w' (fun h => (hs h).below hb (hs h).lt) hN h256 (hu.at_.below hb hu.lt) hne (stS_low3 D).1 (stS_low3 D).2 (by omega))
  rw [← stS_adler] at HA
  have HR := fun w => Lib.hid (ruleOf_3 w)
  unfold ruleV at HR
  have HB := Lib.hid (Below.refl w.heap.size w)
  have HLT := Lib.hid hu.lt
  have HD : Hid (∀ x ∈ D ++ B, x < 256) := Lib.hid (fun x hx => by
    rcases List.mem_append.1 hx with h | h
    · exact hu.low x h
    · exact h256 x h)
  have HN := Lib.hid hN
  rw [show addF 3 = 42 from rfl] at HR
  obtain ⟨x, hx⟩ : ∃ x : Int, ((bitsS 3 : Nat) : Int) = x := ⟨_, rfl⟩
  obtain ⟨y, hy⟩ : ∃ x : Int, (((beg 3).1 : Nat) : Int) = x := ⟨_, rfl⟩
  obtain ⟨z, hz⟩ : ∃ x : Int, (((beg 3).2 : Nat) : Int) = x := ⟨_, rfl⟩
  obtain ⟨g, hg⟩ : ∃ x, sumF 3 = x := ⟨_, rfl⟩
  rw [hx, hy, hz, hg] at HR
  clear hx hy hz hg hs hN h256 hu hne
  have r2 := rule_2
  go_enter Try.func29, Try.ntmps29
  go_wp2
  go_region_with (first | (go_at_call 27; refine (HR _).out.mono ?_; rintro e w1 ⟨rfl, hb1⟩; have HB1 := Lib.hid (HB.out.drew.trans hb1); clear hb1) | (go_at_call 42; refine (HA _ HB1.out).out.mono ?_; rintro e w2 ⟨rfl, hs2, hr2⟩; have c2 := hs2.c2; have f2 := hs2.f2; have HS2 := Lib.hid hs2; have HR2 := Lib.hid hr2; clear hs2 hr2))
  all_goals
    go_wp2
    refine bodyPost_end (results_none rfl _ _ _) rfl ?_
    refine ⟨rfl, ⟨?_, HD.out, by decide⟩, ?_⟩
    · have hq := HS2.out.set2 (D ++ B).length
      rw [List.length_append, ← HN.out, show ((D.length + N : Nat) : Int) = ((D.length : Nat) : Int) + ((N : Nat) : Int) by omega] at hq
      rw [List.length_append, ← HN.out]
      exact hq
    · exact ((Rest.below HB1.out).trans HR2.out (fun _ _ e => e)).setCell (p := ⟨b, 2, none⟩) (fun _ => rfl) _

theorem writeE_any (A : Option Addr) (N C k : Nat) (B D : List Nat) (b : Nat) (w : World) (hs : 0 < N → SrcAt w (.slice A N C) B) (hN : N = B.length) (h256 : ∀ x ∈ B, x < 256) (hu : SumOf w b k D) (hne : 0 < N → ∀ j, (Value.slice A N C).ownBlock = some j → j ≠ b) (hp : D.length + N ≤ 4294967296) :
    Calls Try.prog 29 #[.pointer (some ⟨b, 0, none⟩), .slice A N C] w fun e w' => e = .returned (.tuple #[]) ∧ SumOf w' b k (D ++ B) ∧ Rest (fun j => j = b) w w' := by
  have hk := hu.kind
  obtain rfl | rfl | rfl : k = 1 ∨ k = 2 ∨ k = 3 := by omega
  · exact write_1 A N C B D b w hs hN h256 hu hne hp
  · exact write_2 A N C B D b w hs hN h256 hu hne hp
  · exact write_3 A N C B D b w hs hN h256 hu hne hp

theorem write_any (A : Option Addr) (N C k : Nat) (B D : List Nat) (b : Nat) (w : World) (hs : SrcAt w (.slice A N C) B) (hN : N = B.length) (h256 : ∀ x ∈ B, x < 256) (hu : SumOf w b k D) (hne : ∀ j, (Value.slice A N C).ownBlock = some j → j ≠ b) (hp : D.length + N ≤ 4294967296) :
    Calls Try.prog 29 #[.pointer (some ⟨b, 0, none⟩), .slice A N C] w fun e w' => e = .returned (.tuple #[]) ∧ SumOf w' b k (D ++ B) ∧ Rest (fun j => j = b) w w' := writeE_any A N C k B D b w (fun _ => hs) hN h256 hu (fun _ => hne) hp

set_option maxRecDepth 100000 in
set_option maxHeartbeats 3200000 in
theorem result_1 (D : List Nat) (b : Nat) (w : World) (hu : SumOf w b 1 D) :
    Calls Try.prog 30 #[.pointer (some ⟨b, 0, none⟩)] w fun e w' => e = .returned (.int .i64 ((valS 1 D : Nat) : Int)) ∧ Below w.heap.size w w' := by
  have c3 := hu.at_.c3
  have HA := fun w' (hb : Below w.heap.size w w') => Lib.hid (onesSum_any b (stS 1 D) D.length 1 w' (hu.at_.below hb hu.lt) (by have := stS_lt 1 D hu.low (by omega); omega))
  rw [show 65535 - (stS 1 D).1 = valS 1 D from rfl] at HA
  have HR := fun w => Lib.hid (ruleOf_1 w)
  unfold ruleV at HR
  have HB := Lib.hid (Below.refl w.heap.size w)
  rw [show sumF 1 = 39 from rfl] at HR
  obtain ⟨x, hx⟩ : ∃ x : Int, ((bitsS 1 : Nat) : Int) = x := ⟨_, rfl⟩
  obtain ⟨y, hy⟩ : ∃ x : Int, (((beg 1).1 : Nat) : Int) = x := ⟨_, rfl⟩
  obtain ⟨z, hz⟩ : ∃ x : Int, (((beg 1).2 : Nat) : Int) = x := ⟨_, rfl⟩
  obtain ⟨g, hg⟩ : ∃ x, addF 1 = x := ⟨_, rfl⟩
  rw [hx, hy, hz, hg] at HR
  obtain ⟨V, hV⟩ : ∃ V, valS 1 D = V := ⟨_, rfl⟩
  rw [hV] at HA ⊢
  clear hx hy hz hg hu hV
  have r3 := rule_3
  go_enter Try.func30, Try.ntmps30
  go_wp2
  go_region_with (first | (go_at_call 27; refine (HR _).out.mono ?_; rintro e w1 ⟨rfl, hb1⟩; have HB1 := Lib.hid (HB.out.drew.trans hb1); clear hb1) | (go_at_call 39; refine (HA _ HB1.out).out.mono ?_; rintro e w2 ⟨rfl, rfl⟩; have HB2 := HB1))
  all_goals
    go_wp2
    go_ret
    exact ⟨rfl, HB2.out⟩

set_option maxRecDepth 100000 in
set_option maxHeartbeats 3200000 in
theorem result_2 (D : List Nat) (b : Nat) (w : World) (hu : SumOf w b 2 D) :
    Calls Try.prog 30 #[.pointer (some ⟨b, 0, none⟩)] w fun e w' => e = .returned (.int .i64 ((valS 2 D : Nat) : Int)) ∧ Below w.heap.size w w' := by
  have c3 := hu.at_.c3
  have HA := fun w' (hb : Below w.heap.size w w') => Lib.hid (crcSum_any b (stS 2 D) D.length 2 w' (hu.at_.below hb hu.lt))
  rw [show (stS 2 D).1 = valS 2 D from rfl] at HA
  have HR := fun w => Lib.hid (ruleOf_2 w)
  unfold ruleV at HR
  have HB := Lib.hid (Below.refl w.heap.size w)
  rw [show sumF 2 = 41 from rfl] at HR
  obtain ⟨x, hx⟩ : ∃ x : Int, ((bitsS 2 : Nat) : Int) = x := ⟨_, rfl⟩
  obtain ⟨y, hy⟩ : ∃ x : Int, (((beg 2).1 : Nat) : Int) = x := ⟨_, rfl⟩
  obtain ⟨z, hz⟩ : ∃ x : Int, (((beg 2).2 : Nat) : Int) = x := ⟨_, rfl⟩
  obtain ⟨g, hg⟩ : ∃ x, addF 2 = x := ⟨_, rfl⟩
  rw [hx, hy, hz, hg] at HR
  obtain ⟨V, hV⟩ : ∃ V, valS 2 D = V := ⟨_, rfl⟩
  rw [hV] at HA ⊢
  clear hx hy hz hg hu hV
  have r3 := rule_3
  go_enter Try.func30, Try.ntmps30
  go_wp2
  go_region_with (first | (go_at_call 27; refine (HR _).out.mono ?_; rintro e w1 ⟨rfl, hb1⟩; have HB1 := Lib.hid (HB.out.drew.trans hb1); clear hb1) | (go_at_call 41; refine (HA _ HB1.out).out.mono ?_; rintro e w2 ⟨rfl, rfl⟩; have HB2 := HB1))
  all_goals
    go_wp2
    go_ret
    exact ⟨rfl, HB2.out⟩

set_option maxRecDepth 100000 in
set_option maxHeartbeats 3200000 in
theorem result_3 (D : List Nat) (b : Nat) (w : World) (hu : SumOf w b 3 D) :
    Calls Try.prog 30 #[.pointer (some ⟨b, 0, none⟩)] w fun e w' => e = .returned (.int .i64 ((valS 3 D : Nat) : Int)) ∧ Below w.heap.size w w' := by
  have c3 := hu.at_.c3
  have HA := fun w' (hb : Below w.heap.size w w') => Lib.hid (adlerSum_any b (stS 3 D) D.length 3 w' (hu.at_.below hb hu.lt) (stS_lt 3 D hu.low (by omega)).1 (stS_lt 3 D hu.low (by omega)).2)
  rw [show (stS 3 D).2 * 65536 + (stS 3 D).1 = valS 3 D from rfl] at HA
  have HR := fun w => Lib.hid (ruleOf_3 w)
  unfold ruleV at HR
  have HB := Lib.hid (Below.refl w.heap.size w)
  rw [show sumF 3 = 43 from rfl] at HR
  obtain ⟨x, hx⟩ : ∃ x : Int, ((bitsS 3 : Nat) : Int) = x := ⟨_, rfl⟩
  obtain ⟨y, hy⟩ : ∃ x : Int, (((beg 3).1 : Nat) : Int) = x := ⟨_, rfl⟩
  obtain ⟨z, hz⟩ : ∃ x : Int, (((beg 3).2 : Nat) : Int) = x := ⟨_, rfl⟩
  obtain ⟨g, hg⟩ : ∃ x, addF 3 = x := ⟨_, rfl⟩
  rw [hx, hy, hz, hg] at HR
  obtain ⟨V, hV⟩ : ∃ V, valS 3 D = V := ⟨_, rfl⟩
  rw [hV] at HA ⊢
  clear hx hy hz hg hu hV
  have r3 := rule_3
  go_enter Try.func30, Try.ntmps30
  go_wp2
  go_region_with (first | (go_at_call 27; refine (HR _).out.mono ?_; rintro e w1 ⟨rfl, hb1⟩; have HB1 := Lib.hid (HB.out.drew.trans hb1); clear hb1) | (go_at_call 43; refine (HA _ HB1.out).out.mono ?_; rintro e w2 ⟨rfl, hb2⟩; have HB2 := Lib.hid (HB1.out.trans (hb2.mono HB1.out.size)); clear hb2))
  all_goals
    go_wp2
    go_ret
    exact ⟨rfl, HB2.out⟩

theorem result_any (k : Nat) (D : List Nat) (b : Nat) (w : World) (hu : SumOf w b k D) :
    Calls Try.prog 30 #[.pointer (some ⟨b, 0, none⟩)] w fun e w' => e = .returned (.int .i64 ((valS k D : Nat) : Int)) ∧ Below w.heap.size w w' := by
  have hk := hu.kind
  obtain rfl | rfl | rfl : k = 1 ∨ k = 2 ∨ k = 3 := by omega
  · exact result_1 D b w hu
  · exact result_2 D b w hu
  · exact result_3 D b w hu
end Go.Proofs.Ytpnhiaibidecnaa
