/- The examples of the chapter: known of law 09 returns true. No conditions. -/
import Derived.Test.YtfkaghfbngicmaaQm
import Derived.Lib.ConvBytes
namespace Go.Proofs.Ytfkaghfbngicmaa
open Go.RowKit Go.Shelf

/-- A text's bytes, in new memory. -/
theorem conv_str (w : World) (B : List Nat) (hB : ∀ c ∈ B, c < 256) (hl : B.length ≤ 1000) :
    ∃ a c w1, (convert 9 22 (.string (strOf B))).run Try.prog w = .ok (.slice (some ⟨a, 0, none⟩) B.length c) w1 ∧ SrcAt w1 (.slice (some ⟨a, 0, none⟩) B.length c) B ∧ Below w.heap.size w w1 ∧ B.length ≤ c ∧ c ≤ 9223372036854775807 := by
  have hsz : (strOf B).size = B.length := by simp [strOf, ByteArray.size]
  refine ⟨w.heap.size, grownCap w (strOf B).size 0 5, Lib.bytesWorld w 5 (strOf B), ?_, ?_, ?_, ?_, ?_⟩
  · have := Go.Lib.run_convert_string_bytes (P := Try.prog) w 9 22 5 (strOf B) Try.undS Try.undL Try.undB
    rw [this, hsz]
  · refine .inr ⟨_, _, rfl, ?_, fun j u hu => ?_⟩
    · show w.heap.size < _
      rw [Lib.bytesWorld_size]; omega
    · have hj := (List.getElem?_eq_some_iff.1 hu).1
      rw [u8s_length] at hj
      rw [Addr.add_lit, Nat.zero_add, Lib.bytesWorld_cell w _ _ j (by rw [hsz]; exact hj)]
      rw [u8s_get B j hj] at hu
      rw [← hu]
      have := hB B[j] (List.getElem_mem hj)
      simp [strOf, List.getD, hj, Nat.mod_eq_of_lt this]
  · exact ⟨rfl, rfl, rfl, by rw [Lib.bytesWorld_size]; omega, fun k hk => Lib.bytesWorld_at_old w _ _ k hk⟩
  · rw [← hsz]; exact grownCap_ge _ _ _ _
  · exact grownCap_le_maxLen w _ 0 5 (by rw [hsz]; unfold maxLen; omega)

set_option maxRecDepth 100000 in
set_option maxHeartbeats 1600000 in
theorem reads_any (B : List Nat) (loose : Bool) (v n : Int) (r : Nat × Nat × Nat) (hr : readC B loose = r) (b : Bool) (hb : decide (((r.1 : Nat) : Int) = v ∧ ((r.2.1 : Nat) : Int) = n ∧ r.2.2 = 0) = b) (S : ByteArray) (hS : strOf B = S) (hB : ∀ c ∈ B, c < 256) (hl : B.length ≤ 1000) (w : World) :
    Calls Try.prog 24 #[.string S, .bool loose, .int .i64 v, .int .i64 n] w fun e w' => e = .returned (.bool b) ∧ Below w.heap.size w w' := by
  obtain ⟨a, c, w1, hconv, hsrc, hb1, hc1, hc2⟩ := conv_str w B hB hl
  have HR := Lib.hid (read_any (some ⟨a, 0, none⟩) B.length c loose B w1 hsrc rfl hc1 hc2 hB)
  rw [hr] at HR
  unfold ReadOf at HR
  rw [hS] at hconv
  obtain ⟨r1, r2, r3⟩ := r
  dsimp only at HR hb
  have HB1 := Lib.hid hb1
  have HB := Lib.hid hb
  clear hr hS hB hl hsrc hb1 hc1 hc2 hb
  obtain ⟨x1, h1⟩ : ∃ x : Int, ((r1 : Nat) : Int) = x := ⟨_, rfl⟩
  obtain ⟨x2, h2⟩ : ∃ x : Int, ((r2 : Nat) : Int) = x := ⟨_, rfl⟩
  obtain ⟨x3, h3⟩ : ∃ x : Int, ((r3 : Nat) : Int) = x := ⟨_, rfl⟩
  rw [h1, h2, h3] at HR
  rw [h1, h2] at HB
  have H3 := Lib.hid h3
  clear h1 h2 h3
  go_enter Try.func24, Try.ntmps24
  go_wp2_with fail
  refine HR.out.mono ?_
  rintro e w2 ⟨rfl, hb2⟩
  have HB2 := Lib.hid hb2
  clear hb2
  go_wp2
  all_goals
    go_ret
    refine ⟨ret_bool' ?_, HB1.out.trans (HB2.out.mono HB1.out.size)⟩
    rw [← HB.out]
    have h3 := H3.out
    rw [Bool.eq_iff_iff]
    simp [*]
    try omega

set_option maxRecDepth 100000 in
set_option maxHeartbeats 1600000 in
theorem refuses_any (B : List Nat) (k : Int) (r : Nat × Nat × Nat) (hr : readC B false = r) (b : Bool) (hb : decide (r.1 = 0 ∧ r.2.1 = 0 ∧ ((r.2.2 : Nat) : Int) = k) = b) (S : ByteArray) (hS : strOf B = S) (hB : ∀ c ∈ B, c < 256) (hl : B.length ≤ 1000) (w : World) :
    Calls Try.prog 25 #[.string S, .int .i64 k] w fun e w' => e = .returned (.bool b) ∧ Below w.heap.size w w' := by
  obtain ⟨a, c, w1, hconv, hsrc, hb1, hc1, hc2⟩ := conv_str w B hB hl
  have HR := Lib.hid (read_any (some ⟨a, 0, none⟩) B.length c false B w1 hsrc rfl hc1 hc2 hB)
  rw [hr] at HR
  unfold ReadOf at HR
  rw [hS] at hconv
  obtain ⟨r1, r2, r3⟩ := r
  dsimp only at HR hb
  have HB1 := Lib.hid hb1
  have HB := Lib.hid hb
  clear hr hS hB hl hsrc hb1 hc1 hc2 hb
  obtain ⟨x1, h1⟩ : ∃ x : Int, ((r1 : Nat) : Int) = x := ⟨_, rfl⟩
  obtain ⟨x2, h2⟩ : ∃ x : Int, ((r2 : Nat) : Int) = x := ⟨_, rfl⟩
  obtain ⟨x3, h3⟩ : ∃ x : Int, ((r3 : Nat) : Int) = x := ⟨_, rfl⟩
  rw [h1, h2, h3] at HR
  rw [h3] at HB
  have H1 := Lib.hid h1
  have H2 := Lib.hid h2
  clear h1 h2 h3
  go_enter Try.func25, Try.ntmps25
  go_wp2_with fail
  refine HR.out.mono ?_
  rintro e w2 ⟨rfl, hb2⟩
  have HB2 := Lib.hid hb2
  clear hb2
  go_wp2
  all_goals
    go_ret
    refine ⟨ret_bool' ?_, HB1.out.trans (HB2.out.mono HB1.out.size)⟩
    rw [← HB.out]
    have h1 := H1.out
    have h2 := H2.out
    rw [Bool.eq_iff_iff]
    simp [*]
    try omega

set_option maxRecDepth 100000 in
set_option maxHeartbeats 1600000 in
theorem beginsL_any (B : List Nat) (loose : Bool) (lo hi : Int) (b : Bool) (hr : beginsC B loose lo hi = (b, 0)) (S : ByteArray) (hS : strOf B = S) (hB : ∀ c ∈ B, c < 256) (hl : B.length ≤ 1000) (w : World) :
    Calls Try.prog 26 #[.string S, .bool loose, .int .i64 lo, .int .i64 hi] w fun e w' => e = .returned (.bool b) ∧ Below w.heap.size w w' := by
  obtain ⟨a, c, w1, hconv, hsrc, hb1, hc1, hc2⟩ := conv_str w B hB hl
  have HR := Lib.hid (begins_any (some ⟨a, 0, none⟩) B.length c loose B lo hi w1 hsrc rfl hc1 hc2 hB)
  rw [hr] at HR
  unfold BeginsOf at HR
  rw [hS] at hconv
  have HB1 := Lib.hid hb1
  clear hr hS hB hl hsrc hb1 hc1 hc2
  go_enter Try.func26, Try.ntmps26
  go_wp2_with fail
  refine HR.out.mono ?_
  rintro e w2 ⟨rfl, hb2⟩
  have HB2 := Lib.hid hb2
  clear hb2
  cases b with
  | true =>
    go_wp2
    go_ret
    exact ⟨rfl, HB1.out.trans (HB2.out.mono HB1.out.size)⟩
  | false =>
    go_wp2
    go_ret
    exact ⟨rfl, HB1.out.trans (HB2.out.mono HB1.out.size)⟩

theorem append_lit (v k : Nat) (L : List Nat) (hv : v < 34359738368) (hk : len1 v = k) (hL : formV v k = L) (n : Nat) (hn : L.length = n) (w : World) :
    Calls Try.prog 11 #[.slice none 0 0, .int .i64 ((v : Nat) : Int)] w fun e w' => ∃ g c, e = .returned (.tuple #[.slice (some ⟨g, 0, none⟩) n c, .int .i64 0]) ∧ SrcAt w' (.slice (some ⟨g, 0, none⟩) n c) L ∧ Below w.heap.size w w' := by
  subst hk hL hn
  rw [show (formV v (len1 v)).length = 0 + len1 v by rw [formV_len]; omega]
  refine (append_ok none 0 0 [] v hv w (.inl ⟨rfl, rfl⟩) rfl (Nat.le_refl _) (by omega) (by omega)).mono ?_
  rintro e w' ⟨g, c, rfl, h1, h2, hrow, hb⟩
  refine ⟨g, c, rfl, ?_, hb⟩
  rw [List.nil_append] at hrow
  have h := hrow.1
  have := SrcAt.of_row hrow
  exact this

theorem len_lit (v k : Nat) (hv : v < 34359738368) (hk : len1 v = k) (w : World) : Calls Try.prog 12 #[.int .i64 ((v : Nat) : Int)] w fun e w' => e = .returned (.tuple #[.int .i64 ((k : Nat) : Int), .int .i64 0]) ∧ Below w.heap.size w w' := by
  have := len_ok v hv w
  rw [hk] at this
  exact this
end Go.Proofs.Ytfkaghfbngicmaa
