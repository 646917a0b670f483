/- The first bytes of a buffer, dropping them, putting a chunk, a clone and a copy; passing bytes of a source. Conditions: the source or the buffer lies in memory and has so many bytes. -/
import Derived.Test.YtociidinfdbaeaaA
namespace Go.Proofs.Ytociidinfdbaeaa
open Go.RowKit Go.Shelf

/-- The first n bytes of a buffer: still those of the buffer, and nothing behind them. -/
def FirstOf (w : World) (v : Value) (B : List Nat) (n : Nat) (e : Ending) (w' : World) : Prop :=
  w = w' ∧ ∃ A, e = .returned (.slice A n n) ∧ Buf w (.slice A n n) (B.take n) ∧ (∀ k, (Value.slice A n n).ownBlock = some k → v.ownBlock = some k)

theorem buf_first {w : World} {v : Value} {B : List Nat} {b off cap n : Nat} (h : BufAt w v B (some ⟨b, off, none⟩) b off cap) (hn : n ≤ B.length) (h0 : 0 < n) :
    Buf w (.slice (some ⟨b, off, none⟩) n n) (B.take n) := by
  have hl : (B.take n).length = n := by rw [List.length_take]; omega
  have hc : 0 < cap := Nat.lt_of_lt_of_le (by omega) h.came.le
  refine ⟨some ⟨b, off, none⟩, b, off, n, by rw [hl], ⟨by rw [hl]; exact Nat.le_refl _, fun _ => rfl, fun _ => h.came.lt hc, by rw [u8s_length, Nat.mul_one], fun j u hu => ?_, fun j hj => by rw [hl] at hj; omega⟩, Nat.le_trans (Nat.le_trans hn h.came.le) h.max, fun e => by simp at e, fun a ha => ?_⟩
  · refine h.came.olds j u ?_
    rw [← hu]
    have hj := (List.getElem?_eq_some_iff.1 hu).1
    rw [u8s_length, hl] at hj
    simp [u8s, hj]
  · simp only [Option.some.injEq] at ha
    subst ha
    exact h.came.lt hc

theorem buf_empty {w : World} (A : Option Addr) (h : ∀ a, A = some a → a.block < w.heap.size) : Buf w (.slice A 0 0) [] :=
  ⟨A, 0, 0, 0, rfl, ⟨Nat.le_refl _, by omega, by omega, rfl, fun j u hu => by simp [u8s] at hu, fun j hj => by simp at hj⟩, Nat.zero_le _, fun _ => rfl, h⟩

theorem buf_take {w : World} {ao : Option Addr} {cap n : Nat} {B : List Nat} (h : Buf w (.slice ao B.length cap) B) (hn : n ≤ B.length) : Buf w (.slice ao n n) (B.take n) := by
  obtain ⟨ao', b, off, cap', h⟩ := h
  have e := h.eq
  simp only [Value.slice.injEq, true_and] at e
  obtain ⟨rfl, rfl⟩ := e
  by_cases h0 : n = 0
  · subst h0
    exact buf_empty ao h.lt
  · have hle := h.came.le
    obtain rfl := h.came.addr (by omega)
    exact buf_first h hn (by omega)

set_option maxRecDepth 100000 in
set_option maxHeartbeats 800000 in
theorem first_det (p : Nat) (ao : Option Addr) (cap : Nat) (B : List Nat) (n : Nat) (w : World) (hc : w.cell? ⟨p, 0, none⟩ = some (.slice ao B.length cap)) (hb : Buf w (.slice ao B.length cap) B) (hn : n ≤ B.length) :
    Calls Try.prog 35 #[.pointer (some ⟨p, 0, none⟩), .int .i64 n] w fun e w' => e = .returned (.slice ao n n) ∧ w = w' := by
  obtain ⟨ao', b, off, cap', h⟩ := hb
  have e := h.eq
  simp only [Value.slice.injEq, true_and] at e
  obtain ⟨rfl, rfl⟩ := e
  have hle := h.came.le
  have hmax := h.max
  have h1 : n ≤ cap := by omega
  have hm : maxLen = 9223372036854775807 := rfl
  by_cases h0 : n = 0
  · subst h0
    have H := Lib.hid h
    cases ao with
    | none =>
      obtain rfl : cap = 0 := h.nil rfl
      obtain hB : B.length = 0 := by omega
      rw [hB] at hc
      clear h hle hmax
      go_enter Try.func35, Try.ntmps35
      go_wp2
      go_ret
      exact ⟨rfl, rfl⟩
    | some a =>
      clear h
      go_enter Try.func35, Try.ntmps35
      go_wp2
      go_ret
      exact ⟨rfl, rfl⟩
  · have hcap : 0 < cap := by omega
    obtain rfl := h.came.addr hcap
    clear h
    go_enter Try.func35, Try.ntmps35
    go_wp2
    go_ret
    exact ⟨rfl, rfl⟩

theorem first_any (p : Nat) (v : Value) (B : List Nat) (n : Nat) (w : World) (hc : w.cell? ⟨p, 0, none⟩ = some v) (hb : Buf w v B) (hn : n ≤ B.length) :
    Calls Try.prog 35 #[.pointer (some ⟨p, 0, none⟩), .int .i64 n] w (FirstOf w v B n) := by
  obtain ⟨ao, cap, rfl, _, _⟩ := hb.form
  refine (first_det p ao cap B n w hc hb hn).mono ?_
  rintro e w' ⟨rfl, rfl⟩
  refine ⟨rfl, ao, rfl, buf_take hb hn, fun k hk => ?_⟩
  cases ao with
  | none => simp [Value.ownBlock] at hk
  | some a => simpa [Value.ownBlock] using hk

/-- The buffer behind n bytes. -/
theorem buf_drop {w : World} {v : Value} {B : List Nat} {b off cap n : Nat} (h : BufAt w v B (some ⟨b, off, none⟩) b off cap) (hn : n ≤ B.length) (h0 : n < cap) :
    Buf w (.slice (some ⟨b, off + n, none⟩) (B.length - n) (cap - n)) (B.drop n) := by
  have hl : (B.drop n).length = B.length - n := List.length_drop
  have hle := h.came.le
  refine ⟨some ⟨b, off + n, none⟩, b, off + n, cap - n, by rw [hl], ⟨by omega, fun _ => rfl, fun _ => h.came.lt (by omega), by rw [u8s_length, Nat.mul_one], fun j u hu => ?_, fun j hj => ?_⟩, by have := h.max; omega, fun e => by simp at e, fun a ha => ?_⟩
  · rw [Nat.add_assoc]
    refine h.came.olds (n + j) u ?_
    rw [← hu]
    simp [u8s]
  · have e1 : off + n + (B.drop n).length * 1 + j = off + B.length * 1 + j := by rw [hl]; omega
    rw [e1]
    exact h.came.spare j (by rw [hl] at hj; omega)
  · simp only [Option.some.injEq] at ha
    subst ha
    exact h.came.lt (by omega)

/-- What dropping leaves. -/
def Dropped (p : Nat) (v : Value) (B : List Nat) (n : Nat) (w : World) (e : Ending) (w' : World) : Prop :=
  e = .returned (.tuple #[]) ∧ ∃ v', w' = w.setCell ⟨p, 0, none⟩ v' ∧ Buf w v' (B.drop n) ∧ (∀ k, v'.ownBlock = some k → v.ownBlock = some k)

set_option maxRecDepth 100000 in
set_option maxHeartbeats 800000 in
theorem drop_any (p : Nat) (v : Value) (B : List Nat) (n : Nat) (w : World) (hc : w.cell? ⟨p, 0, none⟩ = some v) (hf : w.frozen? ⟨p, 0, none⟩ = false) (hb : Buf w v B) (hn : n ≤ B.length) :
    Calls Try.prog 36 #[.pointer (some ⟨p, 0, none⟩), .int .i64 n] w (Dropped p v B n w) := by
  obtain ⟨ao, b, off, cap, h⟩ := hb
  have hle := h.came.le
  have hmax := h.max
  have h1 : n ≤ cap := by omega
  have hm : maxLen = 9223372036854775807 := rfl
  obtain rfl := h.eq
  by_cases h0 : n = cap
  · have hB : B.drop n = [] := by rw [List.drop_eq_nil_iff]; omega
    have hBl : B.length = n := by omega
    subst h0
    rw [hBl] at hc
    have HE := Lib.hid (buf_empty (w := w) ao h.lt)
    have HB := Lib.hid hB
    have HL := Lib.hid hBl
    cases ao with
    | none =>
      obtain rfl : n = 0 := h.nil rfl
      clear h hle hmax hB hBl hn
      go_enter Try.func36, Try.ntmps36
      go_wp2
      go_end0
      exact ⟨rfl, _, rfl, by rw [HB.out]; exact HE.out, fun k hk => by rw [HL.out]; exact hk⟩
    | some a =>
      clear h hle hB hBl hn
      go_enter Try.func36, Try.ntmps36
      go_wp2
      go_end0
      refine ⟨rfl, _, rfl, ?_, ?_⟩
      · rw [HB.out]
        simpa using HE.out
      · intro k hk
        simpa [Value.ownBlock] using hk
  · have hcap : 0 < cap := by omega
    obtain rfl := h.came.addr hcap
    have HF := Lib.hid (buf_drop h hn (by omega))
    have h2 : n < cap := by omega
    clear h h0
    go_enter Try.func36, Try.ntmps36
    go_wp2
    go_end0
    exact ⟨rfl, _, rfl, HF.out, fun k hk => hk⟩
end Go.Proofs.Ytociidinfdbaeaa
