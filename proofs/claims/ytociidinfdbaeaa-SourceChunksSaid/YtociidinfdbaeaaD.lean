/- What is there of a number of bytes, and Peek, Take, Skip, Close and Feed of a source. Conditions: the source lies in memory; the chunk's bytes lie in memory. -/
import Derived.Test.YtociidinfdbaeaaC
namespace Go.Proofs.Ytociidinfdbaeaa
open Go.RowKit Go.Shelf

/-- The error of too few bytes. -/
def fewCode (C : Bool) : Int := if C then 9 else 4

set_option maxRecDepth 100000 in
set_option maxHeartbeats 800000 in
theorem there_no (p : Nat) (v f : Value) (B : List Nat) (L T : Nat) (n : Int) (C : Bool) (w : World) (h : SAt w p v B L T C) (hn : (B.length : Int) < n) :
    Calls Try.prog 38 #[.pointer (some ⟨p, 0, none⟩), .int .i64 n, f] w fun e w' => e = .returned (.int .i64 (fewCode C)) ∧ w = w' := by
  have HS := Lib.hid (size_any p v B w h.c0 h.buf)
  have c3 := h.c3
  clear h
  cases C
  all_goals
    go_enter Try.func38, Try.ntmps38
    go_wp2_with (go_at_call 34; go_must (refine HS.out.mono ?_); rintro e w1 ⟨rfl, rfl⟩)
    go_ret
    exact ⟨rfl, rfl⟩

set_option maxRecDepth 100000 in
set_option maxHeartbeats 800000 in
theorem there_yes (p : Nat) (v : Value) (B : List Nat) (L T n : Nat) (C : Bool) (w : World) (h : SAt w p v B L T C) (hn : n ≤ B.length) (g : Nat) (lb : Array Value) (eg : ∀ args w, (callFunc g args).run Try.prog w = .ok (.enter g args) w) (R : Int → World → Prop)
    (hcl : ∀ A, Buf w (.slice A n n) (B.take n) → (∀ k, (Value.slice A n n).ownBlock = some k → v.ownBlock = some k) → Calls Try.prog g (#[.slice A n n] ++ lb) w fun e w' => ∃ c, e = .returned (.int .i64 c) ∧ R c w') :
    Calls Try.prog 38 #[.pointer (some ⟨p, 0, none⟩), .int .i64 n, .func (.func g) #[] lb] w fun e w' => ∃ c, e = .returned (.int .i64 c) ∧ R c w' := by
  have HS := Lib.hid (size_any p v B w h.c0 h.buf)
  have HF := Lib.hid (first_any p v B n w h.c0 h.buf hn)
  have HC := Lib.hid hcl
  clear h hcl
  go_enter Try.func38, Try.ntmps38
  go_wp2_with (first | (go_at_call 34; go_must (refine HS.out.mono ?_); rintro e w1 ⟨rfl, rfl⟩) | (go_at_call 35; go_must (refine HF.out.mono ?_); rintro e w1 ⟨rfl, A, rfl, hb, hk⟩; have HX := Lib.hid (HC.out A hb hk); clear hb hk))
  refine HX.out.mono ?_
  rintro e w2 ⟨c, rfl, hr⟩
  have HR := Lib.hid hr
  clear hr
  go_wp2
  go_ret
  exact ⟨c, rfl, HR.out⟩
end Go.Proofs.Ytociidinfdbaeaa
