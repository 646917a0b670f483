/- The depth of a message of any definition. Conditions: the definition lies in memory. -/
import Derived.Test.YtbpkppmbbpoohaaVm
import Derived.Test.YtbpkppmbbpoohaaJf
namespace Go.Proofs.Ytbpkppmbbpoohaa
open Go.RowKit Go.Shelf

theorem depth_all (nm st : List UInt8) (A : Option Addr) (c : Nat) (D : List MsgD) (S : Nat → Prop) (mi : Int) (w : World) (h : MsgsAt S w A c D) (hS : ∀ k, w.heap.size ≤ k → S k) :
    Calls Try.prog 27 #[.agg #[.string (strL nm), .slice A D.length c, .string (strL st)], .int .i64 mi] w fun e w' => e = .returned (.tuple #[.int .i64 (natInR (defAllR nm st D) (defE D) D mi).1.1, .int .i64 (natInR (defAllR nm st D) (defE D) D mi).2]) ∧ Below w.heap.size w w' :=
  depth_of nm st A D.length c mi _ _ (natInR (defAllR nm st D) (defE D) D mi).1.2 w (fun wx hb => naturein_of nm st A c D S mi (defAllR nm st D) (defE D) wx (h.below hb).1 (fun hr => (validD_parts hr).least) (fun wy hy => examine_all nm st A c D S wy (h.below (hb.trans (hy.mono hb.size))) (fun k hk => hS k (by have := hb.size; have := hy.size; omega))))
end Go.Proofs.Ytbpkppmbbpoohaa
