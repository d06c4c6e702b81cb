
/-
  Plain mathematics of layer 6: what Decode makes of bytes.
-/
import Derived.Test.YtijiggfeamibkaaDoorBlk
namespace Go.Proofs.YtijiggfeamibkaaDoor
set_option linter.unusedVariables false
set_option linter.unusedSimpArgs false
open Go.RowKit

/-- What Decode makes of bytes whose check value is right: without it, d. -/
def cutB (d : List UInt8) : Bk := compB ((d.getD 0 0).toNat : Int) (kdC (d.getD 1 0).toNat) (d.drop 3)
def cutE (d : List UInt8) : Int := if okC (d.getD 1 0).toNat = true ∧ (d.getD 2 0).toNat = d.length - 3 then chkB (cutB d) else 4
def bdeE (k : Int) (l : List UInt8) : Int := if sizeK k = 0 then 1 else if l.length < 3 + sizeK k then 5 else if remE k l ≠ 0 then remE k l else cutE (remV k l)
def bdeV (k : Int) (l : List UInt8) : Bk := if bdeE k l = 0 then cutB (remV k l) else zeroB
end Go.Proofs.YtijiggfeamibkaaDoor
