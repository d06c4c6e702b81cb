/-
  Check of headers, of the reference, of any kind.
-/
import Derived.Test.YtkjcafhaenkpbaaDoorCra
import Derived.Test.YtkjcafhaenkpbaaDoorCrb
namespace Go.Proofs.YtkjcafhaenkpbaaDoor
set_option linter.unusedVariables false
set_option linter.unusedSimpArgs false
open Go.RowKit

theorem rchf_any (f : Fl) (A1 : Option Addr) (c1 : Nat) (A2 : Option Addr) (c2 : Nat) (w : World) (hn1 : (f.name.length : Int) ≤ 9223372036854775807) (hk : RL w w.heap.size (.slice A2 f.rules.length c2) f.rules) (hc : ∀ (k : Nat) (h : k < f.rules.length), f.rules[k].cond.cnt ≤ 2900000 ∧ f.rules[k].cond.dep ≤ 900) :
    Calls Tryd.prog 12 #[.agg #[.int .i64 f.id, .int .i64 f.kind, .slice A1 f.name.length c1, .int .i64 f.short, .int .i64 f.size, .int .i64 f.len, .int .i64 f.recs, .int .i64 f.state, .slice A2 f.rules.length c2]] w fun e w' => e = .returned (.int .i64 (chkF f)) ∧ Below w.heap.size w w' := by
  by_cases kk : f.kind = 1
  · exact rchf_one f A1 c1 A2 c2 w hn1 hk hc kk
  · exact rchf_more f A1 c1 A2 c2 w hn1 hk hc kk
end Go.Proofs.YtkjcafhaenkpbaaDoor
