/-
  Two or three things, counted. No condition.
-/
import Derived.Test.YthgnlpeogdockaaPos
import Derived.Lib.Hide
namespace Go.Proofs.Ythgnlpeogdockaa
open Go.RowKit
def two {α : Type} (a b : α) (i : Nat) : α := if i = 0 then a else b
def three {α : Type} (a b c : α) (i : Nat) : α := if i = 0 then a else if i = 1 then b else c
end Go.Proofs.Ythgnlpeogdockaa
