/-
  Finite numbers, in a seat that narrows nothing. No condition.
-/
import Derived.Test.YthgnlpeogdockaaFinB
namespace Go.Proofs.Ythgnlpeogdockaa
end Go.Proofs.Ythgnlpeogdockaa
