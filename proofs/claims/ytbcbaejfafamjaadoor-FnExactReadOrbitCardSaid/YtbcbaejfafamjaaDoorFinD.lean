/-
  Finite numbers, in a seat that narrows nothing. No condition.
-/
import Derived.Test.YtbcbaejfafamjaaDoorFinB
namespace Go.Proofs.YtbcbaejfafamjaaDoor
end Go.Proofs.YtbcbaejfafamjaaDoor
