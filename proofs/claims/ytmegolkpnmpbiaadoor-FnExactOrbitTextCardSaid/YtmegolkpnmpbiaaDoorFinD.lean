/-
  Finite numbers, in a seat that narrows nothing. No condition.
-/
import Derived.Test.YtmegolkpnmpbiaaDoorFinB
namespace Go.Proofs.YtmegolkpnmpbiaaDoor
end Go.Proofs.YtmegolkpnmpbiaaDoor
