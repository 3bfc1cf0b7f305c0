/-
  The square root of a 32-bit number, beside roots of 64-bit numbers. No condition.
-/
import Derived.Test.YtngjpbfiijkibaaRooS
namespace Go.Proofs.Ytngjpbfiijkibaa
end Go.Proofs.Ytngjpbfiijkibaa
