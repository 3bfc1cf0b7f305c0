/-
  The square root of a 32-bit number, beside roots of 64-bit numbers. No condition.
-/
import Derived.Test.YtlfcjfaddcciaaaRooS
namespace Go.Proofs.Ytlfcjfaddcciaaa
end Go.Proofs.Ytlfcjfaddcciaaa
