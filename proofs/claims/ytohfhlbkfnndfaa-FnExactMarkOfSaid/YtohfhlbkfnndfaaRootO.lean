/-
  The square root of a 32-bit number, beside roots of 64-bit numbers. No condition.
-/
import Derived.Test.YtohfhlbkfnndfaaRooS
namespace Go.Proofs.Ytohfhlbkfnndfaa
end Go.Proofs.Ytohfhlbkfnndfaa
