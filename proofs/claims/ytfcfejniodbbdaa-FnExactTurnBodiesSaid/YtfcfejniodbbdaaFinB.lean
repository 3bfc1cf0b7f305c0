/-
  Finite numbers beside what is known of 64-bit numbers. No condition.
-/
import Derived.Test.YtfcfejniodbbdaaFinD
namespace Go.Proofs.Ytfcfejniodbbdaa
end Go.Proofs.Ytfcfejniodbbdaa
