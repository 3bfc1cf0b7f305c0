/-
  What is known of a list of bodies that a law is given. No condition.
-/
import Derived.Test.YtjljdnkedbejaaaAreS
namespace Go.Proofs.Ytjljdnkedbejaaa
open Go.RowKit

/-- What is known of a list that a law is given. -/
def GoodBd (w : World) (a : Option Addr) (n : Nat) (f : Nat → Nat) : Prop := (∀ i, i < 7 * n → f i < 2 ^ 32) ∧ n ≤ maxLen ∧ RowBd w a n f

end Go.Proofs.Ytjljdnkedbejaaa
