/-
  Whether two numbers are the same, as the model tells. No condition.
-/
import Derived.Test.YthgnlpeogdockaaMem
import Derived.Test.YthgnlpeogdockaaFns1
namespace Go.Proofs.Ythgnlpeogdockaa
open Go.RowKit

/-- Two numbers are the same. -/
def sameV (a b : Option Nat) : Bool := bitsI a == bitsI b

theorem same1_any {x y : Nat} {a b : Option Nat} (ix : Is .f32 x a) (iy : Is .f32 y b) (w : World) :
    Calls Try.prog 39 #[.float .f32 x, .float .f32 y] w (RetV (.bool (sameV a b)) w) := by
  go_enter Try.func39, Try.ntmps39
  go_wp2_with (go_at_call 63; refine (l01Bits_any (by assumption) _).mono ?_; rintro eq wq ⟨nq, rfl, rfl⟩)
  go_ret
  exact RetV.eq _ rfl
end Go.Proofs.Ythgnlpeogdockaa
