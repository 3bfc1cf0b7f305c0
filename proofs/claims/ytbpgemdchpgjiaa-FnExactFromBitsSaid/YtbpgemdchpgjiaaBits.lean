/-
  What the functions on the bits of a number give, of the program and of the model: the number with some bits, sameness, being finite. No condition.
-/
import Derived.Test.YtbpgemdchpgjiaaSame
namespace Go.Proofs.Ytbpgemdchpgjiaa
open Go.RowKit

theorem specBitsOf_any {x : Nat} {v : Option Nat} (ix : Is .f32 x v) (w : World) :
    Calls Try.prog 11 #[.float .f32 x] w (RetV (.int .i64 (bitsI v)) w) := by
  go_enter Try.func11, Try.ntmps11
  go_wp2_with (go_at_call 19; refine (l01Bits_any (by assumption) _).mono ?_; rintro eq wq ⟨nq, rfl, rfl⟩)
  go_ret
  exact RetV.mk _

/-- Two numbers are the same. -/
def sameB (a b : Option Nat) : Bool := bitsI a == bitsI b

theorem l01Same_any {x y : Nat} {a b : Option Nat} (ix : Is .f32 x a) (iy : Is .f32 y b) (w : World) :
    Calls Try.prog 16 #[.float .f32 x, .float .f32 y] w (RetV (.bool (sameB a b)) w) := by
  go_enter Try.func16, Try.ntmps16
  go_wp2_with (go_at_call 19; refine (l01Bits_any (by assumption) _).mono ?_; rintro eq wq ⟨nq, rfl, rfl⟩)
  go_ret
  exact RetV.eq _ rfl

theorem specSame_any {x y : Nat} {a b : Option Nat} (ix : Is .f32 x a) (iy : Is .f32 y b) (w : World) :
    Calls Try.prog 7 #[.float .f32 x, .float .f32 y] w (RetV (.bool (sameB a b)) w) := by
  go_enter Try.func7, Try.ntmps7
  go_wp2_with (go_at_call 16; refine (l01Same_any (by assumption) (by assumption) _).mono ?_; rintro eq wq ⟨nq, rfl, rfl⟩)
  go_ret
  exact RetV.eq _ rfl

theorem same_any {x y : Nat} {a b : Option Nat} (ix : Is .f32 x a) (iy : Is .f32 y b) (w : World) :
    Calls Try.prog 8 #[.float .f32 x, .float .f32 y] w (RetV (.bool (sameB a b)) w) := by
  go_enter Try.func8, Try.ntmps8
  go_wp2_with (go_at_call 12; refine (bitsOf_any (by assumption) _).mono ?_; rintro eq wq ⟨nq, rfl, rfl⟩)
  go_ret
  exact RetV.eq _ rfl

theorem walk_FnExactBitsOf (x : Nat) (w : World) (hx : x < 2 ^ 32) :
    Calls Try.prog 5 #[.float .f32 x] w fun e w' => e = .returned (.bool true) ∧ Below w.heap.size w w' := by
  have ix : Is .f32 x (nrm .f32 x) := Is.self hx
  go_enter Try.func5, Try.ntmps5
  go_wp2_with (first | (go_at_call 11; refine (specBitsOf_any (by assumption) _).mono ?_; rintro eq wq ⟨nq, rfl, rfl⟩) | (go_at_call 12; refine (bitsOf_any (by assumption) _).mono ?_; rintro eq wq ⟨nq, rfl, rfl⟩))
  go_ret
  exact ⟨rfl, below_drewN (Below.refl _ _) _⟩

theorem walk_FnExactSameNumber (x y : Nat) (w : World) (hx : x < 2 ^ 32) (hy : y < 2 ^ 32) :
    Calls Try.prog 3 #[.float .f32 x, .float .f32 y] w fun e w' => e = .returned (.bool true) ∧ Below w.heap.size w w' := by
  have ix : Is .f32 x (nrm .f32 x) := Is.self hx
  have iy : Is .f32 y (nrm .f32 y) := Is.self hy
  go_enter Try.func3, Try.ntmps3
  go_wp2_with (first | (go_at_call 7; refine (specSame_any ix iy _).mono ?_; rintro eq wq ⟨nq, rfl, rfl⟩) | (go_at_call 8; refine (same_any ix iy _).mono ?_; rintro eq wq ⟨nq, rfl, rfl⟩))
  go_ret
  exact ⟨rfl, below_drewN (Below.refl _ _) _⟩
end Go.Proofs.Ytbpgemdchpgjiaa
