/-
  Whether a number is none, and the bits of a number, of the program. No condition.
-/
import Derived.Test.YtbcbaejfafamjaaDoorBitsS
import Derived.Test.YtbcbaejfafamjaaDoorFnsN
namespace Go.Proofs.YtbcbaejfafamjaaDoor
open Go.RowKit

theorem bitsOf_any {x : Nat} {v : Option Nat} (ix : Is .f32 x v) (w : World) :
    Calls Tryd.prog 68 #[.float .f32 x] w (RetV (.int .i64 (bitsI v)) w) := by
  have hb := f32bits
  have hx : (x : Int) < 4294967296 := bits_wrap ix.2
  have hc := cv_neq ix
  cases v with
  | none =>
    go_enter Tryd.func68, Tryd.ntmps68
    go_wp2_with (first | (apply wpList_wide und32 Tryd.underlying54; rfl; rfl; (first | assumption | exact is_lit64 _ (by decide) | exact is_lit32 _ (by decide)); intro Kq hKq rq nq hq; go_simp) | (go_at_call 86; refine (isNaN_any (by assumption) _).mono ?_; rintro eq wq ⟨nq, rfl, rfl⟩))
    go_ret
    exact RetV.mk _
  | some y =>
    obtain rfl := ix.notNaN
    go_enter Tryd.func68, Tryd.ntmps68
    go_wp2_with (first | (apply wpList_wide und32 Tryd.underlying54; rfl; rfl; (first | assumption | exact is_lit64 _ (by decide) | exact is_lit32 _ (by decide)); intro Kq hKq rq nq hq; go_simp) | (go_at_call 86; refine (isNaN_any (by assumption) _).mono ?_; rintro eq wq ⟨nq, rfl, rfl⟩))
    go_ret
    exact RetV.mk _
end Go.Proofs.YtbcbaejfafamjaaDoor
