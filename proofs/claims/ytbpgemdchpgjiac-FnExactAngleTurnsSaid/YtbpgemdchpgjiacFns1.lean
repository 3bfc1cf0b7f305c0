/-
  Whether a number is none, and the bits of a number, of the program. No condition.
-/
import Derived.Test.YtbpgemdchpgjiacBitsS
namespace Go.Proofs.Ytbpgemdchpgjiac
open Go.RowKit

theorem isNaN_any {x : Nat} {v : Option Nat} (ix : Is .f64 x v) (w : World) :
    Calls Try.prog 61 #[.float .f64 x] w (RetV (.bool (cmpB .neq .f64 v v)) w) := by
  go_enter Try.func61, Try.ntmps61
  go_wp2_with (apply wpList_cmp; rfl; simp [Cmp]; rfl; rfl; (first | assumption | exact is_lit64 _ (by decide) | exact is_lit32 _ (by decide)); (first | assumption | exact is_lit64 _ (by decide) | exact is_lit32 _ (by decide)); intro Kq hKq; go_simp)
  go_ret
  exact RetV.mk0

theorem bitsOf_any {x : Nat} {v : Option Nat} (ix : Is .f32 x v) (w : World) :
    Calls Try.prog 53 #[.float .f32 x] w (RetV (.int .i64 (bitsI v)) w) := by
  have hb := f32bits
  have hx : (x : Int) < 4294967296 := bits_wrap ix.2
  have hc := cv_neq ix
  cases v with
  | none =>
    go_enter Try.func53, Try.ntmps53
    go_wp2_with (first | (apply wpList_wide und32 Try.underlying29; rfl; rfl; (first | assumption | exact is_lit64 _ (by decide) | exact is_lit32 _ (by decide)); intro Kq hKq rq nq hq; go_simp) | (go_at_call 61; refine (isNaN_any (by assumption) _).mono ?_; rintro eq wq ⟨nq, rfl, rfl⟩))
    go_ret
    exact RetV.mk _
  | some y =>
    obtain rfl := ix.notNaN
    go_enter Try.func53, Try.ntmps53
    go_wp2_with (first | (apply wpList_wide und32 Try.underlying29; rfl; rfl; (first | assumption | exact is_lit64 _ (by decide) | exact is_lit32 _ (by decide)); intro Kq hKq rq nq hq; go_simp) | (go_at_call 61; refine (isNaN_any (by assumption) _).mono ?_; rintro eq wq ⟨nq, rfl, rfl⟩))
    go_ret
    exact RetV.mk _
end Go.Proofs.Ytbpgemdchpgjiac
