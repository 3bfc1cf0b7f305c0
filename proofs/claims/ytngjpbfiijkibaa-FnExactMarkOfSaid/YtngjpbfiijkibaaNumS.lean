/-
  Small functions on 64-bit numbers, of the library, of the program and of the model: narrowing, being finite. No condition.
-/
import Derived.Test.YtngjpbfiijkibaaNumT
import Derived.Test.YtngjpbfiijkibaaFnsN
namespace Go.Proofs.Ytngjpbfiijkibaa
open Go.RowKit

theorem narrow_any {x : Nat} {v : Option Nat} (ix : Is .f64 x v) (hf : Fit .f64 .f32 v) (w : World) :
    Calls Try.prog 65 #[.float .f64 x] w (RetF .f32 (cv .f64 .f32 v) w) := by
  go_enter Try.func65, Try.ntmps65
  go_wp2_with (apply wpList_cv .f64 .f32 (by decide) und64 Try.underlying22; rfl; rfl; (first | assumption | exact is_lit64 _ (by decide) | exact is_lit32 _ (by decide)); assumption; intro Kq hKq rq nq hq; go_simp)
  go_ret
  exact ⟨_, _, rfl, by assumption, rfl⟩

theorem isInf_any {x : Nat} {v : Option Nat} (ix : Is .f64 x v) (w : World) :
    Calls Try.prog 70 #[.float .f64 x, .int .i64 0] w (RetV (.bool (cmpB .gtr .f64 (absO v) (some 9218868437227405311))) w) := by
  go_enter Try.func70, Try.ntmps70
  go_wp2_with (first | (apply wpList_cmp; rfl; simp [Cmp]; rfl; rfl; (first | assumption | exact is_lit64 _ (by decide) | exact is_lit32 _ (by decide)); (first | assumption | exact is_lit64 _ (by decide) | exact is_lit32 _ (by decide)); intro Kq hKq; go_simp) | (go_at_call 72; refine (abs_any ix _).mono ?_; rintro eq wq ⟨rq, nq, rfl, hq, rfl⟩))
  go_ret
  exact RetV.mk _

theorem isFiniteWide_any {x : Nat} {v : Option Nat} (ix : Is .f64 x v) (w : World) :
    Calls Try.prog 53 #[.float .f64 x] w (RetV (.bool (finW v)) w) := by
  have hn := neq_of ix
  cases hv : v.isNone with
  | true =>
    rw [hv] at hn
    go_enter Try.func53, Try.ntmps53
    go_wp2_with (first | (go_at_call 69; refine (isNaN_any ix _).mono ?_; rintro eq wq ⟨nq, rfl, rfl⟩) | (go_at_call 70; refine (isInf_any ix _).mono ?_; rintro eq wq ⟨nq, rfl, rfl⟩))
    go_ret
    exact RetV.eq _ (by simp [finW, hn])
  | false =>
    rw [hv] at hn
    go_enter Try.func53, Try.ntmps53
    go_wp2_with (first | (go_at_call 69; refine (isNaN_any ix _).mono ?_; rintro eq wq ⟨nq, rfl, rfl⟩) | (go_at_call 70; refine (isInf_any ix _).mono ?_; rintro eq wq ⟨nq, rfl, rfl⟩))
    go_ret
    exact RetV.eq _ (by simp [finW, hn])

end Go.Proofs.Ytngjpbfiijkibaa
