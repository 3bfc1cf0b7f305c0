/-
  The comparison of two results of 64 bits says yes where both stand for the same value. No condition.
-/
import Derived.Test.YtjljdnkedbejaaaOps
namespace Go.Proofs.Ytjljdnkedbejaaa
open Go.RowKit

/-- The comparison of two results says yes where both stand for one value. -/
theorem sameFloat_any {a b : Nat} {v : Option Nat} (ia : Is .f64 a v) (ib : Is .f64 b v) (w : World) :
    Calls Try.prog 36 #[.float .f64 a, .float .f64 b] w (RetV (.bool true) w) := by
  have hn := neq_of ia
  cases v with
  | none =>
    go_enter Try.func36, Try.ntmps36
    go_wp2_with (first | (apply wpList_cmp; rfl; simp [Cmp]; rfl; rfl; (first | assumption | exact is_lit64 _ (by decide) | exact is_lit32 _ (by decide)); (first | assumption | exact is_lit64 _ (by decide) | exact is_lit32 _ (by decide)); intro Kq hKq; go_simp) | (apply wpList_arith; rfl; simp [Arith]; rfl; rfl; (first | assumption | exact is_lit64 _ (by decide) | exact is_lit32 _ (by decide)); (first | assumption | exact is_lit64 _ (by decide) | exact is_lit32 _ (by decide)); intro Kq hKq rq nq hq; go_simp))
    go_ret
    exact RetV.mk0
  | some y =>
    have he := eql_self ia
    cases hz : cmpB .eql .f64 (some y) (some 0) with
    | true =>
      go_enter Try.func36, Try.ntmps36
      go_wp2_with (first | (apply wpList_cmp; rfl; simp [Cmp]; rfl; rfl; (first | assumption | exact is_lit64 _ (by decide) | exact is_lit32 _ (by decide)); (first | assumption | exact is_lit64 _ (by decide) | exact is_lit32 _ (by decide)); intro Kq hKq; go_simp) | (apply wpList_arith; rfl; simp [Arith]; rfl; rfl; (first | assumption | exact is_lit64 _ (by decide) | exact is_lit32 _ (by decide)); (first | assumption | exact is_lit64 _ (by decide) | exact is_lit32 _ (by decide)); intro Kq hKq rq nq hq; go_simp))
      go_ret
      exact RetV.eq _ (by simp)
    | false =>
      go_enter Try.func36, Try.ntmps36
      go_wp2_with (first | (apply wpList_cmp; rfl; simp [Cmp]; rfl; rfl; (first | assumption | exact is_lit64 _ (by decide) | exact is_lit32 _ (by decide)); (first | assumption | exact is_lit64 _ (by decide) | exact is_lit32 _ (by decide)); intro Kq hKq; go_simp) | (apply wpList_arith; rfl; simp [Arith]; rfl; rfl; (first | assumption | exact is_lit64 _ (by decide) | exact is_lit32 _ (by decide)); (first | assumption | exact is_lit64 _ (by decide) | exact is_lit32 _ (by decide)); intro Kq hKq rq nq hq; go_simp))
      go_ret
      exact RetV.mk0
end Go.Proofs.Ytjljdnkedbejaaa
