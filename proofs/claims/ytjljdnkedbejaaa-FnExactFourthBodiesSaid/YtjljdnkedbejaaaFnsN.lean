/-
  Whether a 64-bit number is none, of the library. No condition.
-/
import Derived.Test.YtjljdnkedbejaaaOps
namespace Go.Proofs.Ytjljdnkedbejaaa
open Go.RowKit

theorem isNaN_any {x : Nat} {v : Option Nat} (ix : Is .f64 x v) (w : World) :
    Calls Try.prog 60 #[.float .f64 x] w (RetV (.bool (cmpB .neq .f64 v v)) w) := by
  go_enter Try.func60, Try.ntmps60
  go_wp2_with (apply wpList_cmp; rfl; simp [Cmp]; rfl; rfl; (first | assumption | exact is_lit64 _ (by decide) | exact is_lit32 _ (by decide)); (first | assumption | exact is_lit64 _ (by decide) | exact is_lit32 _ (by decide)); intro Kq hKq; go_simp)
  go_ret
  exact RetV.mk0

end Go.Proofs.Ytjljdnkedbejaaa
