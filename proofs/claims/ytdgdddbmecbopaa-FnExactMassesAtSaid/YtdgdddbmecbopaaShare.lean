/-
  Whether a number is a share of masses, of the program and of the model. No condition.
-/
import Derived.Test.YtdgdddbmecbopaaSame
import Derived.Test.YtdgdddbmecbopaaNegT
namespace Go.Proofs.Ytdgdddbmecbopaa
open Go.RowKit

/-- Whether a number is a share. -/
def shareB (v : Option Nat) : Bool := cmpB .gtr .f32 v (some 0) && cmpB .leq .f32 v (some 1056964608)

theorem iShare {x : Nat} {v : Option Nat} (ix : Is .f32 x v) (w : World) : Calls Try.prog 6 #[.float .f32 x] w (RetV (.bool (shareB v)) w) := by
  unfold shareB
  go_enter Try.func6, Try.ntmps6
  go_wp2_with (apply wpList_cmp; rfl; simp [Cmp]; rfl; rfl; (first | assumption | exact is_lit64 _ (by decide) | exact is_lit32 _ (by decide)); (first | assumption | exact is_lit64 _ (by decide) | exact is_lit32 _ (by decide)); intro Kq hKq; go_simp)
  all_goals (go_ret; first | exact RetV.mk _ | exact RetV.eq 0 (by simp [*]) | exact RetV.mk0)

theorem sShare {x : Nat} {v : Option Nat} (ix : Is .f32 x v) (w : World) : Calls Try.prog 10 #[.float .f32 x] w (RetV (.bool (shareB v)) w) := by
  unfold shareB
  go_enter Try.func10, Try.ntmps10
  go_wp2_with (apply wpList_cmp; rfl; simp [Cmp]; rfl; rfl; (first | assumption | exact is_lit64 _ (by decide) | exact is_lit32 _ (by decide)); (first | assumption | exact is_lit64 _ (by decide) | exact is_lit32 _ (by decide)); intro Kq hKq; go_simp)
  all_goals (go_ret; first | exact RetV.mk _ | exact RetV.eq 0 (by simp [*]) | exact RetV.mk0)
end Go.Proofs.Ytdgdddbmecbopaa
