/-
  Whether a number is finite and greater than 0, or at least 0, of the program and of the model. No condition.
-/
import Derived.Test.YtbcbaejfafamjaaDoorSFn
namespace Go.Proofs.YtbcbaejfafamjaaDoor
open Go.RowKit

/-- Whether a number is finite and greater than 0. -/
def posB (v : Option Nat) : Bool := finS v && cmpB .gtr .f32 v (some 0)
/-- Whether a number is finite and at least 0. -/
def zerB (v : Option Nat) : Bool := finS v && cmpB .geq .f32 v (some 0)

theorem sPos {x : Nat} {v : Option Nat} (ix : Is .f32 x v) (w : World) :
    Calls Tryd.prog 70 #[.float .f32 x] w (RetV (.bool (posB v)) w) := by
  unfold posB
  cases hA : finS v <;> (go_enter Tryd.func70, Tryd.ntmps70; go_wp2_with (first | (apply wpList_cmp; rfl; simp [Cmp]; rfl; rfl; (first | assumption | exact is_lit64 _ (by decide) | exact is_lit32 _ (by decide)); (first | assumption | exact is_lit64 _ (by decide) | exact is_lit32 _ (by decide)); intro Kq hKq; go_simp) | (go_at_call 71; refine (finite_any (by assumption) _).mono ?_; rintro eq wq ⟨nq, rfl, rfl⟩)); go_ret; first | exact ⟨0, rfl, rfl⟩ | exact RetV.mk _)

theorem iPos {x : Nat} {v : Option Nat} (ix : Is .f32 x v) (w : World) :
    Calls Tryd.prog 72 #[.float .f32 x] w (RetV (.bool (posB v)) w) := by
  have hl : posB v = (cmpB .gtr .f32 v (some 0) && finS v) := Bool.and_comm ..
  rw [hl]
  cases hg : cmpB .gtr .f32 v (some 0) <;> (go_enter Tryd.func72, Tryd.ntmps72; go_wp2_with (first | (apply wpList_cmp; rfl; simp [Cmp]; rfl; rfl; (first | assumption | exact is_lit64 _ (by decide) | exact is_lit32 _ (by decide)); (first | assumption | exact is_lit64 _ (by decide) | exact is_lit32 _ (by decide)); intro Kq hKq; go_simp) | (go_at_call 73; refine (sFinite (by assumption) _).mono ?_; rintro eq wq ⟨nq, rfl, rfl⟩)); go_ret; first | exact ⟨0, rfl, rfl⟩ | exact RetV.mk _)
end Go.Proofs.YtbcbaejfafamjaaDoor
