/-
  Whether a number is finite and greater than 0, of the program and of the model. No condition.
-/
import Derived.Test.YtpdmmefhghfkgaaAre
namespace Go.Proofs.Ytpdmmefhghfkgaa
open Go.RowKit

/-- Whether a number is finite and greater than 0. -/
def aboveB (v : Option Nat) : Bool := finS v && cmpB .gtr .f32 v (some 0)

theorem sAbove {x : Nat} {v : Option Nat} (ix : Is .f32 x v) (w : World) :
    Calls Try.prog 15 #[.float .f32 x] w (RetV (.bool (aboveB v)) w) := by
  unfold aboveB
  cases hA : finS v <;> (go_enter Try.func15, Try.ntmps15; go_wp2_with (first | (apply wpList_cmp; rfl; simp [Cmp]; rfl; rfl; (first | assumption | exact is_lit64 _ (by decide) | exact is_lit32 _ (by decide)); (first | assumption | exact is_lit64 _ (by decide) | exact is_lit32 _ (by decide)); intro Kq hKq; go_simp) | (go_at_call 28; refine (finite_any (by assumption) _).mono ?_; rintro eq wq ⟨nq, rfl, rfl⟩)); go_ret; first | exact ⟨0, rfl, rfl⟩ | exact RetV.mk _)

theorem iAbove {x : Nat} {v : Option Nat} (ix : Is .f32 x v) (w : World) :
    Calls Try.prog 19 #[.float .f32 x] w (RetV (.bool (aboveB v)) w) := by
  have hl : aboveB v = (cmpB .gtr .f32 v (some 0) && finS v) := Bool.and_comm ..
  rw [hl]
  cases hg : cmpB .gtr .f32 v (some 0) <;> (go_enter Try.func19, Try.ntmps19; go_wp2_with (first | (apply wpList_cmp; rfl; simp [Cmp]; rfl; rfl; (first | assumption | exact is_lit64 _ (by decide) | exact is_lit32 _ (by decide)); (first | assumption | exact is_lit64 _ (by decide) | exact is_lit32 _ (by decide)); intro Kq hKq; go_simp) | (go_at_call 31; refine (sFinite (by assumption) _).mono ?_; rintro eq wq ⟨nq, rfl, rfl⟩)); go_ret; first | exact ⟨0, rfl, rfl⟩ | exact RetV.mk _)
end Go.Proofs.Ytpdmmefhghfkgaa
