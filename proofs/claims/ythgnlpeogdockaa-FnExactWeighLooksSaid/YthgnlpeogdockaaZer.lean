/-
  Whether a number is finite and at least 0, of the program and of the model. No condition.
-/
import Derived.Test.YthgnlpeogdockaaPos
namespace Go.Proofs.Ythgnlpeogdockaa
open Go.RowKit

theorem sZer {x : Nat} {v : Option Nat} (ix : Is .f32 x v) (w : World) :
    Calls Try.prog 55 #[.float .f32 x] w (RetV (.bool (zerB v)) w) := by
  unfold zerB
  cases hA : finS v <;> (go_enter Try.func55, Try.ntmps55; go_wp2_with (first | (apply wpList_cmp; rfl; simp [Cmp]; rfl; rfl; (first | assumption | exact is_lit64 _ (by decide) | exact is_lit32 _ (by decide)); (first | assumption | exact is_lit64 _ (by decide) | exact is_lit32 _ (by decide)); intro Kq hKq; go_simp) | (go_at_call 72; refine (finite_any (by assumption) _).mono ?_; rintro eq wq ⟨nq, rfl, rfl⟩)); go_ret; first | exact ⟨0, rfl, rfl⟩ | exact RetV.mk _)

theorem iZer {x : Nat} {v : Option Nat} (ix : Is .f32 x v) (w : World) :
    Calls Try.prog 56 #[.float .f32 x] w (RetV (.bool (zerB v)) w) := by
  have hl : zerB v = (cmpB .geq .f32 v (some 0) && finS v) := Bool.and_comm ..
  rw [hl]
  cases hg : cmpB .geq .f32 v (some 0) <;> (go_enter Try.func56, Try.ntmps56; go_wp2_with (first | (apply wpList_cmp; rfl; simp [Cmp]; rfl; rfl; (first | assumption | exact is_lit64 _ (by decide) | exact is_lit32 _ (by decide)); (first | assumption | exact is_lit64 _ (by decide) | exact is_lit32 _ (by decide)); intro Kq hKq; go_simp) | (go_at_call 73; refine (sFinite (by assumption) _).mono ?_; rintro eq wq ⟨nq, rfl, rfl⟩)); go_ret; first | exact ⟨0, rfl, rfl⟩ | exact RetV.mk _)
end Go.Proofs.Ythgnlpeogdockaa
