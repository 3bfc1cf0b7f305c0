/-
  Numbers that are parts of a turn, Rounds and phases of branches, of the program. No condition.
-/
import Derived.Test.YtbcbaejfafamjaaDoorPart0
namespace Go.Proofs.YtbcbaejfafamjaaDoor
open Go.RowKit

theorem iPart {x : Nat} {v : Option Nat} (ix : Is .f32 x v) (w : World) :
    Calls Tryd.prog 75 #[.float .f32 x] w (RetV (.bool (partB v)) w) := by
  unfold partB
  cases hA : cmpB .geq .f32 v (some 0) <;> (go_enter Tryd.func75, Tryd.ntmps75; go_wp2_with (apply wpList_cmp; rfl; simp [Cmp]; rfl; rfl; (first | assumption | exact is_lit64 _ (by decide) | exact is_lit32 _ (by decide)); (first | assumption | exact is_lit64 _ (by decide) | exact is_lit32 _ (by decide)); intro Kq hKq; go_simp); go_ret; first | exact ⟨0, rfl, rfl⟩ | exact RetV.mk _)

theorem iBraR {x : Nat} {v : Option Nat} (ix : Is .f32 x v) (w : World) :
    Calls Tryd.prog 96 #[.float .f32 x] w (RetV (.bool (brR v)) w) := by
  unfold brR
  cases hA : cmpB .gtr .f32 v (some 1065353216) <;> (go_enter Tryd.func96, Tryd.ntmps96; go_wp2_with (first | (apply wpList_cmp; rfl; simp [Cmp]; rfl; rfl; (first | assumption | exact is_lit64 _ (by decide) | exact is_lit32 _ (by decide)); (first | assumption | exact is_lit64 _ (by decide) | exact is_lit32 _ (by decide)); intro Kq hKq; go_simp) | (go_at_call 73; refine (sFinite (by assumption) _).mono ?_; rintro eq wq ⟨nq, rfl, rfl⟩)); go_ret; first | exact ⟨0, rfl, rfl⟩ | exact RetV.mk _)

theorem iBraP {x : Nat} {v : Option Nat} (ix : Is .f32 x v) (w : World) :
    Calls Tryd.prog 97 #[.float .f32 x] w (RetV (.bool (brP v)) w) := by
  unfold brP
  cases hA : cmpB .geq .f32 v (some 3246391296) <;> (go_enter Tryd.func97, Tryd.ntmps97; go_wp2_with (apply wpList_cmp; rfl; simp [Cmp]; rfl; rfl; (first | assumption | exact is_lit64 _ (by decide) | exact is_lit32 _ (by decide)); (first | assumption | exact is_lit64 _ (by decide) | exact is_lit32 _ (by decide)); intro Kq hKq; go_simp); go_ret; first | exact ⟨0, rfl, rfl⟩ | exact RetV.mk _)

end Go.Proofs.YtbcbaejfafamjaaDoor
