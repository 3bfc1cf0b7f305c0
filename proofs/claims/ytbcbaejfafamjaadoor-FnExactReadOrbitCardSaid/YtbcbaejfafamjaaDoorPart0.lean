/-
  Numbers that are parts of a turn, and Rounds of ellipses, of the program and of the model. No condition.
-/
import Derived.Test.YtbcbaejfafamjaaDoorSFn
namespace Go.Proofs.YtbcbaejfafamjaaDoor
open Go.RowKit

/-- At least 0 and less than 1. -/
def partB (v : Option Nat) : Bool := cmpB .geq .f32 v (some 0) && cmpB .lss .f32 v (some 1065353216)
/-- Greater than 1 and finite. -/
def brR (v : Option Nat) : Bool := cmpB .gtr .f32 v (some 1065353216) && finS v
/-- From -16 to 16. -/
def brP (v : Option Nat) : Bool := cmpB .geq .f32 v (some 3246391296) && cmpB .leq .f32 v (some 1098907648)
theorem sPart {x : Nat} {v : Option Nat} (ix : Is .f32 x v) (w : World) :
    Calls Tryd.prog 94 #[.float .f32 x] w (RetV (.bool (partB v)) w) := by
  unfold partB
  cases hA : cmpB .geq .f32 v (some 0) <;> (go_enter Tryd.func94, Tryd.ntmps94; go_wp2_with (apply wpList_cmp; rfl; simp [Cmp]; rfl; rfl; (first | assumption | exact is_lit64 _ (by decide) | exact is_lit32 _ (by decide)); (first | assumption | exact is_lit64 _ (by decide) | exact is_lit32 _ (by decide)); intro Kq hKq; go_simp); go_ret; first | exact ⟨0, rfl, rfl⟩ | exact RetV.mk _)

theorem iEllR {x : Nat} {v : Option Nat} (ix : Is .f32 x v) (w : World) :
    Calls Tryd.prog 95 #[.float .f32 x] w (RetV (.bool (partB v)) w) := by
  unfold partB
  cases hA : cmpB .geq .f32 v (some 0) <;> (go_enter Tryd.func95, Tryd.ntmps95; go_wp2_with (apply wpList_cmp; rfl; simp [Cmp]; rfl; rfl; (first | assumption | exact is_lit64 _ (by decide) | exact is_lit32 _ (by decide)); (first | assumption | exact is_lit64 _ (by decide) | exact is_lit32 _ (by decide)); intro Kq hKq; go_simp); go_ret; first | exact ⟨0, rfl, rfl⟩ | exact RetV.mk _)

/-- A number that is at least 0 and less than 1 is finite. -/
theorem part_fin {x : Nat} {v : Option Nat} (ix : Is .f32 x v) (h : finS v = false) : partB v = false := by
  rcases fin_cases ix with h' | rfl | ⟨s, rfl, hs⟩
  · rw [h'] at h; cases h
  · rfl
  · have r0 : FloatKind.f32.format.read 0 = .number false 0 (-149) := by rfl
    have r1 : FloatKind.f32.format.read 1065353216 = .number false 8388608 (-23) := by rfl
    unfold FloatKind.decode at hs
    have o0 : ordO .f32 (some x) (some 0) = (if s then some .lt else some .gt) := by
      simp only [ordO, Option.bind_some, Ieee.Format.order, hs, r0]
      cases s <;> rfl
    have o1 : ordO .f32 (some x) (some 1065353216) = (if s then some .lt else some .gt) := by
      simp only [ordO, Option.bind_some, Ieee.Format.order, hs, r1]
      cases s <;> rfl
    unfold partB cmpB
    simp only [o0, o1]
    cases s <;> rfl
end Go.Proofs.YtbcbaejfafamjaaDoor
