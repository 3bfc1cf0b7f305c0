/-
  The angle of a point of 32-bit numbers, of the program and of the model. No condition.
-/
import Derived.Test.YtngjpbfiijkibaaAngS
namespace Go.Proofs.Ytngjpbfiijkibaa
open Go.RowKit

/-- The angle of a point of 32-bit numbers. -/
def angT (y x : Option Nat) : Option Nat := cv .f64 .f32 (angO (cv .f32 .f64 y) (cv .f32 .f64 x))

theorem sAngT {y x : Nat} {vy vx : Option Nat} (iy : Is .f32 y vy) (ix : Is .f32 x vx) (w : World) :
    Calls Try.prog 48 #[.float .f32 y, .float .f32 x] w (RetF .f32 (angT vy vx) w) := by
  have ny : finW (cv .f32 .f64 vy) = true → ∃ b s m e, cv .f32 .f64 vy = some b ∧ FloatKind.f64.decode b = .number s m e := fun h => by
    obtain ⟨b, s, m, e, h1, _, h2⟩ := fin_num iy h; exact ⟨b, s, m, e, h1, h2⟩
  have nx : finW (cv .f32 .f64 vx) = true → ∃ b s m e, cv .f32 .f64 vx = some b ∧ FloatKind.f64.decode b = .number s m e := fun h => by
    obtain ⟨b, s, m, e, h1, _, h2⟩ := fin_num ix h; exact ⟨b, s, m, e, h1, h2⟩
  have hf : Fit .f64 .f32 (angO (cv .f32 .f64 vy) (cv .f32 .f64 vx)) := fit_le (le_ang ny nx) (by decide)
  have fy := fin64 iy
  have fx := fin64 ix
  have HC := fun {a b : Nat} (ia : Is .f64 a (cv .f32 .f64 vy)) (ib : Is .f64 b (cv .f32 .f64 vx)) (w : World) => specAng ia ib ny nx fy fx w
  clear ny nx fy fx
  unfold angT
  go_enter Try.func48, Try.ntmps48
  go_wp2_with (first | (apply wpList_wide und32 Try.underlying40; rfl; rfl; (first | assumption | exact is_lit64 _ (by decide) | exact is_lit32 _ (by decide)); intro Kq hKq rq nq hq; go_simp) | (go_at_call 67; refine (HC (by assumption) (by assumption) _).mono ?_; rintro eq wq ⟨rq, nq, rfl, hq, rfl⟩) | (go_at_call 65; refine (narrow_any (by assumption) hf _).mono ?_; rintro eq wq ⟨rq, nq, rfl, hq, rfl⟩))
  go_ret
  exact ⟨_, _, rfl, by assumption, rfl⟩

theorem iAngT {y x : Nat} {vy vx : Option Nat} (iy : Is .f32 y vy) (ix : Is .f32 x vx) (w : World) :
    Calls Try.prog 28 #[.float .f32 y, .float .f32 x] w (RetF .f32 (angT vy vx) w) := by
  have ny : finW (cv .f32 .f64 vy) = true → ∃ b s m e, cv .f32 .f64 vy = some b ∧ FloatKind.f64.decode b = .number s m e := fun h => by
    obtain ⟨b, s, m, e, h1, _, h2⟩ := fin_num iy h; exact ⟨b, s, m, e, h1, h2⟩
  have nx : finW (cv .f32 .f64 vx) = true → ∃ b s m e, cv .f32 .f64 vx = some b ∧ FloatKind.f64.decode b = .number s m e := fun h => by
    obtain ⟨b, s, m, e, h1, _, h2⟩ := fin_num ix h; exact ⟨b, s, m, e, h1, h2⟩
  have hf : Fit .f64 .f32 (angO (cv .f32 .f64 vy) (cv .f32 .f64 vx)) := fit_le (le_ang ny nx) (by decide)
  have HC := fun {a b : Nat} (ia : Is .f64 a (cv .f32 .f64 vy)) (ib : Is .f64 b (cv .f32 .f64 vx)) (w : World) => implAng ia ib ny nx w
  clear ny nx
  unfold angT
  go_enter Try.func28, Try.ntmps28
  go_wp2_with (first | (apply wpList_wide und32 Try.underlying40; rfl; rfl; (first | assumption | exact is_lit64 _ (by decide) | exact is_lit32 _ (by decide)); intro Kq hKq rq nq hq; go_simp) | (apply wpList_cv .f64 .f32 (by decide) und64 Try.underlying22; rfl; rfl; (first | assumption | exact is_lit64 _ (by decide) | exact is_lit32 _ (by decide)); assumption; intro Kq hKq rq nq hq; go_simp) | (go_at_call 54; refine (HC (by assumption) (by assumption) _).mono ?_; rintro eq wq ⟨rq, nq, rfl, hq, rfl⟩))
  go_ret
  exact ⟨_, _, rfl, by assumption, rfl⟩
end Go.Proofs.Ytngjpbfiijkibaa
