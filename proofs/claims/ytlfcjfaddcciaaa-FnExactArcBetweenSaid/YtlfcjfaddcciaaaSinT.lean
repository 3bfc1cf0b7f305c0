/-
  The sine of a 32-bit number of turns, of the program and of the model. No condition.
-/
import Derived.Test.YtlfcjfaddcciaaaSinP
namespace Go.Proofs.Ytlfcjfaddcciaaa
open Go.RowKit

/-- The sine of a 32-bit number of turns. -/
def sinT (v : Option Nat) : Option Nat := cv .f64 .f32 (sinP (cv .f32 .f64 v))
/-- The cosine of it. -/
def cosT (v : Option Nat) : Option Nat := sinT (fo .add .f32 v (some 1048576000))

theorem iSinT {x : Nat} {v : Option Nat} (ix : Is .f32 x v) (w : World) :
    Calls Try.prog 44 #[.float .f32 x] w (RetF .f32 (sinT v) w) := by
  have key : ∀ {y : Nat}, Is .f64 y (cv .f32 .f64 v) → Fit .f64 .f32 (sinP (cv .f32 .f64 v)) := fun iy => fit_le (le_sinP iy) (by decide)
  unfold sinT
  go_enter Try.func44, Try.ntmps44
  go_wp2_with (first | (apply wpList_wide und32 Try.underlying42; rfl; rfl; (first | assumption | exact is_lit64 _ (by decide) | exact is_lit32 _ (by decide)); intro Kq hKq rq nq hq; go_simp) | (apply wpList_cv .f64 .f32 (by decide) und64 Try.underlying22; rfl; rfl; assumption; exact key (by assumption); intro Kq hKq rq nq hq; go_simp) | (go_at_call 82; refine (sineP_any (by assumption) _).mono ?_; rintro eq wq ⟨rq, nq, rfl, hq, rfl⟩))
  go_ret
  exact ⟨_, _, rfl, by assumption, rfl⟩

theorem sSinT {x : Nat} {v : Option Nat} (ix : Is .f32 x v) (w : World) :
    Calls Try.prog 78 #[.float .f32 x] w (RetF .f32 (sinT v) w) := by
  have key : ∀ {y : Nat}, Is .f64 y (cv .f32 .f64 v) → Fit .f64 .f32 (sinP (cv .f32 .f64 v)) := fun iy => fit_le (le_sinP iy) (by decide)
  unfold sinT
  go_enter Try.func78, Try.ntmps78
  go_wp2_with (first | (apply wpList_wide und32 Try.underlying42; rfl; rfl; (first | assumption | exact is_lit64 _ (by decide) | exact is_lit32 _ (by decide)); intro Kq hKq rq nq hq; go_simp) | (go_at_call 84; refine (narrow_any (by assumption) (key (by assumption)) _).mono ?_; rintro eq wq ⟨rq, nq, rfl, hq, rfl⟩) | (go_at_call 96; refine (specSineP_any (by assumption) _).mono ?_; rintro eq wq ⟨rq, nq, rfl, hq, rfl⟩))
  go_ret
  exact ⟨_, _, rfl, by assumption, rfl⟩

theorem q32 : Is .f32 1048576000 (some 1048576000) := is_lit32 _ (by decide)

theorem iCosT {x : Nat} {v : Option Nat} (ix : Is .f32 x v) (w : World) :
    Calls Try.prog 41 #[.float .f32 x] w (RetF .f32 (cosT v) w) := by
  unfold cosT
  go_enter Try.func41, Try.ntmps41
  go_wp2_with (first | (apply wpList_arith; rfl; simp [Arith]; rfl; rfl; (first | assumption | exact is_lit64 _ (by decide) | exact is_lit32 _ (by decide)); (first | assumption | exact is_lit64 _ (by decide) | exact is_lit32 _ (by decide)); intro Kq hKq rq nq hq; go_simp) | (go_at_call 44; refine (iSinT (by assumption) _).mono ?_; rintro eq wq ⟨rq, nq, rfl, hq, rfl⟩))
  go_ret
  exact ⟨_, _, rfl, by assumption, rfl⟩

theorem sCosT {x : Nat} {v : Option Nat} (ix : Is .f32 x v) (w : World) :
    Calls Try.prog 71 #[.float .f32 x] w (RetF .f32 (cosT v) w) := by
  unfold cosT
  go_enter Try.func71, Try.ntmps71
  go_wp2_with (first | (apply wpList_arith; rfl; simp [Arith]; rfl; rfl; (first | assumption | exact is_lit64 _ (by decide) | exact is_lit32 _ (by decide)); (first | assumption | exact is_lit64 _ (by decide) | exact is_lit32 _ (by decide)); intro Kq hKq rq nq hq; go_simp) | (go_at_call 78; refine (sSinT (by assumption) _).mono ?_; rintro eq wq ⟨rq, nq, rfl, hq, rfl⟩))
  go_ret
  exact ⟨_, _, rfl, by assumption, rfl⟩
end Go.Proofs.Ytlfcjfaddcciaaa
