/-
  Turned vectors, and sines of 32-bit numbers, of the program and of the model. No condition.
-/
import Derived.Test.YtfcfejniodbbdaaTo
import Derived.Test.YtfcfejniodbbdaaSinP
namespace Go.Proofs.Ytfcfejniodbbdaa
open Go.RowKit

/-- The first two parts of a turned vector. -/
def tnX (c s x y : Option Nat) : Option Nat := fo .sub .f32 (fo .mul .f32 c x) (fo .mul .f32 s y)
def tnY (c s x y : Option Nat) : Option Nat := fo .add .f32 (fo .mul .f32 s x) (fo .mul .f32 c y)

theorem iTv {a0 a1 a2 b d : Nat} {x0 x1 x2 c s : Option Nat} (h0 : Is .f32 a0 x0) (h1 : Is .f32 a1 x1) (h2 : Is .f32 a2 x2) (gc : Is .f32 b c) (gs : Is .f32 d s) (w : World) :
    Calls Try.prog 22 #[vecV a0 a1 a2, .float .f32 b, .float .f32 d] w (RetVec 2 (tnX c s x0 x1) (tnY c s x0 x1) x2 w) := by
  have hst := run_store_float Try.prog
  go_enter Try.func22, Try.ntmps22
  go_wp2_with (apply wpList_arith; rfl; simp [Arith]; rfl; rfl; (first | assumption | exact is_lit64 _ (by decide) | exact is_lit32 _ (by decide)); (first | assumption | exact is_lit64 _ (by decide) | exact is_lit32 _ (by decide)); intro Kq hKq rq nq hq; go_simp)
  refine bodyPost_ret (v := vecV _ _ _) (by simp [results, Try.results22, go_sem]; exact ⟨rfl, rfl, rfl⟩) rfl ⟨_, _, _, rfl, by assumption, by assumption, by assumption, ?_, by simp [*]⟩
  repeat' (first | with_reducible exact Below.refl _ _ | with_reducible assumption | (with_reducible refine Below.setCell ?_ (by first | omega | (simp; done) | (simp; omega)) _) | (with_reducible refine Below.alloc ?_ (by first | omega | (simp; done) | (simp; omega)) _) | (with_reducible refine below_drewN ?_ _) | (with_reducible refine Below.drew ?_) | (with_reducible refine Below.trans ?_ (Below.mono (by first | (with_reducible assumption) | exact Grow.below (by assumption)) (by first | omega | (simp; done) | (simp; omega)))))

theorem sTv {a0 a1 a2 b d : Nat} {x0 x1 x2 c s : Option Nat} (h0 : Is .f32 a0 x0) (h1 : Is .f32 a1 x1) (h2 : Is .f32 a2 x2) (gc : Is .f32 b c) (gs : Is .f32 d s) (w : World) :
    Calls Try.prog 15 #[vecV a0 a1 a2, .float .f32 b, .float .f32 d] w (RetVec 2 (tnX c s x0 x1) (tnY c s x0 x1) x2 w) := by
  have hst := run_store_float Try.prog
  go_enter Try.func15, Try.ntmps15
  go_wp2_with (apply wpList_arith; rfl; simp [Arith]; rfl; rfl; (first | assumption | exact is_lit64 _ (by decide) | exact is_lit32 _ (by decide)); (first | assumption | exact is_lit64 _ (by decide) | exact is_lit32 _ (by decide)); intro Kq hKq rq nq hq; go_simp)
  refine bodyPost_ret (v := vecV _ _ _) (by simp [results, Try.results15, go_sem]; exact ⟨rfl, rfl, rfl⟩) rfl ⟨_, _, _, rfl, by assumption, by assumption, by assumption, ?_, by simp [*]⟩
  repeat' (first | with_reducible exact Below.refl _ _ | with_reducible assumption | (with_reducible refine Below.setCell ?_ (by first | omega | (simp; done) | (simp; omega)) _) | (with_reducible refine Below.alloc ?_ (by first | omega | (simp; done) | (simp; omega)) _) | (with_reducible refine below_drewN ?_ _) | (with_reducible refine Below.drew ?_) | (with_reducible refine Below.trans ?_ (Below.mono (by first | (with_reducible assumption) | exact Grow.below (by assumption)) (by first | omega | (simp; done) | (simp; omega)))))

/-- The sine of a 32-bit number of turns. -/
def sinT (v : Option Nat) : Option Nat := cv .f64 .f32 (sinP (cv .f32 .f64 v))

theorem iSinT {x : Nat} {v : Option Nat} (ix : Is .f32 x v) (w : World) :
    Calls Try.prog 19 #[.float .f32 x] w (RetF .f32 (sinT v) w) := by
  have key : ∀ {y : Nat}, Is .f64 y (cv .f32 .f64 v) → Fit .f64 .f32 (sinP (cv .f32 .f64 v)) := fun iy => fit_le (le_sinP iy) (by decide)
  go_enter Try.func19, Try.ntmps19
  go_wp2_with (first | (apply wpList_wide und32 Try.underlying52; rfl; rfl; (first | assumption | exact is_lit64 _ (by decide) | exact is_lit32 _ (by decide)); intro Kq hKq rq nq hq; go_simp) | (apply wpList_cv .f64 .f32 (by decide) und64 Try.underlying23; rfl; rfl; (first | assumption | exact is_lit64 _ (by decide) | exact is_lit32 _ (by decide)); exact key (by assumption); intro Kq hKq rq nq hq; go_simp) | (go_at_call 29; refine (sineP_any (by assumption) _).mono ?_; rintro eq wq ⟨rq, nq, rfl, hq, rfl⟩))
  go_ret
  exact ⟨_, _, rfl, by assumption, rfl⟩

theorem sSinT {x : Nat} {v : Option Nat} (ix : Is .f32 x v) (w : World) :
    Calls Try.prog 13 #[.float .f32 x] w (RetF .f32 (sinT v) w) := by
  have key : ∀ {y : Nat}, Is .f64 y (cv .f32 .f64 v) → Fit .f64 .f32 (sinP (cv .f32 .f64 v)) := fun iy => fit_le (le_sinP iy) (by decide)
  go_enter Try.func13, Try.ntmps13
  go_wp2_with (first | (apply wpList_wide und32 Try.underlying52; rfl; rfl; (first | assumption | exact is_lit64 _ (by decide) | exact is_lit32 _ (by decide)); intro Kq hKq rq nq hq; go_simp) | (go_at_call 25; refine (narrow_any (by assumption) (key (by assumption)) _).mono ?_; rintro eq wq ⟨rq, nq, rfl, hq, rfl⟩) | (go_at_call 26; refine (specSineP_any (by assumption) _).mono ?_; rintro eq wq ⟨rq, nq, rfl, hq, rfl⟩))
  go_ret
  exact ⟨_, _, rfl, by assumption, rfl⟩
end Go.Proofs.Ytfcfejniodbbdaa
