/-
  The angle of a point: for every two numbers the law's text returns true, and writes nothing that was there. No condition.
-/
import Derived.Test.YtbpgemdchpgjiacAngleY
import Derived.Test.YtbpgemdchpgjiacSame
namespace Go.Proofs.Ytbpgemdchpgjiac
open Go.RowKit

set_option maxHeartbeats 1600000 in
theorem specAng {y x : Nat} {vy vx : Option Nat} (iy : Is .f64 y vy) (ix : Is .f64 x vx) (hy : finW vy = true → ∃ b s m e, vy = some b ∧ FloatKind.f64.decode b = .number s m e) (hx : finW vx = true → ∃ b s m e, vx = some b ∧ FloatKind.f64.decode b = .number s m e)
    (fy : cmpB .neq .f64 (fo .sub .f64 vy vy) (some 0) = !finW vy) (fx : cmpB .neq .f64 (fo .sub .f64 vx vx) (some 0) = !finW vx) (w : World) :
    Calls Try.prog 68 #[.float .f64 y, .float .f64 x] w (RetF .f64 (angO vy vx) w) := by
  cases h1 : finW vy with
  | false =>
    have e : angO vy vx = none := by simp [angO, h1]
    rw [h1] at fy
    rw [e]
    go_enter Try.func68, Try.ntmps68
    go_wp2_with (first | (apply wpList_cmp; rfl; simp [Cmp]; rfl; rfl; (first | assumption | exact is_lit64 _ (by decide) | exact is_lit32 _ (by decide)); (first | assumption | exact is_lit64 _ (by decide) | exact is_lit32 _ (by decide)); intro Kq hKq; go_simp) | (apply wpList_arith; rfl; simp [Arith]; rfl; rfl; (first | assumption | exact is_lit64 _ (by decide) | exact is_lit32 _ (by decide)); (first | assumption | exact is_lit64 _ (by decide) | exact is_lit32 _ (by decide)); intro Kq hKq rq nq hq; go_simp) | (go_at_call 62; refine (nan_any _).mono ?_; rintro eq wq ⟨rq, nq, rfl, hq, rfl⟩))
    go_ret
    exact ⟨_, _, rfl, by assumption, rfl⟩
  | true =>
    rw [h1] at fy
    cases h2 : finW vx with
    | false =>
      have e : angO vy vx = none := by simp [angO, h1, h2]
      rw [h2] at fx
      rw [e]
      go_enter Try.func68, Try.ntmps68
      go_wp2_with (first | (apply wpList_cmp; rfl; simp [Cmp]; rfl; rfl; (first | assumption | exact is_lit64 _ (by decide) | exact is_lit32 _ (by decide)); (first | assumption | exact is_lit64 _ (by decide) | exact is_lit32 _ (by decide)); intro Kq hKq; go_simp) | (apply wpList_arith; rfl; simp [Arith]; rfl; rfl; (first | assumption | exact is_lit64 _ (by decide) | exact is_lit32 _ (by decide)); (first | assumption | exact is_lit64 _ (by decide) | exact is_lit32 _ (by decide)); intro Kq hKq rq nq hq; go_simp) | (go_at_call 62; refine (nan_any _).mono ?_; rintro eq wq ⟨rq, nq, rfl, hq, rfl⟩))
      go_ret
      exact ⟨_, _, rfl, by assumption, rfl⟩
    | true =>
      rw [h2] at fx
      cases hzy : cmpB .eql .f64 vy (some 0) <;> cases hzx : cmpB .eql .f64 vx (some 0)
      case true.true =>
        have e : angO vy vx = some 0 := by simp [angO, h1, h2, hzy, hzx]
        rw [e]
        go_enter Try.func68, Try.ntmps68
        go_wp2_with (first | (apply wpList_cmp; rfl; simp [Cmp]; rfl; rfl; (first | assumption | exact is_lit64 _ (by decide) | exact is_lit32 _ (by decide)); (first | assumption | exact is_lit64 _ (by decide) | exact is_lit32 _ (by decide)); intro Kq hKq; go_simp) | (apply wpList_arith; rfl; simp [Arith]; rfl; rfl; (first | assumption | exact is_lit64 _ (by decide) | exact is_lit32 _ (by decide)); (first | assumption | exact is_lit64 _ (by decide) | exact is_lit32 _ (by decide)); intro Kq hKq rq nq hq; go_simp))
        go_ret
        exact ⟨_, _, rfl, is_zero64, rfl⟩
      all_goals
        obtain ⟨b, s, m, e, rfl, hd⟩ := hy h1
        obtain ⟨c, t, n, j, rfl, hc⟩ := hx h2
        obtain rfl := iy.notNaN
        obtain rfl := ix.notNaN
        exact specMain iy ix (is_abs iy) (is_abs ix) (absN iy) (absN ix) h1 h2 fy fx hzy hzx rfl rfl rfl rfl w

theorem specAngle_any {y x : Nat} {vy vx : Option Nat} (iy : Is .f32 y vy) (ix : Is .f32 x vx) (w : World) :
    Calls Try.prog 23 #[.float .f32 y, .float .f32 x] w (RetF .f32 (cv .f64 .f32 (angO (cv .f32 .f64 vy) (cv .f32 .f64 vx))) w) := by
  have ny : finW (cv .f32 .f64 vy) = true → ∃ b s m e, cv .f32 .f64 vy = some b ∧ FloatKind.f64.decode b = .number s m e := fun h => by
    obtain ⟨b, s, m, e, h1, _, h2⟩ := fin_num iy h; exact ⟨b, s, m, e, h1, h2⟩
  have nx : finW (cv .f32 .f64 vx) = true → ∃ b s m e, cv .f32 .f64 vx = some b ∧ FloatKind.f64.decode b = .number s m e := fun h => by
    obtain ⟨b, s, m, e, h1, _, h2⟩ := fin_num ix h; exact ⟨b, s, m, e, h1, h2⟩
  have hf : Fit .f64 .f32 (angO (cv .f32 .f64 vy) (cv .f32 .f64 vx)) := fit_le (le_ang ny nx) (by decide)
  have fy := fin64 iy
  have fx := fin64 ix
  have HC := fun {a b : Nat} (ia : Is .f64 a (cv .f32 .f64 vy)) (ib : Is .f64 b (cv .f32 .f64 vx)) (w : World) => specAng ia ib ny nx fy fx w
  clear ny nx fy fx
  go_enter Try.func23, Try.ntmps23
  go_wp2_with (first | (apply wpList_wide und32 Try.underlying29; rfl; rfl; (first | assumption | exact is_lit64 _ (by decide) | exact is_lit32 _ (by decide)); intro Kq hKq rq nq hq; go_simp) | (go_at_call 68; refine (HC (by assumption) (by assumption) _).mono ?_; rintro eq wq ⟨rq, nq, rfl, hq, rfl⟩) | (go_at_call 56; refine (narrow_any (by assumption) hf _).mono ?_; rintro eq wq ⟨rq, nq, rfl, hq, rfl⟩) | go_in)
  go_ret
  exact ⟨_, _, rfl, by assumption, rfl⟩

theorem implAngle_any {y x : Nat} {vy vx : Option Nat} (iy : Is .f32 y vy) (ix : Is .f32 x vx) (w : World) :
    Calls Try.prog 24 #[.float .f32 y, .float .f32 x] w (RetF .f32 (cv .f64 .f32 (angO (cv .f32 .f64 vy) (cv .f32 .f64 vx))) w) := by
  have ny : finW (cv .f32 .f64 vy) = true → ∃ b s m e, cv .f32 .f64 vy = some b ∧ FloatKind.f64.decode b = .number s m e := fun h => by
    obtain ⟨b, s, m, e, h1, _, h2⟩ := fin_num iy h; exact ⟨b, s, m, e, h1, h2⟩
  have nx : finW (cv .f32 .f64 vx) = true → ∃ b s m e, cv .f32 .f64 vx = some b ∧ FloatKind.f64.decode b = .number s m e := fun h => by
    obtain ⟨b, s, m, e, h1, _, h2⟩ := fin_num ix h; exact ⟨b, s, m, e, h1, h2⟩
  have hf : Fit .f64 .f32 (angO (cv .f32 .f64 vy) (cv .f32 .f64 vx)) := fit_le (le_ang ny nx) (by decide)
  have HC := fun {a b : Nat} (ia : Is .f64 a (cv .f32 .f64 vy)) (ib : Is .f64 b (cv .f32 .f64 vx)) (w : World) => implAng ia ib ny nx w
  clear ny nx
  go_enter Try.func24, Try.ntmps24
  go_wp2_with (first | (apply wpList_wide und32 Try.underlying29; rfl; rfl; (first | assumption | exact is_lit64 _ (by decide) | exact is_lit32 _ (by decide)); intro Kq hKq rq nq hq; go_simp) | (apply wpList_cv .f64 .f32 (by decide) und64 Try.underlying22; rfl; rfl; (first | assumption | exact is_lit64 _ (by decide) | exact is_lit32 _ (by decide)); assumption; intro Kq hKq rq nq hq; go_simp) | (go_at_call 46; refine (HC (by assumption) (by assumption) _).mono ?_; rintro eq wq ⟨rq, nq, rfl, hq, rfl⟩))
  go_ret
  exact ⟨_, _, rfl, by assumption, rfl⟩

theorem walk_FnExactAngleTurns (y x : Nat) (w : World) (hy : y < 2 ^ 32) (hx : x < 2 ^ 32) :
    Calls Try.prog 7 #[.float .f32 y, .float .f32 x] w fun e w' => e = .returned (.bool true) ∧ Below w.heap.size w w' := by
  have iy : Is .f32 y (nrm .f32 y) := Is.self hy
  have ix : Is .f32 x (nrm .f32 x) := Is.self hx
  go_enter Try.func7, Try.ntmps7
  go_wp2_with (first | (apply wpList_wide und32 Try.underlying29; rfl; rfl; (first | assumption | exact is_lit64 _ (by decide) | exact is_lit32 _ (by decide)); intro Kq hKq rq nq hq; go_simp) | (go_at_call 23; refine (specAngle_any iy ix _).mono ?_; rintro eq wq ⟨rq, nq, rfl, hq, rfl⟩) | (go_at_call 24; refine (implAngle_any iy ix _).mono ?_; rintro eq wq ⟨rq, nq, rfl, hq, rfl⟩) | (go_at_call 22; refine (sameFloat_any (by assumption) (by assumption) _).mono ?_; rintro eq wq ⟨nq, rfl, rfl⟩))
  go_ret
  exact ⟨rfl, below_drewN (Below.refl _ _) _⟩
end Go.Proofs.Ytbpgemdchpgjiac
