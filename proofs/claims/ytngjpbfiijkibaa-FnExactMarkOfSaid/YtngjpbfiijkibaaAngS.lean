/-
  The angle of a point, of the model. No condition.
-/
import Derived.Test.YtngjpbfiijkibaaAngleY
import Derived.Test.YtngjpbfiijkibaaSame
namespace Go.Proofs.Ytngjpbfiijkibaa
open Go.RowKit

set_option maxHeartbeats 1600000 in
theorem specAng {y x : Nat} {vy vx : Option Nat} (iy : Is .f64 y vy) (ix : Is .f64 x vx) (hy : finW vy = true → ∃ b s m e, vy = some b ∧ FloatKind.f64.decode b = .number s m e) (hx : finW vx = true → ∃ b s m e, vx = some b ∧ FloatKind.f64.decode b = .number s m e)
    (fy : cmpB .neq .f64 (fo .sub .f64 vy vy) (some 0) = !finW vy) (fx : cmpB .neq .f64 (fo .sub .f64 vx vx) (some 0) = !finW vx) (w : World) :
    Calls Try.prog 67 #[.float .f64 y, .float .f64 x] w (RetF .f64 (angO vy vx) w) := by
  cases h1 : finW vy with
  | false =>
    have e : angO vy vx = none := by simp [angO, h1]
    rw [h1] at fy
    rw [e]
    go_enter Try.func67, Try.ntmps67
    go_wp2_with (first | (apply wpList_cmp; rfl; simp [Cmp]; rfl; rfl; (first | assumption | exact is_lit64 _ (by decide) | exact is_lit32 _ (by decide)); (first | assumption | exact is_lit64 _ (by decide) | exact is_lit32 _ (by decide)); intro Kq hKq; go_simp) | (apply wpList_arith; rfl; simp [Arith]; rfl; rfl; (first | assumption | exact is_lit64 _ (by decide) | exact is_lit32 _ (by decide)); (first | assumption | exact is_lit64 _ (by decide) | exact is_lit32 _ (by decide)); intro Kq hKq rq nq hq; go_simp) | (go_at_call 71; refine (nan_any _).mono ?_; rintro eq wq ⟨rq, nq, rfl, hq, rfl⟩))
    go_ret
    exact ⟨_, _, rfl, by assumption, rfl⟩
  | true =>
    rw [h1] at fy
    cases h2 : finW vx with
    | false =>
      have e : angO vy vx = none := by simp [angO, h1, h2]
      rw [h2] at fx
      rw [e]
      go_enter Try.func67, Try.ntmps67
      go_wp2_with (first | (apply wpList_cmp; rfl; simp [Cmp]; rfl; rfl; (first | assumption | exact is_lit64 _ (by decide) | exact is_lit32 _ (by decide)); (first | assumption | exact is_lit64 _ (by decide) | exact is_lit32 _ (by decide)); intro Kq hKq; go_simp) | (apply wpList_arith; rfl; simp [Arith]; rfl; rfl; (first | assumption | exact is_lit64 _ (by decide) | exact is_lit32 _ (by decide)); (first | assumption | exact is_lit64 _ (by decide) | exact is_lit32 _ (by decide)); intro Kq hKq rq nq hq; go_simp) | (go_at_call 71; refine (nan_any _).mono ?_; rintro eq wq ⟨rq, nq, rfl, hq, rfl⟩))
      go_ret
      exact ⟨_, _, rfl, by assumption, rfl⟩
    | true =>
      rw [h2] at fx
      cases hzy : cmpB .eql .f64 vy (some 0) <;> cases hzx : cmpB .eql .f64 vx (some 0)
      case true.true =>
        have e : angO vy vx = some 0 := by simp [angO, h1, h2, hzy, hzx]
        rw [e]
        go_enter Try.func67, Try.ntmps67
        go_wp2_with (first | (apply wpList_cmp; rfl; simp [Cmp]; rfl; rfl; (first | assumption | exact is_lit64 _ (by decide) | exact is_lit32 _ (by decide)); (first | assumption | exact is_lit64 _ (by decide) | exact is_lit32 _ (by decide)); intro Kq hKq; go_simp) | (apply wpList_arith; rfl; simp [Arith]; rfl; rfl; (first | assumption | exact is_lit64 _ (by decide) | exact is_lit32 _ (by decide)); (first | assumption | exact is_lit64 _ (by decide) | exact is_lit32 _ (by decide)); intro Kq hKq rq nq hq; go_simp))
        go_ret
        exact ⟨_, _, rfl, is_zero64, rfl⟩
      all_goals
        obtain ⟨b, s, m, e, rfl, hd⟩ := hy h1
        obtain ⟨c, t, n, j, rfl, hc⟩ := hx h2
        obtain rfl := iy.notNaN
        obtain rfl := ix.notNaN
        exact specMain iy ix (is_abs iy) (is_abs ix) (absN iy) (absN ix) h1 h2 fy fx hzy hzx rfl rfl rfl rfl w
end Go.Proofs.Ytngjpbfiijkibaa
