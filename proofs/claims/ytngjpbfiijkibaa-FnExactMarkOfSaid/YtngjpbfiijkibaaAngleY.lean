/-
  The angle of a point, the walk of the model. No condition.
-/
import Derived.Test.YtngjpbfiijkibaaAngleX
namespace Go.Proofs.Ytngjpbfiijkibaa
open Go.RowKit

set_option maxRecDepth 100000 in
set_option maxHeartbeats 3200000 in
/-- The model's way, where both are numbers and not both zeros. -/
theorem specMain {y x ya xa : Nat} {vy vx : Option Nat} (iy : Is .f64 y vy) (ix : Is .f64 x vx) (ay : Is .f64 ya (absO vy)) (ax : Is .f64 xa (absO vx))
    (hay : ∀ w, Calls Try.prog 72 #[.float .f64 y] w (RetV (.float .f64 ya) w)) (hax : ∀ w, Calls Try.prog 72 #[.float .f64 x] w (RetV (.float .f64 xa) w))
    (h1 : finW vy = true) (h2 : finW vx = true) (n1 : cmpB .neq .f64 (fo .sub .f64 vy vy) (some 0) = false) (n2 : cmpB .neq .f64 (fo .sub .f64 vx vx) (some 0) = false) {zy zx : Bool} (hzy : cmpB .eql .f64 vy (some 0) = zy) (hzx : cmpB .eql .f64 vx (some 0) = zx)
    (hz : (zy && zx) = false) {bo bx b0 : Bool} (hgt : cmpB .gtr .f64 (absO vy) (absO vx) = bo)
    (hx0 : cmpB .lss .f64 vx (some 0) = bx) (hy0 : cmpB .lss .f64 vy (some 0) = b0) (w : World) :
    Calls Try.prog 67 #[.float .f64 y, .float .f64 x] w (RetF .f64 (angO vy vx) w) := by
  obtain ⟨v, hv⟩ : ∃ v, v = if bo then fo .quo .f64 (absO vx) (absO vy) else fo .quo .f64 (absO vy) (absO vx) := ⟨_, rfl⟩
  have e : angO vy vx = (fun g2 : Option Nat => if b0 then negO .f64 g2 else g2) (if bx then fo .sub .f64 (some 4602678819172646912) (if bo then fo .sub .f64 (some 4598175219545276416) (slopeO v) else slopeO v) else (if bo then fo .sub .f64 (some 4598175219545276416) (slopeO v) else slopeO v)) := by
    unfold angO
    rw [h1, h2, hzy, hzx, hz, hgt, hx0, hy0, hv]
    rfl
  rw [e]
  clear e
  have HV := Lib.hid hv
  clear hv
  have hq := quarter_is
  have hh := half_is
  have ho := is_one
  cases zy <;> cases zx <;> first | exact absurd hz (by decide) | (cases bo <;> cases bx <;> cases b0)
  all_goals
    go_enter Try.func67, Try.ntmps67
    go_wp2_with (first | (apply wpList_cmp; rfl; simp [Cmp]; rfl; rfl; (first | assumption | exact is_lit64 _ (by decide) | exact is_lit32 _ (by decide)); (first | assumption | exact is_lit64 _ (by decide) | exact is_lit32 _ (by decide)); intro Kq hKq; go_simp) | (apply wpList_arith; rfl; simp [Arith]; rfl; rfl; (first | assumption | exact is_lit64 _ (by decide) | exact is_lit32 _ (by decide)); (first | assumption | exact is_lit64 _ (by decide) | exact is_lit32 _ (by decide)); intro Kq hKq rq nq hq; go_simp) | (go_at_call_of 72 y; refine (hay _).mono ?_; rintro eq wq ⟨nq, rfl, rfl⟩) | (go_at_call_of 72 x; refine (hax _).mono ?_; rintro eq wq ⟨nq, rfl, rfl⟩))
    go_loopw [8, 9] (fun t i wr => ∃ k r m : Nat, k ≤ 3 ∧ i = .int .i64 k ∧ t = .float .f64 r ∧ Is .f64 r (halfN v k) ∧ wr = w.drewN m) (fun _ i _ => 3 - (intOf i).toNat)
    case atStart => exact ⟨0, _, _, Nat.zero_le _, rfl, rfl, by rw [HV.out]; simp only [if_true, Bool.false_eq_true, if_false]; assumption, rfl⟩
    case round =>
      obtain ⟨k, r, m, hk, rfl, rfl, hs, rfl⟩ := hrel
      by_cases hlt : k < 3
      · go_wp2_with (first | (apply wpList_arith; rfl; simp [Arith]; rfl; rfl; (first | assumption | exact is_lit64 _ (by decide) | exact is_lit32 _ (by decide)); (first | assumption | exact is_lit64 _ (by decide) | exact is_lit32 _ (by decide)); intro Kq hKq rq nq hq; go_simp) | (go_at_call 66; refine (sqrt_any (by assumption) _).mono ?_; rintro eq wq ⟨rq, nq, rfl, hq, rfl⟩))
        go_roundw
        case rel => exact ⟨k + 1, _, _, by omega, by go_num, rfl, by assumption, rfl⟩
        case measure => simp [intOf]; omega
      · have hkn : k = 3 := by omega
        subst hkn
        go_wp2_with (apply wpList_arith; rfl; simp [Arith]; rfl; rfl; (first | assumption | exact is_lit64 _ (by decide) | exact is_lit32 _ (by decide)); (first | assumption | exact is_lit64 _ (by decide) | exact is_lit32 _ (by decide)); intro Kq hKq rq nq hq; go_simp)
        go_loopw [11, 12] (fun t i wr => ∃ k r m : Nat, k ≤ 8 ∧ i = .int .i64 (15 - 2 * (k : Int)) ∧ t = .float .f64 r ∧ Is .f64 r (serA (fo .mul .f64 (halfN v 3) (halfN v 3)) k) ∧ wr = w.drewN m) (fun _ i _ => (intOf i + 1).toNat)
        case atStart => exact ⟨0, _, _, Nat.zero_le _, rfl, rfl, is_zero64, rfl⟩
        case round =>
          obtain ⟨k, r, m, hk, rfl, rfl, hs, rfl⟩ := hrel
          by_cases hlt : k < 8
          · go_wp2_with (first | (apply wpList_arith; rfl; simp [Arith]; rfl; rfl; (first | assumption | exact is_lit64 _ (by decide) | exact is_lit32 _ (by decide)); (first | assumption | exact is_lit64 _ (by decide) | exact is_lit32 _ (by decide)); intro Kq hKq rq nq hq; go_simp) | (apply wpList_itof; exact Try.underlying2; exact Try.underlying40; rfl; rfl; intro Kq hKq rq hq; go_simp))
            go_roundw
            case rel => exact ⟨k + 1, _, _, by omega, by go_num, rfl, by assumption, rfl⟩
            case measure => simp [intOf]; omega
          · have hkn : k = 8 := by omega
            subst hkn
            go_wp2_with (first | (apply wpList_cmp; rfl; simp [Cmp]; rfl; rfl; (first | assumption | exact is_lit64 _ (by decide) | exact is_lit32 _ (by decide)); (first | assumption | exact is_lit64 _ (by decide) | exact is_lit32 _ (by decide)); intro Kq hKq; go_simp) | (apply wpList_arith; rfl; simp [Arith]; rfl; rfl; (first | assumption | exact is_lit64 _ (by decide) | exact is_lit32 _ (by decide)); (first | assumption | exact is_lit64 _ (by decide) | exact is_lit32 _ (by decide)); intro Kq hKq rq nq hq; go_simp) | (apply wpList_neg; rfl; rfl; (first | assumption | exact is_lit64 _ (by decide) | exact is_lit32 _ (by decide)); intro Kq hKq rq hq; go_simp))
            go_ret
            exact ⟨_, _, rfl, by assumption, rfl⟩
end Go.Proofs.Ytngjpbfiijkibaa
