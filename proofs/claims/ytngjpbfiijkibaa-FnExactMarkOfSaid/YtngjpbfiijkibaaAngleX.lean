/-
  The angle of a point, the walks: of the program and of the model. No condition.
-/
import Derived.Test.YtngjpbfiijkibaaAngleW
import Derived.OwnWalk
import Derived.Deep.RegionWith
namespace Go.Proofs.Ytngjpbfiijkibaa
open Go.RowKit

theorem nan_any (w : World) : Calls Try.prog 71 #[] w (RetF .f64 none w) := by
  have hf := f64from
  go_enter Try.func71, Try.ntmps71
  go_wp2
  go_ret
  exact ⟨_, 0, rfl, ⟨by decide, by decide⟩, rfl⟩

theorem min_run {a b : Nat} {o : Ordering} (ts : Array TypeId) (t : TypeId) (h : FloatKind.f64.format.order a b = some o) (hs : o = .eq → a = b) (w : World) :
    (Builtin.min_ ts t #[.float .f64 a, .float .f64 b]).run Try.prog w = .ok (.float .f64 (if o = .gt then b else a)) w := by
  simp [Builtin.min_, Builtin.min2, h]
  cases o <;> simp_all

theorem max_run {a b : Nat} {o : Ordering} (ts : Array TypeId) (t : TypeId) (h : FloatKind.f64.format.order a b = some o) (hs : o = .eq → a = b) (w : World) :
    (Builtin.max_ ts t #[.float .f64 a, .float .f64 b]).run Try.prog w = .ok (.float .f64 (if o = .gt then a else b)) w := by
  simp [Builtin.max_, Builtin.max2, h]
  cases o <;> simp_all

/-- A number and how it is read. -/
def Num (y : Nat) : Prop := Is .f64 y (some y) ∧ ∃ s m e, FloatKind.f64.decode y = .number s m e

theorem absN {y : Nat} (iy : Is .f64 y (some y)) (w : World) : Calls Try.prog 72 #[.float .f64 y] w (RetV (.float .f64 (y % 2 ^ 63)) w) := by
  refine (abs_any iy w).mono fun e w' h => ?_
  obtain ⟨r, n, rfl, hi, rfl⟩ := h
  have : r = y % 2 ^ 63 := hi.notNaN
  subst this
  exact ⟨n, rfl, rfl⟩

theorem quarter_is : Is .f64 4598175219545276416 (some 4598175219545276416) := is_lit64 _ (by decide)
theorem half_is : Is .f64 4602678819172646912 (some 4602678819172646912) := is_lit64 _ (by decide)

set_option maxHeartbeats 1600000 in
/-- The program's way, where both are numbers and not both zeros. -/
theorem implMain {y x ya xa : Nat} {vy vx : Option Nat} (iy : Is .f64 y vy) (ix : Is .f64 x vx) (ay : Is .f64 ya (absO vy)) (ax : Is .f64 xa (absO vx))
    (hay : ∀ w, Calls Try.prog 72 #[.float .f64 y] w (RetV (.float .f64 ya) w)) (hax : ∀ w, Calls Try.prog 72 #[.float .f64 x] w (RetV (.float .f64 xa) w))
    (h1 : finW vy = true) (h2 : finW vx = true) {zy zx : Bool} (hzy : cmpB .eql .f64 vy (some 0) = zy) (hzx : cmpB .eql .f64 vx (some 0) = zx)
    (hz : (zy && zx) = false) {bo bx b0 : Bool} (hgt : cmpB .gtr .f64 (absO vy) (absO vx) = bo)
    (hx0 : cmpB .lss .f64 vx (some 0) = bx) (hy0 : cmpB .lss .f64 vy (some 0) = b0) {mn mx : Nat}
    (hmin : ∀ ts t w, (Builtin.min_ ts t #[.float .f64 ya, .float .f64 xa]).run Try.prog w = .ok (.float .f64 mn) w) (hmax : ∀ ts t w, (Builtin.max_ ts t #[.float .f64 ya, .float .f64 xa]).run Try.prog w = .ok (.float .f64 mx) w)
    {vn vm : Option Nat} (imn : Is .f64 mn vn) (imx : Is .f64 mx vm) (hq : fo .quo .f64 vn vm = if bo then fo .quo .f64 (absO vx) (absO vy) else fo .quo .f64 (absO vy) (absO vx)) (w : World) :
    Calls Try.prog 54 #[.float .f64 y, .float .f64 x] w (RetF .f64 (angO vy vx) w) := by
  have e : angO vy vx = (fun g2 : Option Nat => if b0 then negO .f64 g2 else g2) (if bx then fo .sub .f64 (some 4602678819172646912) (if bo then fo .sub .f64 (some 4598175219545276416) (slopeO (fo .quo .f64 vn vm)) else slopeO (fo .quo .f64 vn vm)) else (if bo then fo .sub .f64 (some 4598175219545276416) (slopeO (fo .quo .f64 vn vm)) else slopeO (fo .quo .f64 vn vm))) := by
    unfold angO
    rw [h1, h2, hzy, hzx, hz, hgt, hx0, hy0, hq]
    rfl
  rw [e]
  clear e hq
  have hq := quarter_is
  have hh := half_is
  cases zy <;> cases zx <;> first | exact absurd hz (by decide) | (cases bo <;> cases bx <;> cases b0)
  all_goals
    go_enter Try.func54, Try.ntmps54
    go_wp2_with (first | (apply wpList_cmp; rfl; simp [Cmp]; rfl; rfl; (first | assumption | exact is_lit64 _ (by decide) | exact is_lit32 _ (by decide)); (first | assumption | exact is_lit64 _ (by decide) | exact is_lit32 _ (by decide)); intro Kq hKq; go_simp) | (apply wpList_arith; rfl; simp [Arith]; rfl; rfl; (first | assumption | exact is_lit64 _ (by decide) | exact is_lit32 _ (by decide)); (first | assumption | exact is_lit64 _ (by decide) | exact is_lit32 _ (by decide)); intro Kq hKq rq nq hq; go_simp) | (apply wpList_neg; rfl; rfl; (first | assumption | exact is_lit64 _ (by decide) | exact is_lit32 _ (by decide)); intro Kq hKq rq hq; go_simp) | (go_at_call_of 72 y; refine (hay _).mono ?_; rintro eq wq ⟨nq, rfl, rfl⟩) | (go_at_call_of 72 x; refine (hax _).mono ?_; rintro eq wq ⟨nq, rfl, rfl⟩) | (go_at_call 73; refine (slope_any (by assumption) _).mono ?_; rintro eq wq ⟨rq, nq, rfl, hq, rfl⟩) | (go_at_call_of 53 y; refine (isFiniteWide_any iy _).mono ?_; rintro eq wq ⟨nq, rfl, rfl⟩; rw [h1]) | (go_at_call_of 53 x; refine (isFiniteWide_any ix _).mono ?_; rintro eq wq ⟨nq', rfl, rfl⟩; rw [h2]))
    go_ret
    exact ⟨_, _, rfl, by assumption, rfl⟩

set_option maxHeartbeats 1600000 in
theorem implAng {y x : Nat} {vy vx : Option Nat} (iy : Is .f64 y vy) (ix : Is .f64 x vx) (hy : finW vy = true → ∃ b s m e, vy = some b ∧ FloatKind.f64.decode b = .number s m e) (hx : finW vx = true → ∃ b s m e, vx = some b ∧ FloatKind.f64.decode b = .number s m e) (w : World) :
    Calls Try.prog 54 #[.float .f64 y, .float .f64 x] w (RetF .f64 (angO vy vx) w) := by
  cases h1 : finW vy with
  | false =>
    have e : angO vy vx = none := by simp [angO, h1]
    rw [e]
    go_enter Try.func54, Try.ntmps54
    go_wp2_with (first | (go_at_call 53; refine (isFiniteWide_any iy _).mono ?_; rintro eq wq ⟨nq, rfl, rfl⟩; rw [h1]) | (go_at_call 71; refine (nan_any _).mono ?_; rintro eq wq ⟨rq, nq, rfl, hq, rfl⟩))
    go_ret
    exact ⟨_, _, rfl, by assumption, rfl⟩
  | true =>
    cases h2 : finW vx with
    | false =>
      have e : angO vy vx = none := by simp [angO, h1, h2]
      rw [e]
      go_enter Try.func54, Try.ntmps54
      go_wp2_with (first | (go_at_call_of 53 y; refine (isFiniteWide_any iy _).mono ?_; rintro eq wq ⟨nq, rfl, rfl⟩; rw [h1]) | (go_at_call_of 53 x; refine (isFiniteWide_any ix _).mono ?_; rintro eq wq ⟨nq', rfl, rfl⟩; rw [h2]) | (go_at_call 71; refine (nan_any _).mono ?_; rintro eq wq ⟨rq, nq, rfl, hq, rfl⟩))
      go_ret
      exact ⟨_, _, rfl, by assumption, rfl⟩
    | true =>
      cases hzy : cmpB .eql .f64 vy (some 0) <;> cases hzx : cmpB .eql .f64 vx (some 0)
      case true.true =>
        have e : angO vy vx = some 0 := by simp [angO, h1, h2, hzy, hzx]
        rw [e]
        go_enter Try.func54, Try.ntmps54
        go_wp2_with (first | (apply wpList_cmp; rfl; simp [Cmp]; rfl; rfl; (first | assumption | exact is_lit64 _ (by decide) | exact is_lit32 _ (by decide)); (first | assumption | exact is_lit64 _ (by decide) | exact is_lit32 _ (by decide)); intro Kq hKq; go_simp) | (go_at_call_of 53 y; refine (isFiniteWide_any iy _).mono ?_; rintro eq wq ⟨nq, rfl, rfl⟩; rw [h1]) | (go_at_call_of 53 x; refine (isFiniteWide_any ix _).mono ?_; rintro eq wq ⟨nq', rfl, rfl⟩; rw [h2]))
        go_ret
        exact ⟨_, _, rfl, is_zero64, rfl⟩
      all_goals
        obtain ⟨b, s, m, e, rfl, hd⟩ := hy h1
        obtain ⟨c, t, n, j, rfl, hc⟩ := hx h2
        obtain rfl := iy.notNaN
        obtain rfl := ix.notNaN
        have ay : Is .f64 (y % 2 ^ 63) (absO (some y)) := is_abs iy
        have ax : Is .f64 (x % 2 ^ 63) (absO (some x)) := is_abs ix
        rcases ratio_cases hd hc (by rw [hzy, hzx]; rfl) with ⟨hg, ho, _⟩ | ⟨hg, ho, _⟩
        · exact implMain iy ix ay ax (absN iy) (absN ix) h1 h2 hzy hzx rfl hg rfl rfl (fun ts t => min_run ts t ho (fun h => by cases h)) (fun ts t => max_run ts t ho (fun h => by cases h)) ax ay rfl w
        · rcases ho with ho | ⟨ho, hs⟩
          · exact implMain iy ix ay ax (absN iy) (absN ix) h1 h2 hzy hzx rfl hg rfl rfl (fun ts t => min_run ts t ho (fun h => by cases h)) (fun ts t => max_run ts t ho (fun h => by cases h)) ay ax rfl w
          · exact implMain iy ix ay ax (absN iy) (absN ix) h1 h2 hzy hzx rfl hg rfl rfl (fun ts t => min_run ts t ho (fun _ => hs)) (fun ts t => max_run ts t ho (fun _ => hs)) ay ax rfl w
end Go.Proofs.Ytngjpbfiijkibaa
