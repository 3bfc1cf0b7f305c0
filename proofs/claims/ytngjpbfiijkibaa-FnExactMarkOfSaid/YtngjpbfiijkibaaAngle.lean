/-
  The angle of a slope: of the program, and its bounds. No condition.
-/
import Derived.Test.YtngjpbfiijkibaaNumS
import Derived.Test.YtngjpbfiijkibaaSqrt
import Derived.Test.YtngjpbfiijkibaaIntF
import Derived.Lib.Hide
namespace Go.Proofs.Ytngjpbfiijkibaa
open Go.RowKit

/-- One of the three steps to a smaller slope. -/
def halfO (t : Option Nat) : Option Nat := fo .quo .f64 t (fo .add .f64 (some 4607182418800017408) (sqO .f64 (fo .add .f64 (some 4607182418800017408) (fo .mul .f64 t t))))
def halfN (t : Option Nat) : Nat → Option Nat
  | 0 => t
  | j + 1 => halfO (halfN t j)
def serA (u : Option Nat) : Nat → Option Nat
  | 0 => some 0
  | j + 1 => fo .sub .f64 (fo .quo .f64 (some 4607182418800017408) (ifO (15 - 2 * (j : Int)))) (fo .mul .f64 u (serA u j))
def slopeO (t : Option Nat) : Option Nat :=
  fo .quo .f64 (fo .mul .f64 (some 4620693217682128896) (fo .mul .f64 (halfN t 3) (serA (fo .mul .f64 (halfN t 3) (halfN t 3)) 8))) (some 4618760256179416344)

theorem le_half {t : Option Nat} (h : LeO .f64 t 1) : LeO .f64 (halfO t) 1 :=
  le_div (tb := 0) h (ge_add (nn_lit (by kernel_rfl)) nn_sqrt (ge_lit (by kernel_rfl)) (by decide) (by decide)) (by decide) (by decide)
theorem le_halfN {t : Option Nat} (h : LeO .f64 t 1) : ∀ j, LeO .f64 (halfN t j) 1
  | 0 => h
  | j + 1 => le_half (le_halfN h j)
theorem le_serA {u : Option Nat} (h : LeO .f64 u 2) : ∀ j, j ≤ 8 → LeO .f64 (serA u j) (3 * (j : Int))
  | 0, _ => le_lit (by kernel_rfl)
  | j + 1, hj => by
    have h1 := le_mul h (le_serA h j (by omega)) (by simp [tLeast]; omega) (by simp [tMost]; omega)
    have h2 : LeO .f64 (fo .quo .f64 (some 4607182418800017408) (ifO (15 - 2 * (j : Int)))) 0 := le_div (ta := 0) (tb := 0) (le_lit (by kernel_rfl)) (ge_if (by omega)) (by decide) (by decide)
    exact (le_sub (h2.mono (show (0 : Int) ≤ 2 + 3 * (j : Int) by omega)) h1 (by simp [tLeast]; omega) (by simp [tMost]; omega)).mono (by omega)
theorem le_slope {t : Option Nat} (h : LeO .f64 t 1) : LeO .f64 (slopeO t) 26 := by
  have h3 := le_halfN h 3
  have hu := le_mul h3 h3 (by decide) (by decide)
  have hp := le_serA (hu.mono (by decide)) 8 (Nat.le_refl _)
  have h4 := le_mul h3 hp (by decide) (by decide)
  have h5 := le_mul (ta := 3) (le_lit (b := 4620693217682128896) (by kernel_rfl)) h4 (by decide) (by decide)
  exact (le_div (tb := 2) h5 (ge_lit (by kernel_rfl)) (by decide) (by decide)).mono (by decide)

set_option maxRecDepth 100000 in
set_option maxHeartbeats 1600000 in
theorem slope_any {x : Nat} {v : Option Nat} (ix : Is .f64 x v) (w : World) :
    Calls Try.prog 73 #[.float .f64 x] w (RetF .f64 (slopeO v) w) := by
  have h1 := is_one
  go_enter Try.func73, Try.ntmps73
  go_wp2
  go_loopw [3, 8] (fun t i wr => ∃ k r m : Nat, k ≤ 3 ∧ i = .int .i64 k ∧ t = .float .f64 r ∧ Is .f64 r (halfN v k) ∧ wr = w.drewN m) (fun _ i _ => 3 - (intOf i).toNat)
  case atStart => exact ⟨0, x, 0, Nat.zero_le _, rfl, rfl, ix, rfl⟩
  case round =>
    obtain ⟨k, r, m, hk, rfl, rfl, hs, rfl⟩ := hrel
    by_cases hlt : k < 3
    · go_wp2_with (first | (apply wpList_arith; rfl; simp [Arith]; rfl; rfl; (first | assumption | exact is_lit64 _ (by decide) | exact is_lit32 _ (by decide)); (first | assumption | exact is_lit64 _ (by decide) | exact is_lit32 _ (by decide)); intro Kq hKq rq nq hq; go_simp) | (go_at_call 66; refine (sqrt_any (by assumption) _).mono ?_; rintro eq wq ⟨rq, nq, rfl, hq, rfl⟩))
      go_roundw
      case rel => exact ⟨k + 1, _, _, by omega, by go_num, rfl, by assumption, rfl⟩
      case measure => simp [intOf]; omega
    · have hkn : k = 3 := by omega
      subst hkn
      go_wp2_with (apply wpList_arith; rfl; simp [Arith]; rfl; rfl; (first | assumption | exact is_lit64 _ (by decide) | exact is_lit32 _ (by decide)); (first | assumption | exact is_lit64 _ (by decide) | exact is_lit32 _ (by decide)); intro Kq hKq rq nq hq; go_simp)
      go_loopw [5, 6] (fun t i wr => ∃ k r m : Nat, k ≤ 8 ∧ i = .int .i64 (15 - 2 * (k : Int)) ∧ t = .float .f64 r ∧ Is .f64 r (serA (fo .mul .f64 (halfN v 3) (halfN v 3)) k) ∧ wr = w.drewN m) (fun _ i _ => (intOf i + 1).toNat)
      case atStart => exact ⟨0, _, _, Nat.zero_le _, rfl, rfl, is_zero64, rfl⟩
      case round =>
        obtain ⟨k, r, m, hk, rfl, rfl, hs, rfl⟩ := hrel
        by_cases hlt : k < 8
        · go_wp2_with (first | (apply wpList_arith; rfl; simp [Arith]; rfl; rfl; (first | assumption | exact is_lit64 _ (by decide) | exact is_lit32 _ (by decide)); (first | assumption | exact is_lit64 _ (by decide) | exact is_lit32 _ (by decide)); intro Kq hKq rq nq hq; go_simp) | (apply wpList_itof; exact Try.underlying2; exact Try.underlying40; rfl; rfl; intro Kq hKq rq hq; go_simp))
          go_roundw
          case rel => exact ⟨k + 1, _, _, by omega, by go_num, rfl, by assumption, rfl⟩
          case measure => simp [intOf]; omega
        · have hkn : k = 8 := by omega
          subst hkn
          go_wp2_with (first | (apply wpList_arith; rfl; simp [Arith]; rfl; rfl; (first | assumption | exact is_lit64 _ (by decide) | exact is_lit32 _ (by decide)); (first | assumption | exact is_lit64 _ (by decide) | exact is_lit32 _ (by decide)); intro Kq hKq rq nq hq; go_simp) | go_in)
          go_ret
          exact ⟨_, _, rfl, by assumption, rfl⟩
end Go.Proofs.Ytngjpbfiijkibaa
