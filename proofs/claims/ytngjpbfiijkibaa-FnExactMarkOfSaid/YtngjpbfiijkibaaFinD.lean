/-
  Finite numbers, of the program and of the model, beside what is known of 64-bit numbers. No condition.
-/
import Derived.Test.YtngjpbfiijkibaaNumS
namespace Go.Proofs.Ytngjpbfiijkibaa
open Go.RowKit

theorem implFinite_any {x : Nat} {v : Option Nat} (ix : Is .f32 x v) (w : World) :
    Calls Try.prog 27 #[.float .f32 x] w (RetV (.bool (finW (cv .f32 .f64 v))) w) := by
  go_enter Try.func27, Try.ntmps27
  go_wp2_with (first | (apply wpList_wide und32 Try.underlying40; rfl; rfl; (first | assumption | exact is_lit64 _ (by decide) | exact is_lit32 _ (by decide)); intro Kq hKq rq nq hq; go_simp) | (go_at_call 53; refine (isFiniteWide_any (by assumption) _).mono ?_; rintro eq wq ⟨nq, rfl, rfl⟩))
  go_ret
  exact RetV.mk _

/-- Whether a 32-bit number is finite, as the model asks. -/
def finS (v : Option Nat) : Bool := cmpB .eql .f32 (fo .sub .f32 v v) (some 0)

theorem finite_any {x : Nat} {v : Option Nat} (ix : Is .f32 x v) (w : World) :
    Calls Try.prog 23 #[.float .f32 x] w (RetV (.bool (finS v)) w) := by
  go_enter Try.func23, Try.ntmps23
  go_wp2_with (first | (apply wpList_cmp; rfl; simp [Cmp]; rfl; rfl; (first | assumption | exact is_lit64 _ (by decide) | exact is_lit32 _ (by decide)); (first | assumption | exact is_lit64 _ (by decide) | exact is_lit32 _ (by decide)); intro Kq hKq; go_simp) | (apply wpList_arith; rfl; simp [Arith]; rfl; rfl; (first | assumption | exact is_lit64 _ (by decide) | exact is_lit32 _ (by decide)); (first | assumption | exact is_lit64 _ (by decide) | exact is_lit32 _ (by decide)); intro Kq hKq rq nq hq; go_simp))
  go_ret
  exact RetV.mk _

/-- Both ways to ask say the same. -/
theorem fin_same {x : Nat} {v : Option Nat} (ix : Is .f32 x v) : finW (cv .f32 .f64 v) = finS v := by
  cases v with
  | none => rfl
  | some z =>
    obtain rfl := ix.notNaN
    obtain ⟨y, hy⟩ := Option.isSome_iff_exists.1 (fit_widen ix x rfl)
    have hc : cv .f32 .f64 (some x) = some y := hy
    have hq := cv_neq ix
    unfold finW
    rw [hq, hc, show (some x).isNone = false from rfl]
    unfold floatToFloatBits at hy
    rw [if_neg (by decide)] at hy
    rcases single_low ix.dec with ⟨s, hs⟩ | ⟨s, m, e, hd, hm⟩
    · rw [hs] at hy
      simp only [Option.some.injEq] at hy
      subst hy
      have hsub : fo .sub .f32 (some x) (some x) = none := by
        unfold FloatKind.decode at hs
        simp [fo, floatBits, Ieee.Format.sub, hs, Ieee.Datum.opposite, Ieee.Datum.sum]
      unfold finS
      rw [hsub]
      cases s <;> decide
    · rw [hd] at hy
      obtain ⟨s', m', e', hr, hb⟩ := write_low .f64 s m e 200 hm (by decide) (by decide)
      simp only [hr] at hy
      have hne : (Ieee.Datum.number s' m' e').isInfinity = false := rfl
      rw [if_neg (by rw [hne]; decide)] at hy
      simp only [Option.some.injEq] at hy
      subst hy
      rw [absO_cmp_low ⟨s', m', e', hr, fun h => Int.lt_of_lt_of_le (hb h) (by decide)⟩]
      have hsub : fo .sub .f32 (some x) (some x) = some 0 := by
        unfold FloatKind.decode at hd
        have h0 : Ieee.signed s m 0 + Ieee.signed (!s) m 0 = 0 := by cases s <;> simp [Ieee.signed] <;> omega
        simp [fo, floatBits, Ieee.Format.sub, hd, Ieee.Datum.opposite, Ieee.Datum.sum, h0]
        cases s <;> rfl
      unfold finS
      rw [hsub]
      decide

end Go.Proofs.Ytngjpbfiijkibaa
