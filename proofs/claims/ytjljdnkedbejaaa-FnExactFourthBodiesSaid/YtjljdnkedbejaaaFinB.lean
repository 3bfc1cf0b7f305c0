/-
  What the functions say that ask whether a number is finite: of the program and of the model. No condition.
-/
import Derived.Test.YtjljdnkedbejaaaAbs
import Derived.Test.YtjljdnkedbejaaaFnsN
namespace Go.Proofs.Ytjljdnkedbejaaa
open Go.RowKit

theorem isInf_any {x : Nat} {v : Option Nat} (ix : Is .f64 x v) (w : World) :
    Calls Try.prog 61 #[.float .f64 x, .int .i64 0] w (RetV (.bool (cmpB .gtr .f64 (absO v) (some 9218868437227405311))) w) := by
  go_enter Try.func61, Try.ntmps61
  go_wp2_with (first | (apply wpList_cmp; rfl; simp [Cmp]; rfl; rfl; (first | assumption | exact is_lit64 _ (by decide) | exact is_lit32 _ (by decide)); (first | assumption | exact is_lit64 _ (by decide) | exact is_lit32 _ (by decide)); intro Kq hKq; go_simp) | (go_at_call 66; refine (abs_any ix _).mono ?_; rintro eq wq ⟨rq, nq, rfl, hq, rfl⟩))
  go_ret
  exact RetV.mk _

/-- Whether a 64-bit number is finite, as the program asks. -/
def finW (v : Option Nat) : Bool := !cmpB .neq .f64 v v && !cmpB .gtr .f64 (absO v) (some 9218868437227405311)

theorem isFiniteWide_any {x : Nat} {v : Option Nat} (ix : Is .f64 x v) (w : World) :
    Calls Try.prog 53 #[.float .f64 x] w (RetV (.bool (finW v)) w) := by
  have hn := neq_of ix
  cases hv : v.isNone with
  | true =>
    rw [hv] at hn
    go_enter Try.func53, Try.ntmps53
    go_wp2_with (first | (go_at_call 60; refine (isNaN_any ix _).mono ?_; rintro eq wq ⟨nq, rfl, rfl⟩) | (go_at_call 61; refine (isInf_any ix _).mono ?_; rintro eq wq ⟨nq, rfl, rfl⟩))
    go_ret
    exact RetV.eq _ (by simp [finW, hn])
  | false =>
    rw [hv] at hn
    go_enter Try.func53, Try.ntmps53
    go_wp2_with (first | (go_at_call 60; refine (isNaN_any ix _).mono ?_; rintro eq wq ⟨nq, rfl, rfl⟩) | (go_at_call 61; refine (isInf_any ix _).mono ?_; rintro eq wq ⟨nq, rfl, rfl⟩))
    go_ret
    exact RetV.eq _ (by simp [finW, hn])

theorem implFinite_any {x : Nat} {v : Option Nat} (ix : Is .f32 x v) (w : World) :
    Calls Try.prog 46 #[.float .f32 x] w (RetV (.bool (finW (cv .f32 .f64 v))) w) := by
  go_enter Try.func46, Try.ntmps46
  go_wp2_with (first | (apply wpList_wide und32 Try.underlying61; rfl; rfl; (first | assumption | exact is_lit64 _ (by decide) | exact is_lit32 _ (by decide)); intro Kq hKq rq nq hq; go_simp) | (go_at_call 53; refine (isFiniteWide_any (by assumption) _).mono ?_; rintro eq wq ⟨nq, rfl, rfl⟩))
  go_ret
  exact RetV.mk _

/-- Whether a 32-bit number is finite, as the model asks. -/
def finS (v : Option Nat) : Bool := cmpB .eql .f32 (fo .sub .f32 v v) (some 0)

theorem finite_any {x : Nat} {v : Option Nat} (ix : Is .f32 x v) (w : World) :
    Calls Try.prog 19 #[.float .f32 x] w (RetV (.bool (finS v)) w) := by
  go_enter Try.func19, Try.ntmps19
  go_wp2_with (first | (apply wpList_cmp; rfl; simp [Cmp]; rfl; rfl; (first | assumption | exact is_lit64 _ (by decide) | exact is_lit32 _ (by decide)); (first | assumption | exact is_lit64 _ (by decide) | exact is_lit32 _ (by decide)); intro Kq hKq; go_simp) | (apply wpList_arith; rfl; simp [Arith]; rfl; rfl; (first | assumption | exact is_lit64 _ (by decide) | exact is_lit32 _ (by decide)); (first | assumption | exact is_lit64 _ (by decide) | exact is_lit32 _ (by decide)); intro Kq hKq rq nq hq; go_simp))
  go_ret
  exact RetV.mk _

theorem absO_cmp_low {y : Nat} (h : Low (FloatKind.f64.decode y) 1000) : cmpB .gtr .f64 (absO (some y)) (some 9218868437227405311) = false := by
  have hr := read_abs .f64 y
  have e : FloatKind.f64.format.signWeight = 2 ^ 63 := rfl
  rw [e] at hr
  obtain ⟨s, m, i, hd, hm⟩ := h
  unfold FloatKind.decode at hd
  rw [hd] at hr
  have ho : FloatKind.f64.format.order (y % 2 ^ 63) 9218868437227405311 = some .lt :=
    order_lt (t := 1000) (n := 9007199254740991) (j := 971) ⟨false, m, i, hr, hm⟩ rfl (by decide) (by decide)
  have h1 : absO (some y) = some (y % 2 ^ 63) := rfl
  have h2 : ordO .f64 (some (y % 2 ^ 63)) (some 9218868437227405311) = some .lt := ho
  simp [cmpB, h1, h2]

/-- Both ways to ask say the same. -/
theorem fin_same {x : Nat} {v : Option Nat} (ix : Is .f32 x v) : finW (cv .f32 .f64 v) = finS v := by
  cases v with
  | none => rfl
  | some z =>
    obtain rfl := ix.notNaN
    obtain ⟨y, hy⟩ := Option.isSome_iff_exists.1 (fit_widen ix x rfl)
    have hc : cv .f32 .f64 (some x) = some y := hy
    have hq := cv_neq ix
    unfold finW
    rw [hq, hc, show (some x).isNone = false from rfl]
    unfold floatToFloatBits at hy
    rw [if_neg (by decide)] at hy
    rcases single_low ix.dec with ⟨s, hs⟩ | ⟨s, m, e, hd, hm⟩
    · rw [hs] at hy
      simp only [Option.some.injEq] at hy
      subst hy
      have hsub : fo .sub .f32 (some x) (some x) = none := by
        unfold FloatKind.decode at hs
        simp [fo, floatBits, Ieee.Format.sub, hs, Ieee.Datum.opposite, Ieee.Datum.sum]
      unfold finS
      rw [hsub]
      cases s <;> decide
    · rw [hd] at hy
      obtain ⟨s', m', e', hr, hb⟩ := write_low .f64 s m e 200 hm (by decide) (by decide)
      simp only [hr] at hy
      have hne : (Ieee.Datum.number s' m' e').isInfinity = false := rfl
      rw [if_neg (by rw [hne]; decide)] at hy
      simp only [Option.some.injEq] at hy
      subst hy
      rw [absO_cmp_low ⟨s', m', e', hr, fun h => Int.lt_of_lt_of_le (hb h) (by decide)⟩]
      have hsub : fo .sub .f32 (some x) (some x) = some 0 := by
        unfold FloatKind.decode at hd
        have h0 : Ieee.signed s m 0 + Ieee.signed (!s) m 0 = 0 := by cases s <;> simp [Ieee.signed] <;> omega
        simp [fo, floatBits, Ieee.Format.sub, hd, Ieee.Datum.opposite, Ieee.Datum.sum, h0]
        cases s <;> rfl
      unfold finS
      rw [hsub]
      decide

end Go.Proofs.Ytjljdnkedbejaaa
