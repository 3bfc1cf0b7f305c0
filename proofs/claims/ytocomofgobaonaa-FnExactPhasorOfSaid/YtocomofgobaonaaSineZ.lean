/-
  The sine of a number of turns: for every number the law's text returns true, and writes nothing that was there. No condition.
-/
import Derived.Test.YtocomofgobaonaaSineY
namespace Go.Proofs.Ytocomofgobaonaa
open Go.RowKit

theorem specSineW_any {y : Nat} {v : Option Nat} (iy : Is .f64 y v) (w : World) :
    Calls Try.prog 29 #[.float .f64 y] w (RetF .f64 (sinS v) w) := by
  cases hn : cmpB .neq .f64 (fo .sub .f64 v v) (some 0) with
  | true =>
    have e : sinS v = none := by unfold sinS; rw [hn]; rfl
    rw [e]
    clear e
    go_enter Try.func29, Try.ntmps29
    go_wp2_with (first | (apply wpList_cmp; rfl; simp [Cmp]; rfl; rfl; (first | assumption | exact is_lit64 _ (by decide) | exact is_lit32 _ (by decide)); (first | assumption | exact is_lit64 _ (by decide) | exact is_lit32 _ (by decide)); intro Kq hKq; go_simp) | (apply wpList_arith; rfl; simp [Arith]; rfl; rfl; (first | assumption | exact is_lit64 _ (by decide) | exact is_lit32 _ (by decide)); (first | assumption | exact is_lit64 _ (by decide) | exact is_lit32 _ (by decide)); intro Kq hKq rq nq hq; go_simp) | (go_at_call 36; refine (nan_is _).mono ?_; rintro eq wq ⟨rq, nq, rfl, hq, rfl⟩))
    go_ret
    exact ⟨_, _, rfl, by assumption, rfl⟩
  | false =>
    cases hg : cmpB .geq .f64 v (some 4841369599423283200) with
    | true =>
      have e : sinS v = some 0 := by unfold sinS; rw [hn, hg]; rfl
      rw [e]
      clear e
      go_enter Try.func29, Try.ntmps29
      go_wp2_with (first | (apply wpList_cmp; rfl; simp [Cmp]; rfl; rfl; (first | assumption | exact is_lit64 _ (by decide) | exact is_lit32 _ (by decide)); (first | assumption | exact is_lit64 _ (by decide) | exact is_lit32 _ (by decide)); intro Kq hKq; go_simp) | (apply wpList_arith; rfl; simp [Arith]; rfl; rfl; (first | assumption | exact is_lit64 _ (by decide) | exact is_lit32 _ (by decide)); (first | assumption | exact is_lit64 _ (by decide) | exact is_lit32 _ (by decide)); intro Kq hKq rq nq hq; go_simp))
      go_ret
      exact ⟨_, _, rfl, is_zero64, rfl⟩
    | false =>
      cases hl : cmpB .leq .f64 v (some 14064741636278059008) with
      | true =>
        have e : sinS v = some 0 := by unfold sinS; rw [hn, hg, hl]; rfl
        rw [e]
        clear e
        go_enter Try.func29, Try.ntmps29
        go_wp2_with (first | (apply wpList_cmp; rfl; simp [Cmp]; rfl; rfl; (first | assumption | exact is_lit64 _ (by decide) | exact is_lit32 _ (by decide)); (first | assumption | exact is_lit64 _ (by decide) | exact is_lit32 _ (by decide)); intro Kq hKq; go_simp) | (apply wpList_arith; rfl; simp [Arith]; rfl; rfl; (first | assumption | exact is_lit64 _ (by decide) | exact is_lit32 _ (by decide)); (first | assumption | exact is_lit64 _ (by decide) | exact is_lit32 _ (by decide)); intro Kq hKq rq nq hq; go_simp))
        go_ret
        exact ⟨_, _, rfl, is_zero64, rfl⟩
      | false =>
        cases v with
        | none => exact absurd hn (by decide)
        | some z =>
          obtain rfl := iy.notNaN
          cases hd : FloatKind.f64.decode y with
          | nan s f => have := iy.dec; rw [hd] at this; cases this
          | infinity s =>
            exfalso
            have h1 : fo .sub .f64 (some y) (some y) = none := by
              unfold FloatKind.decode at hd
              simp [fo, floatBits, Ieee.Format.sub, hd, Ieee.Datum.opposite, Ieee.Datum.sum]
            rw [h1] at hn
            cases hn
          | number s m e =>
            have hc := great_cmp iy.2 hd
            rw [hg, hl] at hc
            have he : e < 0 := by
              have : decide (0 ≤ e) = false := hc.symm
              have := of_decide_eq_false this
              omega
            have hi := int_num hd
            obtain ⟨_, _, hb⟩ := part_small iy.2 hd he
            have hI : intN (some y) = Ieee.signed s (m <<< e.toNat / 2 ^ (-e).toNat) 0 := by
              show ((FloatKind.f64.decode y).toInt .zero).getD 0 = _
              rw [hi]; rfl
            have e2 : sinS (some y) = sinF (fo .sub .f64 (some y) (ifO (intN (some y)))) := by
              unfold sinS; rw [hn, hg, hl]; rfl
            rw [e2]
            rw [← hI] at hi
            exact specMainS iy hi (Nat.lt_of_lt_of_le hb (by decide)) hn hg hl w

theorem implSine_any {x : Nat} {v : Option Nat} (ix : Is .f32 x v) (w : World) :
    Calls Try.prog 8 #[.float .f32 x] w (RetF .f32 (cv .f64 .f32 (sinF (partO (cv .f32 .f64 v)))) w) := by
  have key : ∀ {y : Nat}, Is .f64 y (cv .f32 .f64 v) → Fit .f64 .f32 (sinF (partO (cv .f32 .f64 v))) := fun iy => by
    rw [← sin_same iy]; exact fit_le (le_sinS iy) (by decide)
  go_enter Try.func8, Try.ntmps8
  go_wp2_with (first | (apply wpList_wide und32 Try.underlying25; rfl; rfl; (first | assumption | exact is_lit64 _ (by decide) | exact is_lit32 _ (by decide)); intro Kq hKq rq nq hq; go_simp) | (apply wpList_cv .f64 .f32 (by decide) und64 Try.underlying22; rfl; rfl; (first | assumption | exact is_lit64 _ (by decide) | exact is_lit32 _ (by decide)); exact key (by assumption); intro Kq hKq rq nq hq; go_simp) | (go_at_call 18; refine (sineOf_any (by assumption) _).mono ?_; rintro eq wq ⟨rq, nq, rfl, hq, rfl⟩))
  go_ret
  exact ⟨_, _, rfl, by assumption, rfl⟩

theorem specSine_any {x : Nat} {v : Option Nat} (ix : Is .f32 x v) (w : World) :
    Calls Try.prog 7 #[.float .f32 x] w (RetF .f32 (cv .f64 .f32 (sinF (partO (cv .f32 .f64 v)))) w) := by
  have key : ∀ {y : Nat}, Is .f64 y (cv .f32 .f64 v) → Fit .f64 .f32 (sinF (partO (cv .f32 .f64 v))) := fun iy => by
    rw [← sin_same iy]; exact fit_le (le_sinS iy) (by decide)
  have sam : ∀ {y : Nat}, Is .f64 y (cv .f32 .f64 v) → ∀ w, Calls Try.prog 29 #[.float .f64 y] w (RetF .f64 (sinF (partO (cv .f32 .f64 v))) w) := fun iy w => by
    rw [← sin_same iy]; exact specSineW_any iy w
  go_enter Try.func7, Try.ntmps7
  go_wp2_with (first | (apply wpList_wide und32 Try.underlying25; rfl; rfl; (first | assumption | exact is_lit64 _ (by decide) | exact is_lit32 _ (by decide)); intro Kq hKq rq nq hq; go_simp) | (go_at_call 28; refine (narrow_any (by assumption) (key (by assumption)) _).mono ?_; rintro eq wq ⟨rq, nq, rfl, hq, rfl⟩) | (go_at_call 29; refine (sam (by assumption) _).mono ?_; rintro eq wq ⟨rq, nq, rfl, hq, rfl⟩) | go_in)
  go_ret
  exact ⟨_, _, rfl, by assumption, rfl⟩

theorem walk_FnExactSineTurns (x : Nat) (w : World) (hx : x < 2 ^ 32) :
    Calls Try.prog 3 #[.float .f32 x] w fun e w' => e = .returned (.bool true) ∧ Below w.heap.size w w' := by
  have ix : Is .f32 x (nrm .f32 x) := Is.self hx
  go_enter Try.func3, Try.ntmps3
  go_wp2_with (first | (apply wpList_wide und32 Try.underlying25; rfl; rfl; (first | assumption | exact is_lit64 _ (by decide) | exact is_lit32 _ (by decide)); intro Kq hKq rq nq hq; go_simp) | (go_at_call 7; refine (specSine_any ix _).mono ?_; rintro eq wq ⟨rq, nq, rfl, hq, rfl⟩) | (go_at_call 8; refine (implSine_any ix _).mono ?_; rintro eq wq ⟨rq, nq, rfl, hq, rfl⟩) | (go_at_call 9; refine (sameFloat_any (by assumption) (by assumption) _).mono ?_; rintro eq wq ⟨nq, rfl, rfl⟩))
  go_ret
  exact ⟨rfl, below_drewN (Below.refl _ _) _⟩
end Go.Proofs.Ytocomofgobaonaa
