/-
  The square root of a 32-bit number, of the program and of the model. No condition.
-/
import Derived.Test.YtngjpbfiijkibaaSqrt
import Derived.Test.YtngjpbfiijkibaaNumS
namespace Go.Proofs.Ytngjpbfiijkibaa
open Go.RowKit

theorem rootFrom_le (n : Nat) : ∀ todo root, root * root ≤ n → Ieee.Datum.rootFrom n todo root * Ieee.Datum.rootFrom n todo root ≤ n
  | 0, root, h => h
  | todo + 1, root, h => by
    unfold Ieee.Datum.rootFrom
    simp only
    refine rootFrom_le n todo _ ?_
    split
    · assumption
    · exact h

/-- The root of what a 32-bit number is fits 32 bits. -/
theorem fit_root {x : Nat} {v : Option Nat} (ix : Is .f32 x v) : Fit .f64 .f32 (sqO .f64 (cv .f32 .f64 v)) := by
  cases v with
  | none => intro y hy; cases hy
  | some z =>
    obtain rfl := ix.notNaN
    obtain ⟨y, hy⟩ := Option.isSome_iff_exists.1 (fit_widen ix x rfl)
    have hc : cv .f32 .f64 (some x) = some y := hy
    rw [hc]
    unfold floatToFloatBits at hy
    rw [if_neg (by decide)] at hy
    rcases single_low ix.dec with ⟨s, hs⟩ | ⟨s, m, e, hd, hm⟩
    · rw [hs] at hy
      simp only [Option.some.injEq] at hy
      subst hy
      cases s <;> (intro q hq; revert q; decide)
    · rw [hd] at hy
      obtain ⟨s', m', e', hr, hb⟩ := write_low .f64 s m e 200 hm (by decide) (by decide)
      simp only [hr] at hy
      have hne : (Ieee.Datum.number s' m' e').isInfinity = false := rfl
      rw [if_neg (by rw [hne]; decide)] at hy
      simp only [Option.some.injEq] at hy
      subst hy
      refine fit_low (t := 126) ?_ (by decide)
      intro q hq
      unfold sqO at hq
      simp only [Option.bind_some, Ieee.Format.sqrt] at hq
      unfold FloatKind.decode at hr
      rw [hr] at hq
      unfold Ieee.Datum.root at hq
      by_cases hm0 : m' = 0
      · simp only [hm0, if_true, Option.map_some, Option.some.injEq] at hq
        subst hq
        exact (write_low .f64 s' 0 e' 100 (fun h => (h rfl).elim) (by decide) (by decide)).mono (by decide)
      · simp only [hm0, if_false] at hq
        cases s' with
        | true => simp at hq
        | false =>
          simp only [Bool.false_eq_true, if_false, Option.map_some, Option.some.injEq] at hq
          subst hq
          generalize 2 * (FloatKind.f64.format.fractionBits + 2) - m'.log2 + ((e' - ↑(2 * (FloatKind.f64.format.fractionBits + 2) - m'.log2)) % 2).toNat = more
          refine (write_low .f64 _ _ _ 110 (fun h0 => ?_) (by decide) (by decide)).mono (by decide)
          have h1 := rootFrom_le (m' <<< more) ((m' <<< more).log2 / 2 + 1) 0 (Nat.zero_le _)
          generalize Ieee.Datum.rootFrom (m' <<< more) ((m' <<< more).log2 / 2 + 1) 0 = q at h1 h0 ⊢
          have hbit := Bool.toNat_le (q * q != m' <<< more)
          have hlow := hb hm0
          have hlt : m' <<< more < 2 ^ (m'.log2 + 1 + more) := by
            rw [Nat.shiftLeft_eq, Nat.pow_add]; exact Nat.mul_lt_mul_of_pos_right (lt_pow_log2 m') (Nat.two_pow_pos _)
          have hq2 : 2 * q.log2 < m'.log2 + 1 + more ∨ q = 0 := by
            by_cases hq0 : q = 0
            · exact .inr hq0
            · refine .inl ((Nat.pow_lt_pow_iff_right (a := 2) (by decide)).1 ?_)
              refine Nat.lt_of_le_of_lt ?_ hlt
              refine Nat.le_trans ?_ h1
              rw [Nat.two_mul, Nat.pow_add]
              exact Nat.mul_le_mul (Nat.log2_self_le hq0) (Nat.log2_self_le hq0)
          have hq3 : 2 * q + (q * q != m' <<< more).toNat < 2 ^ (q.log2 + 2) := by
            have := lt_pow_log2 q
            rw [Nat.pow_succ]; omega
          have := log2_lt_pow hq3 h0
          rcases hq2 with hq2 | hq2
          · omega
          · subst hq2
            have h00 : (0 : Nat).log2 = 0 := by decide
            rw [h00] at this
            omega

/-- The square root of a 32-bit number. -/
def rootO (v : Option Nat) : Option Nat := cv .f64 .f32 (sqO .f64 (cv .f32 .f64 v))

theorem l01Sqrt_any {x : Nat} {v : Option Nat} (ix : Is .f32 x v) (w : World) :
    Calls Try.prog 47 #[.float .f32 x] w (RetF .f32 (rootO v) w) := by
  have hf := fit_root ix
  go_enter Try.func47, Try.ntmps47
  go_wp2_with (first | (apply wpList_wide und32 Try.underlying40; rfl; rfl; (first | assumption | exact is_lit64 _ (by decide) | exact is_lit32 _ (by decide)); intro Kq hKq rq nq hq; go_simp) | (go_at_call 66; refine (sqrt_any (by assumption) _).mono ?_; rintro eq wq ⟨rq, nq, rfl, hq, rfl⟩) | (go_at_call 65; refine (narrow_any (by assumption) hf _).mono ?_; rintro eq wq ⟨rq, nq, rfl, hq, rfl⟩))
  go_ret
  exact ⟨_, _, rfl, by assumption, rfl⟩

theorem root_any {x : Nat} {v : Option Nat} (ix : Is .f32 x v) (w : World) :
    Calls Try.prog 55 #[.float .f32 x] w (RetF .f32 (rootO v) w) := by
  have hf := fit_root ix
  go_enter Try.func55, Try.ntmps55
  go_wp2_with (first | (apply wpList_wide und32 Try.underlying40; rfl; rfl; (first | assumption | exact is_lit64 _ (by decide) | exact is_lit32 _ (by decide)); intro Kq hKq rq nq hq; go_simp) | (apply wpList_cv .f64 .f32 (by decide) und64 Try.underlying22; rfl; rfl; (first | assumption | exact is_lit64 _ (by decide) | exact is_lit32 _ (by decide)); assumption; intro Kq hKq rq nq hq; go_simp) | (go_at_call 66; refine (sqrt_any (by assumption) _).mono ?_; rintro eq wq ⟨rq, nq, rfl, hq, rfl⟩))
  go_ret
  exact ⟨_, _, rfl, by assumption, rfl⟩

end Go.Proofs.Ytngjpbfiijkibaa
