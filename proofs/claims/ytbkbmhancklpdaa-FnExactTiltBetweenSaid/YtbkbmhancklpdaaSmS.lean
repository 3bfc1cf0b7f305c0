/-
  The sine of a finite number is a number. No condition.
-/
import Derived.Test.YtbkbmhancklpdaaSinP
import Derived.Test.YtbkbmhancklpdaaFloor
import Derived.Test.YtbkbmhancklpdaaFinD
namespace Go.Proofs.Ytbkbmhancklpdaa
open Go.RowKit

theorem sm_sub {k : FloatKind} {a b : Option Nat} {u : Int} (ha : SmO k a u) (hb : SmO k b u) (h1 : tLeast k ≤ u + 1) (h2 : u + 1 ≤ tMost k) : SmO k (fo .sub k a b) (u + 1) := ⟨some_sub ha hb, le_sub ha.2 hb.2 h1 h2⟩
theorem sm_opp {v : Option Nat} {t : Int} (h : SmO .f64 v t) (hv : ∀ b, v = some b → b < 2 ^ 64) : SmO .f64 (negO .f64 v) t := by
  obtain ⟨⟨b, rfl⟩, hl⟩ := h
  exact ⟨⟨_, rfl⟩, le_neg hv hl⟩
theorem SmO.num {v : Option Nat} {t : Int} (h : SmO .f64 v t) : ∃ b s m e, v = some b ∧ FloatKind.f64.decode b = .number s m e := by
  obtain ⟨⟨b, rfl⟩, hl⟩ := h
  obtain ⟨s, m, e, hd, -⟩ := hl b rfl
  exact ⟨b, s, m, e, rfl, hd⟩

theorem sm_serS {u : Option Nat} (h : SmO .f64 u 12) : ∀ j, j ≤ 8 → SmO .f64 (serS u j) (13 * (j : Int))
  | 0, _ => sm_lit (by kernel_rfl)
  | j + 1, hj => by
    have h1 := sm_mul h (sm_serS h j (by omega)) (by simp [tLeast]; omega) (by simp [tMost]; omega)
    have hk : 1 ≤ 2 * (8 - (j : Int)) * (2 * (8 - (j : Int)) + 1) := by
      have h2 : 1 ≤ 8 - (j : Int) := by omega
      generalize 8 - (j : Int) = k at h2
      have h3 : (0 : Int) < 2 * k := by omega
      have h4 : (0 : Int) < 2 * k + 1 := by omega
      have := Int.mul_pos h3 h4
      omega
    have h2 := sm_div (tb := 0) h1 (ge_if hk) ⟨_, rfl⟩ (by simp [tLeast]; omega) (by simp [tMost]; omega)
    exact (sm_sub (u := 13 * (j : Int) + 12) ((sm_lit (b := 4607182418800017408) (t := 0) (by kernel_rfl)).mono (by omega)) (h2.mono (by omega)) (by simp [tLeast]; omega) (by simp [tMost]; omega)).mono (by omega)

theorem sm_up1 {f : Option Nat} (h : SmO .f64 f 0) : SmO .f64 (up1 f) 1 := by
  unfold up1; split
  · exact sm_add (u := 0) h (sm_lit (by kernel_rfl)) (by decide) (by decide)
  · exact h.mono (by decide)
theorem sm_sinR {f : Option Nat} (h : SmO .f64 f 1) : SmO .f64 (sinR f) 110 := by
  have h2 : SmO .f64 (low2 f) 2 := by
    unfold low2; split
    · exact sm_sub (u := 1) h (sm_lit (by kernel_rfl)) (by decide) (by decide)
    · exact h.mono (by decide)
  have h4 : SmO .f64 (low4 (low2 f)) 3 := by
    unfold low4; split
    · exact sm_sub (u := 2) (sm_lit (by kernel_rfl)) h2 (by decide) (by decide)
    · exact h2.mono (by decide)
  have hz := sm_mul (tb := 3) h4 (sm_lit (b := 4618760256179416344) (by kernel_rfl)) (by decide) (by decide)
  have hu := sm_mul hz hz (by decide) (by decide)
  exact (sm_mul hz (sm_serS (hu.mono (by decide)) 8 (Nat.le_refl _)) (by decide) (by decide)).mono (by decide)
theorem sm_sinF {f : Option Nat} (h : SmO .f64 f 0) : SmO .f64 (sinF f) 110 := by
  have h1 := sm_sinR (sm_up1 h)
  unfold sinF
  split
  · exact sm_opp h1 (fun r hr => fo_lt hr)
  · exact h1

theorem sm_part {y : Nat} (h : y < 2 ^ 64) {s : Bool} {m : Nat} {e : Int} (hd : FloatKind.f64.decode y = .number s m e) : SmO .f64 (partO (some y)) 0 := by
  by_cases he : 0 ≤ e
  · rw [part_great h hd he]; exact sm_lit (by kernel_rfl)
  · obtain ⟨h1, h2, h3⟩ := part_small h hd (by omega)
    refine ⟨?_, h2⟩
    rw [h1]
    have hl : LeO .f64 (ifO (intN (some y))) (53 : Nat) := le_if (Nat.le_of_lt h3) (by decide)
    obtain ⟨s', m', e', hd', -⟩ := hl _ rfl
    unfold FloatKind.decode at hd hd'
    unfold ifO
    simp [fo, floatBits, Ieee.Format.sub, hd, hd', Ieee.Datum.opposite, Ieee.Datum.sum]

theorem sm_sinP {v : Option Nat} {t : Int} (h : SmO .f64 v t) (hv : ∀ b, v = some b → b < 2 ^ 64) : SmO .f64 (sinP v) 110 := by
  obtain ⟨b, s, m, e, rfl, hd⟩ := h.num
  exact sm_sinF (sm_part (hv b rfl) hd)

/-- The cosine. -/
def cosO (v : Option Nat) : Option Nat := sinP (fo .add .f64 v (some 4598175219545276416))
theorem sm_cosO {v : Option Nat} {t : Int} (h : SmO .f64 v t) (h1 : 0 ≤ t) (h2 : t ≤ 900) : SmO .f64 (cosO v) 110 :=
  sm_sinP (sm_add h ((sm_lit (b := 4598175219545276416) (t := 0) (by kernel_rfl)).mono h1) (by simp [tLeast]; omega) (by simp [tMost]; omega)) (fun _ hb => fo_lt hb)
theorem iCos {x : Nat} {v : Option Nat} (ix : Is .f64 x v) (w : World) : Calls Try.prog 41 #[.float .f64 x] w (RetF .f64 (cosO v) w) := by
  unfold cosO
  go_enter Try.func41, Try.ntmps41
  go_wp2_with (first | (apply wpList_arith; rfl; simp [Arith]; rfl; rfl; (first | assumption | exact is_lit64 _ (by decide) | exact is_lit32 _ (by decide)); (first | assumption | exact is_lit64 _ (by decide) | exact is_lit32 _ (by decide)); intro Kq hKq rq nq hq; go_simp) | (go_at_call 39; refine (sineP_any (by assumption) _).mono ?_; rintro eq wq ⟨rq, nq, rfl, hq, rfl⟩))
  go_ret
  exact ⟨_, _, rfl, by assumption, rfl⟩
theorem sCos {x : Nat} {v : Option Nat} (ix : Is .f64 x v) (w : World) : Calls Try.prog 30 #[.float .f64 x] w (RetF .f64 (cosO v) w) := by
  unfold cosO
  go_enter Try.func30, Try.ntmps30
  go_wp2_with (first | (apply wpList_arith; rfl; simp [Arith]; rfl; rfl; (first | assumption | exact is_lit64 _ (by decide) | exact is_lit32 _ (by decide)); (first | assumption | exact is_lit64 _ (by decide) | exact is_lit32 _ (by decide)); intro Kq hKq rq nq hq; go_simp) | (go_at_call 29; refine (specSineP_any (by assumption) _).mono ?_; rintro eq wq ⟨rq, nq, rfl, hq, rfl⟩))
  go_ret
  exact ⟨_, _, rfl, by assumption, rfl⟩

/-- A finite 32-bit number in 64 bits. -/
theorem sm_cv {x : Nat} {v : Option Nat} (ix : Is .f32 x v) (hf : finS v = true) : SmO .f64 (cv .f32 .f64 v) 201 := by
  cases v with
  | none => exact absurd hf (by decide)
  | some z =>
    obtain rfl := ix.notNaN
    obtain ⟨y, hy⟩ := Option.isSome_iff_exists.1 (fit_widen ix x rfl)
    have hc : cv .f32 .f64 (some x) = some y := hy
    rw [hc]
    refine ⟨⟨y, rfl⟩, fun b hb => ?_⟩
    cases hb
    unfold floatToFloatBits at hy
    rw [if_neg (by decide)] at hy
    rcases single_low ix.dec with ⟨s, hs⟩ | ⟨s, m, e, hd, hm⟩
    · exfalso
      have hsub : fo .sub .f32 (some x) (some x) = none := by
        unfold FloatKind.decode at hs
        simp [fo, floatBits, Ieee.Format.sub, hs, Ieee.Datum.opposite, Ieee.Datum.sum]
      unfold finS at hf
      rw [hsub] at hf
      exact absurd hf (by decide)
    · rw [hd] at hy
      obtain ⟨s', m', e', hr, hb⟩ := write_low .f64 s m e 200 hm (by decide) (by decide)
      simp only [hr] at hy
      have hne : (Ieee.Datum.number s' m' e').isInfinity = false := rfl
      rw [if_neg (by rw [hne]; decide)] at hy
      simp only [Option.some.injEq] at hy
      subst hy
      exact ⟨s', m', e', hr, fun h0 => ⟨m'.log2 + 1, Nat.le_of_lt Nat.lt_log2_self, by have h9 := hb h0; generalize m'.log2 = l at h9 ⊢; omega⟩⟩

/-- What is widened of a number draws nothing. -/
theorem conv_fin {x : Nat} {v : Option Nat} (ix : Is .f32 x v) (hf : finS v = true) : ∃ z, (∀ w : World, (convert 22 30 (.float .f32 x)).run Try.prog w = .ok (.float .f64 z) w) ∧ Is .f64 z (cv .f32 .f64 v) := by
  cases v with
  | none => exact absurd hf (by decide)
  | some y =>
    obtain rfl := ix.notNaN
    obtain ⟨r, hr⟩ := Option.isSome_iff_exists.1 (fit_widen ix x rfl)
    exact ⟨r, fun w => run_convert_float_float w 22 30 .f32 .f64 x r und32 Try.underlying30 hr, by unfold cv; simp only [Option.bind_some, hr]; exact cv_notNaN (by decide) hr⟩

/-- Arithmetic that gives a number draws nothing. -/
theorem arith_sm {op : BinOp} {k : FloatKind} {x y r : Nat} {a b : Option Nat} (ix : Is k x a) (iy : Is k y b) (hr : fo op k a b = some r) (t : TypeId) (w : World) : (binOp op t (.float k x) (.float k y)).run Try.prog w = .ok (.float k r) w := by
  have e : floatBits op k x y = some r := by rw [floatBits_fo, ix.1, iy.1]; exact hr
  exact run_float_arith w op t k x y r e
theorem neg_run (P : Program) (k : FloatKind) (x : Nat) (w : World) : (Op.unary .neg (.float k x)).run P w = .ok (.float k (Op.negFloat k x)) w := by simp [Op.unary]
/-- A call that hands back a number hands back its word. -/
theorem RetF.word {k : FloatKind} {v : Option Nat} {r : Nat} (hv : v = some r) {w : World} {e : Ending} {w' : World} (h : RetF k v w e w') : RetV (.float k r) w e w' := by
  subst hv
  obtain ⟨x, n, rfl, ix, rfl⟩ := h
  obtain rfl := ix.notNaN
  exact ⟨n, rfl, rfl⟩
end Go.Proofs.Ytbkbmhancklpdaa
