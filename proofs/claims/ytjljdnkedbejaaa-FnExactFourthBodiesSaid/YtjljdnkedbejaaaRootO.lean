/-
  The square root of a number, of the program and of the model. No condition.
-/
import Derived.Test.YtjljdnkedbejaaaOps
namespace Go.Proofs.Ytjljdnkedbejaaa
open Go.RowKit

def sqO (k : FloatKind) (v : Option Nat) : Option Nat := v.bind fun x => k.format.sqrt x

theorem sqrt_fo (k : FloatKind) (x : Nat) : k.format.sqrt x = sqO k (nrm k x) := by
  unfold sqO nrm
  by_cases hx : (k.decode x).isNaN = true
  · obtain ⟨s, f, hd⟩ := nan_cases hx
    unfold FloatKind.decode at hd
    rw [if_pos hx]
    simp [Ieee.Format.sqrt, hd, Ieee.Datum.root]
  · simp [hx]

theorem sqrt_is {k : FloatKind} {x r : Nat} (h : k.format.sqrt x = some r) : Is k r (some r) := by
  refine ⟨?_, k.format.sqrt_lt h⟩
  unfold Ieee.Format.sqrt at h
  cases hd : (k.format.read x).root (k.format.fractionBits + 2) with
  | none => rw [hd] at h; cases h
  | some d =>
    rw [hd] at h
    cases h
    unfold nrm
    rw [if_neg (by have := write_notNaN k d (root_notNaN hd); unfold FloatKind.encode at this; simp [this])]

theorem extSqrt (args : Array Value) (w : World) : (callFunc 71 args).run Try.prog w = ((Extern.MathSqrt.sqrt args).run Try.prog w).andThen fun v w' => .ok (.value v) w' :=
  run_callFunc_extern Try.func71 (by kernel_rfl) (by kernel_rfl) (by kernel_rfl) (by kernel_rfl) args w

theorem sqrt_any {x : Nat} {v : Option Nat} (ix : Is .f64 x v) (w : World) :
    Calls Try.prog 65 #[.float .f64 x] w (RetF .f64 (sqO .f64 v) w) := by
  have e : FloatKind.f64.format.sqrt x = sqO .f64 v := by rw [sqrt_fo, ix.1]
  cases h : FloatKind.f64.format.sqrt x with
  | some r =>
    have hs : ∀ w : World, (callFunc 71 #[.float .f64 x]).run Try.prog w = .ok (.value (.float .f64 r)) w := fun w => by
      rw [extSqrt]
      change (Sem.run Try.prog (match FloatKind.f64.format.sqrt x with | some r => pure (Value.float .f64 r) | none => do pure (Value.float .f64 (← choose (.nanBits .f64 x x)))) w).andThen _ = _
      rw [h]; rfl
    go_enter Try.func65, Try.ntmps65
    go_wp2
    go_ret
    exact ⟨r, 0, rfl, by rw [← e, h]; exact sqrt_is h, rfl⟩
  | none =>
    have hs : ∀ w : World, (callFunc 71 #[.float .f64 x]).run Try.prog w = .ok (.value (.float .f64 ((Question.nanBits .f64 x x).cut (w.tape w.drawn (.nanBits .f64 x x))))) (w.drewN 1) := fun w => by
      rw [extSqrt]
      change (Sem.run Try.prog (match FloatKind.f64.format.sqrt x with | some r => pure (Value.float .f64 r) | none => do pure (Value.float .f64 (← choose (.nanBits .f64 x x)))) w).andThen _ = _
      rw [h]; simp [Question.forced, World.drew_is_drewN]
    go_enter Try.func65, Try.ntmps65
    go_wp2
    go_ret
    exact ⟨_, 1, rfl, by rw [← e, h]; exact is_nanBits .., rfl⟩

theorem rootFrom_le (n : Nat) : ∀ todo root, root * root ≤ n → Ieee.Datum.rootFrom n todo root * Ieee.Datum.rootFrom n todo root ≤ n
  | 0, root, h => h
  | todo + 1, root, h => by
    unfold Ieee.Datum.rootFrom
    simp only
    refine rootFrom_le n todo _ ?_
    split
    · assumption
    · exact h

/-- The root of what a 32-bit number is fits 32 bits. -/
theorem fit_root {x : Nat} {v : Option Nat} (ix : Is .f32 x v) : Fit .f64 .f32 (sqO .f64 (cv .f32 .f64 v)) := by
  cases v with
  | none => intro y hy; cases hy
  | some z =>
    obtain rfl := ix.notNaN
    obtain ⟨y, hy⟩ := Option.isSome_iff_exists.1 (fit_widen ix x rfl)
    have hc : cv .f32 .f64 (some x) = some y := hy
    rw [hc]
    unfold floatToFloatBits at hy
    rw [if_neg (by decide)] at hy
    rcases single_low ix.dec with ⟨s, hs⟩ | ⟨s, m, e, hd, hm⟩
    · rw [hs] at hy
      simp only [Option.some.injEq] at hy
      subst hy
      cases s <;> (intro q hq; revert q; decide)
    · rw [hd] at hy
      obtain ⟨s', m', e', hr, hb⟩ := write_low .f64 s m e 200 hm (by decide) (by decide)
      simp only [hr] at hy
      have hne : (Ieee.Datum.number s' m' e').isInfinity = false := rfl
      rw [if_neg (by rw [hne]; decide)] at hy
      simp only [Option.some.injEq] at hy
      subst hy
      refine fit_low (t := 126) ?_ (by decide)
      intro q hq
      unfold sqO at hq
      simp only [Option.bind_some, Ieee.Format.sqrt] at hq
      unfold FloatKind.decode at hr
      rw [hr] at hq
      unfold Ieee.Datum.root at hq
      by_cases hm0 : m' = 0
      · simp only [hm0, if_true, Option.map_some, Option.some.injEq] at hq
        subst hq
        exact (write_low .f64 s' 0 e' 100 (fun h => (h rfl).elim) (by decide) (by decide)).mono (by decide)
      · simp only [hm0, if_false] at hq
        cases s' with
        | true => simp at hq
        | false =>
          simp only [Bool.false_eq_true, if_false, Option.map_some, Option.some.injEq] at hq
          subst hq
          generalize 2 * (FloatKind.f64.format.fractionBits + 2) - m'.log2 + ((e' - ↑(2 * (FloatKind.f64.format.fractionBits + 2) - m'.log2)) % 2).toNat = more
          refine (write_low .f64 _ _ _ 110 (fun h0 => ?_) (by decide) (by decide)).mono (by decide)
          have h1 := rootFrom_le (m' <<< more) ((m' <<< more).log2 / 2 + 1) 0 (Nat.zero_le _)
          generalize Ieee.Datum.rootFrom (m' <<< more) ((m' <<< more).log2 / 2 + 1) 0 = q at h1 h0 ⊢
          have hbit := Bool.toNat_le (q * q != m' <<< more)
          have hlow := hb hm0
          have hlt : m' <<< more < 2 ^ (m'.log2 + 1 + more) := by
            rw [Nat.shiftLeft_eq, Nat.pow_add]; exact Nat.mul_lt_mul_of_pos_right (lt_pow_log2 m') (Nat.two_pow_pos _)
          have hq2 : 2 * q.log2 < m'.log2 + 1 + more ∨ q = 0 := by
            by_cases hq0 : q = 0
            · exact .inr hq0
            · refine .inl ((Nat.pow_lt_pow_iff_right (a := 2) (by decide)).1 ?_)
              refine Nat.lt_of_le_of_lt ?_ hlt
              refine Nat.le_trans ?_ h1
              rw [Nat.two_mul, Nat.pow_add]
              exact Nat.mul_le_mul (Nat.log2_self_le hq0) (Nat.log2_self_le hq0)
          have hq3 : 2 * q + (q * q != m' <<< more).toNat < 2 ^ (q.log2 + 2) := by
            have := lt_pow_log2 q
            rw [Nat.pow_succ]; omega
          have := log2_lt_pow hq3 h0
          rcases hq2 with hq2 | hq2
          · omega
          · subst hq2
            have h00 : (0 : Nat).log2 = 0 := by decide
            rw [h00] at this
            omega

theorem narrow_any {x : Nat} {v : Option Nat} (ix : Is .f64 x v) (hf : Fit .f64 .f32 v) (w : World) :
    Calls Try.prog 64 #[.float .f64 x] w (RetF .f32 (cv .f64 .f32 v) w) := by
  go_enter Try.func64, Try.ntmps64
  go_wp2_with (apply wpList_cv .f64 .f32 (by decide) und64 Try.underlying23; rfl; rfl; (first | assumption | exact is_lit64 _ (by decide) | exact is_lit32 _ (by decide)); assumption; intro Kq hKq rq nq hq; go_simp)
  go_ret
  exact ⟨_, _, rfl, by assumption, rfl⟩

/-- The square root of a 32-bit number. -/
def rootO (v : Option Nat) : Option Nat := cv .f64 .f32 (sqO .f64 (cv .f32 .f64 v))

theorem l01Sqrt_any {x : Nat} {v : Option Nat} (ix : Is .f32 x v) (w : World) :
    Calls Try.prog 59 #[.float .f32 x] w (RetF .f32 (rootO v) w) := by
  have hf := fit_root ix
  go_enter Try.func59, Try.ntmps59
  go_wp2_with (first | (apply wpList_wide und32 Try.underlying61; rfl; rfl; (first | assumption | exact is_lit64 _ (by decide) | exact is_lit32 _ (by decide)); intro Kq hKq rq nq hq; go_simp) | (go_at_call 65; refine (sqrt_any (by assumption) _).mono ?_; rintro eq wq ⟨rq, nq, rfl, hq, rfl⟩) | (go_at_call 64; refine (narrow_any (by assumption) hf _).mono ?_; rintro eq wq ⟨rq, nq, rfl, hq, rfl⟩))
  go_ret
  exact ⟨_, _, rfl, by assumption, rfl⟩

theorem root_any {x : Nat} {v : Option Nat} (ix : Is .f32 x v) (w : World) :
    Calls Try.prog 70 #[.float .f32 x] w (RetF .f32 (rootO v) w) := by
  have hf := fit_root ix
  go_enter Try.func70, Try.ntmps70
  go_wp2_with (first | (apply wpList_wide und32 Try.underlying61; rfl; rfl; (first | assumption | exact is_lit64 _ (by decide) | exact is_lit32 _ (by decide)); intro Kq hKq rq nq hq; go_simp) | (apply wpList_cv .f64 .f32 (by decide) und64 Try.underlying23; rfl; rfl; (first | assumption | exact is_lit64 _ (by decide) | exact is_lit32 _ (by decide)); assumption; intro Kq hKq rq nq hq; go_simp) | (go_at_call 65; refine (sqrt_any (by assumption) _).mono ?_; rintro eq wq ⟨rq, nq, rfl, hq, rfl⟩))
  go_ret
  exact ⟨_, _, rfl, by assumption, rfl⟩

end Go.Proofs.Ytjljdnkedbejaaa
