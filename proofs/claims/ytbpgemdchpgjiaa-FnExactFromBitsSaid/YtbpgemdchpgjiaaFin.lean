/-
  What the functions say that ask whether a number is finite, and those that make a number of its bits: of the program and of the model. No condition.
-/
import Derived.Test.YtbpgemdchpgjiaaBits
namespace Go.Proofs.Ytbpgemdchpgjiaa
open Go.RowKit

theorem f64bits (x : Nat) (w : World) : (callFunc 28 #[.float .f64 x]).run Try.prog w = .ok (.value (.int .u64 x)) w := by
  rw [run_callFunc_extern Try.func28 (by kernel_rfl) (by kernel_rfl) (by kernel_rfl) (e := Extern.MathFloatBits.float64bits) (by kernel_rfl)]; rfl
theorem f64from (n : Int) (w : World) : (callFunc 27 #[.int .u64 n]).run Try.prog w = .ok (.value (.float .f64 n.toNat)) w := by
  rw [run_callFunc_extern Try.func27 (by kernel_rfl) (by kernel_rfl) (by kernel_rfl) (e := Extern.MathFloatBits.float64frombits) (by kernel_rfl)]; rfl
theorem f32from (n : Int) (w : World) : (callFunc 24 #[.int .u32 n]).run Try.prog w = .ok (.value (.float .f32 n.toNat)) w := by
  rw [run_callFunc_extern Try.func24 (by kernel_rfl) (by kernel_rfl) (by kernel_rfl) (e := Extern.MathFloatBits.float32frombits) (by kernel_rfl)]; rfl

def absO (v : Option Nat) : Option Nat := v.map fun b => b % 2 ^ 63

theorem is_abs {x : Nat} {v : Option Nat} (ix : Is .f64 x v) : Is .f64 (x % 2 ^ 63) (absO v) := by
  have hr := read_abs .f64 x
  have e : FloatKind.f64.format.signWeight = 2 ^ 63 := rfl
  rw [e] at hr
  refine ⟨?_, Nat.lt_of_lt_of_le (Nat.mod_lt _ (Nat.two_pow_pos _)) (Nat.pow_le_pow_right (by decide) (by decide))⟩
  cases v with
  | none =>
    have hn : (FloatKind.f64.format.read x).isNaN = true := by
      have h1 := ix.1
      unfold nrm at h1
      by_cases hn : (FloatKind.f64.decode x).isNaN = true
      · exact hn
      · rw [if_neg hn] at h1; cases h1
    obtain ⟨s, f, hd⟩ := nan_cases hn
    rw [hd] at hr
    unfold nrm FloatKind.decode
    rw [hr]; rfl
  | some y =>
    obtain rfl := ix.notNaN
    have hn := ix.dec
    unfold FloatKind.decode at hn
    unfold nrm FloatKind.decode
    rw [hr]
    cases hd : FloatKind.f64.format.read x with
    | number s m e => rfl
    | infinity s => rfl
    | nan s f => rw [hd] at hn; cases hn

theorem abs_bits {x : Nat} (h : x < 2 ^ 64) : (bits .andNot .u64 (x : Int) 9223372036854775808).toNat = x % 2 ^ 63 := by
  have h' : x < 18446744073709551616 := h
  rw [u64_andNot (x : Int) 9223372036854775808 (by omega) (by omega) (by decide) (by decide), Int.toNat_natCast, Int.toNat_natCast]
  show x &&& (2 ^ 63 - 1) = _
  rw [Nat.and_two_pow_sub_one_eq_mod]

theorem abs_any {x : Nat} {v : Option Nat} (ix : Is .f64 x v) (w : World) :
    Calls Try.prog 26 #[.float .f64 x] w (RetF .f64 (absO v) w) := by
  have hb := f64bits
  have hf := f64from
  go_enter Try.func26, Try.ntmps26
  go_wp2
  go_ret
  exact ⟨_, 0, rfl, (abs_bits ix.2).symm ▸ is_abs ix, rfl⟩

theorem isInf_any {x : Nat} {v : Option Nat} (ix : Is .f64 x v) (w : World) :
    Calls Try.prog 25 #[.float .f64 x, .int .i64 0] w (RetV (.bool (cmpB .gtr .f64 (absO v) (some 9218868437227405311))) w) := by
  go_enter Try.func25, Try.ntmps25
  go_wp2_with (first | (apply wpList_cmp; rfl; simp [Cmp]; rfl; rfl; (first | assumption | exact is_lit64 _ (by decide) | exact is_lit32 _ (by decide)); (first | assumption | exact is_lit64 _ (by decide) | exact is_lit32 _ (by decide)); intro Kq hKq; go_simp) | (go_at_call 26; refine (abs_any ix _).mono ?_; rintro eq wq ⟨rq, nq, rfl, hq, rfl⟩))
  go_ret
  exact RetV.mk _

/-- Whether a 64-bit number is finite, as the program asks. -/
def finW (v : Option Nat) : Bool := !cmpB .neq .f64 v v && !cmpB .gtr .f64 (absO v) (some 9218868437227405311)

theorem isFiniteWide_any {x : Nat} {v : Option Nat} (ix : Is .f64 x v) (w : World) :
    Calls Try.prog 18 #[.float .f64 x] w (RetV (.bool (finW v)) w) := by
  have hn := neq_of ix
  cases hv : v.isNone with
  | true =>
    rw [hv] at hn
    go_enter Try.func18, Try.ntmps18
    go_wp2_with (first | (go_at_call 20; refine (isNaN_any ix _).mono ?_; rintro eq wq ⟨nq, rfl, rfl⟩) | (go_at_call 25; refine (isInf_any ix _).mono ?_; rintro eq wq ⟨nq, rfl, rfl⟩))
    go_ret
    exact RetV.eq _ (by simp [finW, hn])
  | false =>
    rw [hv] at hn
    go_enter Try.func18, Try.ntmps18
    go_wp2_with (first | (go_at_call 20; refine (isNaN_any ix _).mono ?_; rintro eq wq ⟨nq, rfl, rfl⟩) | (go_at_call 25; refine (isInf_any ix _).mono ?_; rintro eq wq ⟨nq, rfl, rfl⟩))
    go_ret
    exact RetV.eq _ (by simp [finW, hn])

theorem implFinite_any {x : Nat} {v : Option Nat} (ix : Is .f32 x v) (w : World) :
    Calls Try.prog 10 #[.float .f32 x] w (RetV (.bool (finW (cv .f32 .f64 v))) w) := by
  go_enter Try.func10, Try.ntmps10
  go_wp2_with (first | (apply wpList_wide und32 Try.underlying29; rfl; rfl; (first | assumption | exact is_lit64 _ (by decide) | exact is_lit32 _ (by decide)); intro Kq hKq rq nq hq; go_simp) | (go_at_call 18; refine (isFiniteWide_any (by assumption) _).mono ?_; rintro eq wq ⟨nq, rfl, rfl⟩))
  go_ret
  exact RetV.mk _

/-- Whether a 32-bit number is finite, as the model asks. -/
def finS (v : Option Nat) : Bool := cmpB .eql .f32 (fo .sub .f32 v v) (some 0)

theorem finite_any {x : Nat} {v : Option Nat} (ix : Is .f32 x v) (w : World) :
    Calls Try.prog 17 #[.float .f32 x] w (RetV (.bool (finS v)) w) := by
  go_enter Try.func17, Try.ntmps17
  go_wp2_with (first | (apply wpList_cmp; rfl; simp [Cmp]; rfl; rfl; (first | assumption | exact is_lit64 _ (by decide) | exact is_lit32 _ (by decide)); (first | assumption | exact is_lit64 _ (by decide) | exact is_lit32 _ (by decide)); intro Kq hKq; go_simp) | (apply wpList_arith; rfl; simp [Arith]; rfl; rfl; (first | assumption | exact is_lit64 _ (by decide) | exact is_lit32 _ (by decide)); (first | assumption | exact is_lit64 _ (by decide) | exact is_lit32 _ (by decide)); intro Kq hKq rq nq hq; go_simp))
  go_ret
  exact RetV.mk _

theorem specFinite_any {x : Nat} {v : Option Nat} (ix : Is .f32 x v) (w : World) :
    Calls Try.prog 9 #[.float .f32 x] w (RetV (.bool (finS v)) w) := by
  go_enter Try.func9, Try.ntmps9
  go_wp2_with (go_at_call 17; refine (finite_any ix _).mono ?_; rintro eq wq ⟨nq, rfl, rfl⟩)
  go_ret
  exact RetV.mk _

theorem absO_cmp_low {y : Nat} (h : Low (FloatKind.f64.decode y) 1000) : cmpB .gtr .f64 (absO (some y)) (some 9218868437227405311) = false := by
  have hr := read_abs .f64 y
  have e : FloatKind.f64.format.signWeight = 2 ^ 63 := rfl
  rw [e] at hr
  obtain ⟨s, m, i, hd, hm⟩ := h
  unfold FloatKind.decode at hd
  rw [hd] at hr
  have ho : FloatKind.f64.format.order (y % 2 ^ 63) 9218868437227405311 = some .lt :=
    order_lt (t := 1000) (n := 9007199254740991) (j := 971) ⟨false, m, i, hr, hm⟩ rfl (by decide) (by decide)
  have h1 : absO (some y) = some (y % 2 ^ 63) := rfl
  have h2 : ordO .f64 (some (y % 2 ^ 63)) (some 9218868437227405311) = some .lt := ho
  simp [cmpB, h1, h2]

/-- Both ways to ask say the same. -/
theorem fin_same {x : Nat} {v : Option Nat} (ix : Is .f32 x v) : finW (cv .f32 .f64 v) = finS v := by
  cases v with
  | none => rfl
  | some z =>
    obtain rfl := ix.notNaN
    obtain ⟨y, hy⟩ := Option.isSome_iff_exists.1 (fit_widen ix x rfl)
    have hc : cv .f32 .f64 (some x) = some y := hy
    have hq := cv_neq ix
    unfold finW
    rw [hq, hc, show (some x).isNone = false from rfl]
    unfold floatToFloatBits at hy
    rw [if_neg (by decide)] at hy
    rcases single_low ix.dec with ⟨s, hs⟩ | ⟨s, m, e, hd, hm⟩
    · rw [hs] at hy
      simp only [Option.some.injEq] at hy
      subst hy
      have hsub : fo .sub .f32 (some x) (some x) = none := by
        unfold FloatKind.decode at hs
        simp [fo, floatBits, Ieee.Format.sub, hs, Ieee.Datum.opposite, Ieee.Datum.sum]
      unfold finS
      rw [hsub]
      cases s <;> decide
    · rw [hd] at hy
      obtain ⟨s', m', e', hr, hb⟩ := write_low .f64 s m e 200 hm (by decide) (by decide)
      simp only [hr] at hy
      have hne : (Ieee.Datum.number s' m' e').isInfinity = false := rfl
      rw [if_neg (by rw [hne]; decide)] at hy
      simp only [Option.some.injEq] at hy
      subst hy
      rw [absO_cmp_low ⟨s', m', e', hr, fun h => Int.lt_of_lt_of_le (hb h) (by decide)⟩]
      have hsub : fo .sub .f32 (some x) (some x) = some 0 := by
        unfold FloatKind.decode at hd
        have h0 : Ieee.signed s m 0 + Ieee.signed (!s) m 0 = 0 := by cases s <;> simp [Ieee.signed] <;> omega
        simp [fo, floatBits, Ieee.Format.sub, hd, Ieee.Datum.opposite, Ieee.Datum.sum, h0]
        cases s <;> rfl
      unfold finS
      rw [hsub]
      decide

theorem walk_FnExactIsFinite (x : Nat) (w : World) (hx : x < 2 ^ 32) :
    Calls Try.prog 4 #[.float .f32 x] w fun e w' => e = .returned (.bool true) ∧ Below w.heap.size w w' := by
  have ix : Is .f32 x (nrm .f32 x) := Is.self hx
  have hs := fin_same ix
  go_enter Try.func4, Try.ntmps4
  go_wp2_with (first | (go_at_call 9; refine (specFinite_any (by assumption) _).mono ?_; rintro eq wq ⟨nq, rfl, rfl⟩) | (go_at_call 10; refine (implFinite_any (by assumption) _).mono ?_; rintro eq wq ⟨nq, rfl, rfl⟩))
  go_ret
  exact ⟨rfl, below_drewN (Below.refl _ _) _⟩
end Go.Proofs.Ytbpgemdchpgjiaa
