/-
  Whether a number is finite, of the program and of the model; the tenths of decibels of a power; and the law: for every number its text returns true, and writes nothing that was there. No condition.
-/
import Derived.Test.YtocomofgobaonaaLogZ
namespace Go.Proofs.Ytocomofgobaonaa
open Go.RowKit

theorem implFinite_any {x : Nat} {v : Option Nat} (ix : Is .f32 x v) (w : World) :
    Calls Try.prog 24 #[.float .f32 x] w (RetV (.bool (finW (cv .f32 .f64 v))) w) := by
  go_enter Try.func24, Try.ntmps24
  go_wp2_with (first | (apply wpList_wide und32 Try.underlying25; rfl; rfl; (first | assumption | exact is_lit64 _ (by decide) | exact is_lit32 _ (by decide)); intro Kq hKq rq nq hq; go_simp) | (go_at_call 34; refine (isFiniteWide_any (by assumption) _).mono ?_; rintro eq wq ⟨nq, rfl, rfl⟩))
  go_ret
  exact RetV.mk _

/-- Whether a 32-bit number is finite, as the model asks. -/
def finS (v : Option Nat) : Bool := cmpB .eql .f32 (fo .sub .f32 v v) (some 0)

theorem finite_any {x : Nat} {v : Option Nat} (ix : Is .f32 x v) (w : World) :
    Calls Try.prog 22 #[.float .f32 x] w (RetV (.bool (finS v)) w) := by
  go_enter Try.func22, Try.ntmps22
  go_wp2_with (first | (apply wpList_cmp; rfl; simp [Cmp]; rfl; rfl; (first | assumption | exact is_lit64 _ (by decide) | exact is_lit32 _ (by decide)); (first | assumption | exact is_lit64 _ (by decide) | exact is_lit32 _ (by decide)); intro Kq hKq; go_simp) | (apply wpList_arith; rfl; simp [Arith]; rfl; rfl; (first | assumption | exact is_lit64 _ (by decide) | exact is_lit32 _ (by decide)); (first | assumption | exact is_lit64 _ (by decide) | exact is_lit32 _ (by decide)); intro Kq hKq rq nq hq; go_simp))
  go_ret
  exact RetV.mk _

/-- Both ways to ask say the same. -/
theorem fin_same {x : Nat} {v : Option Nat} (ix : Is .f32 x v) : finW (cv .f32 .f64 v) = finS v := by
  cases v with
  | none => rfl
  | some z =>
    obtain rfl := ix.notNaN
    obtain ⟨y, hy⟩ := Option.isSome_iff_exists.1 (fit_widen ix x rfl)
    have hc : cv .f32 .f64 (some x) = some y := hy
    have hq := cv_neq ix
    unfold finW
    rw [hq, hc, show (some x).isNone = false from rfl]
    unfold floatToFloatBits at hy
    rw [if_neg (by decide)] at hy
    rcases single_low ix.dec with ⟨s, hs⟩ | ⟨s, m, e, hd, hm⟩
    · rw [hs] at hy
      simp only [Option.some.injEq] at hy
      subst hy
      have hsub : fo .sub .f32 (some x) (some x) = none := by
        unfold FloatKind.decode at hs
        simp [fo, floatBits, Ieee.Format.sub, hs, Ieee.Datum.opposite, Ieee.Datum.sum]
      unfold finS
      rw [hsub]
      cases s <;> decide
    · rw [hd] at hy
      obtain ⟨s', m', e', hr, hb⟩ := write_low .f64 s m e 200 hm (by decide) (by decide)
      simp only [hr] at hy
      have hne : (Ieee.Datum.number s' m' e').isInfinity = false := rfl
      rw [if_neg (by rw [hne]; decide)] at hy
      simp only [Option.some.injEq] at hy
      subst hy
      rw [absO_cmp_low ⟨s', m', e', hr, fun h => Int.lt_of_lt_of_le (hb h) (by decide)⟩]
      have hsub : fo .sub .f32 (some x) (some x) = some 0 := by
        unfold FloatKind.decode at hd
        have h0 : Ieee.signed s m 0 + Ieee.signed (!s) m 0 = 0 := by cases s <;> simp [Ieee.signed] <;> omega
        simp [fo, floatBits, Ieee.Format.sub, hd, Ieee.Datum.opposite, Ieee.Datum.sum, h0]
        cases s <;> rfl
      unfold finS
      rw [hsub]
      decide


def tenT (L : Option Nat) : Option Nat := fo .add .f64 (fo .mul .f64 L (some 4631308968768463603)) (some 4602678819172646912)

theorem sm_ten {L : Option Nat} (h : SmO .f64 L 42) : SmO .f64 (tenT L) 49 :=
  sm_add (u := 48) (sm_mul (tb := 6) h (sm_lit (by kernel_rfl)) (by decide) (by decide)) (sm_lit (by kernel_rfl)) (by decide) (by decide)

/-- What both make of a power that is finite and greater than 0. -/
theorem ten_int {L : Option Nat} (h : SmO .f64 L 42) : ∃ n : Int, ∃ f : Nat, (FloatKind.f64.decode f).toInt .zero = some n ∧ n.natAbs < 2 ^ 63 ∧
    ∀ y w, Is .f64 y (tenT L) → Calls Try.prog 26 #[.float .f64 y] w (RetV (.float .f64 f) w) := by
  obtain ⟨⟨x, hx⟩, hl⟩ := sm_ten h
  have hlt : x < 2 ^ 64 := fo_lt (show fo .add .f64 (fo .mul .f64 L (some 4631308968768463603)) (some 4602678819172646912) = some x from hx)
  rw [hx] at hl ⊢
  obtain ⟨s, m, e, hd, -⟩ := hl x rfl
  obtain ⟨f, n, hf, hn, hb⟩ := floor_int hlt hd hl
  refine ⟨n, f, hn, hb, fun y w iy => ?_⟩
  obtain rfl := iy.notNaN
  refine (floor_num hd w).mono ?_
  rintro e w' ⟨r, k, rfl, ir, rfl⟩
  rw [hf] at ir
  obtain rfl := ir.notNaN
  exact ⟨k, rfl, rfl⟩

theorem tenths_no {x : Nat} {v : Option Nat} (ix : Is .f32 x v) (h : finS v = false ∨ (finS v = true ∧ cmpB .leq .f32 v (some 0) = true)) (w : World) :
    (Calls Try.prog 14 #[.float .f32 x] w (RetV (.tuple #[.int .i64 0, .bool false]) w)) ∧ (Calls Try.prog 13 #[.float .f32 x] w (RetV (.tuple #[.int .i64 0, .bool false]) w)) := by
  have hs := fin_same ix
  rcases h with h | ⟨h, h'⟩
  · rw [h] at hs
    constructor
    · go_enter Try.func14, Try.ntmps14
      go_wp2_with (first | (apply wpList_cmp; rfl; simp [Cmp]; rfl; rfl; (first | assumption | exact is_lit64 _ (by decide) | exact is_lit32 _ (by decide)); (first | assumption | exact is_lit64 _ (by decide) | exact is_lit32 _ (by decide)); intro Kq hKq; go_simp) | (go_at_call 24; refine (implFinite_any ix _).mono ?_; rintro eq wq ⟨nq, rfl, rfl⟩))
      go_ret2
      exact RetV.mk _
    · go_enter Try.func13, Try.ntmps13
      go_wp2_with (first | (apply wpList_cmp; rfl; simp [Cmp]; rfl; rfl; (first | assumption | exact is_lit64 _ (by decide) | exact is_lit32 _ (by decide)); (first | assumption | exact is_lit64 _ (by decide) | exact is_lit32 _ (by decide)); intro Kq hKq; go_simp) | (go_at_call 22; refine (finite_any ix _).mono ?_; rintro eq wq ⟨nq, rfl, rfl⟩))
      go_ret2
      exact RetV.mk _
  · rw [h] at hs
    constructor
    · go_enter Try.func14, Try.ntmps14
      go_wp2_with (first | (apply wpList_cmp; rfl; simp [Cmp]; rfl; rfl; (first | assumption | exact is_lit64 _ (by decide) | exact is_lit32 _ (by decide)); (first | assumption | exact is_lit64 _ (by decide) | exact is_lit32 _ (by decide)); intro Kq hKq; go_simp) | (go_at_call 24; refine (implFinite_any ix _).mono ?_; rintro eq wq ⟨nq, rfl, rfl⟩))
      go_ret2
      exact RetV.mk _
    · go_enter Try.func13, Try.ntmps13
      go_wp2_with (first | (apply wpList_cmp; rfl; simp [Cmp]; rfl; rfl; (first | assumption | exact is_lit64 _ (by decide) | exact is_lit32 _ (by decide)); (first | assumption | exact is_lit64 _ (by decide) | exact is_lit32 _ (by decide)); intro Kq hKq; go_simp) | (go_at_call 22; refine (finite_any ix _).mono ?_; rintro eq wq ⟨nq, rfl, rfl⟩))
      go_ret2
      exact RetV.mk _

theorem tenths_yes {x : Nat} {v L : Option Nat} (ix : Is .f32 x v) (H : LogSame v (cv .f32 .f64 v) L) (h1 : finS v = true) (h2 : cmpB .leq .f32 v (some 0) = false) :
    ∃ n : Int, ∀ w, (Calls Try.prog 14 #[.float .f32 x] w (RetV (.tuple #[.int .i64 n, .bool true]) w)) ∧ (Calls Try.prog 13 #[.float .f32 x] w (RetV (.tuple #[.int .i64 n, .bool true]) w)) := by
  have hs := fin_same ix
  obtain ⟨hf, hi, hS, hL⟩ := H
  obtain ⟨n, f, hn, hr, hF⟩ := ten_int (hL (by rw [hs, h1]) h2)
  rw [h1] at hs
  unfold tenT at hF
  refine ⟨n, fun w => ⟨?_, ?_⟩⟩
  · go_enter Try.func14, Try.ntmps14
    go_wp2_with (first | (apply wpList_cmp; rfl; simp [Cmp]; rfl; rfl; (first | assumption | exact is_lit64 _ (by decide) | exact is_lit32 _ (by decide)); (first | assumption | exact is_lit64 _ (by decide) | exact is_lit32 _ (by decide)); intro Kq hKq; go_simp) | (apply wpList_arith; rfl; simp [Arith]; rfl; rfl; (first | assumption | exact is_lit64 _ (by decide) | exact is_lit32 _ (by decide)); (first | assumption | exact is_lit64 _ (by decide) | exact is_lit32 _ (by decide)); intro Kq hKq rq nq hq; go_simp) | (apply wpList_wide und32 Try.underlying25; rfl; rfl; (first | assumption | exact is_lit64 _ (by decide) | exact is_lit32 _ (by decide)); intro Kq hKq rq nq hq; go_simp) | (go_at_call 24; refine (implFinite_any ix _).mono ?_; rintro eq wq ⟨nq, rfl, rfl⟩) | (go_at_call 25; refine (hi _ _ (by assumption)).mono ?_; rintro eq wq ⟨rq, nq, rfl, hq, rfl⟩) | (go_at_call 26; refine (hF _ _ (by assumption)).mono ?_; rintro eq wq ⟨nq, rfl, rfl⟩) | (apply wpList_ftoi; exact Try.underlying25; exact Try.underlying2; rfl; rfl; exact hn; exact hr; intro Kq hKq; go_simp))
    go_ret2
    exact RetV.mk _
  · go_enter Try.func13, Try.ntmps13
    go_wp2_with (first | (apply wpList_cmp; rfl; simp [Cmp]; rfl; rfl; (first | assumption | exact is_lit64 _ (by decide) | exact is_lit32 _ (by decide)); (first | assumption | exact is_lit64 _ (by decide) | exact is_lit32 _ (by decide)); intro Kq hKq; go_simp) | (apply wpList_arith; rfl; simp [Arith]; rfl; rfl; (first | assumption | exact is_lit64 _ (by decide) | exact is_lit32 _ (by decide)); (first | assumption | exact is_lit64 _ (by decide) | exact is_lit32 _ (by decide)); intro Kq hKq rq nq hq; go_simp) | (apply wpList_wide und32 Try.underlying25; rfl; rfl; (first | assumption | exact is_lit64 _ (by decide) | exact is_lit32 _ (by decide)); intro Kq hKq rq nq hq; go_simp) | (go_at_call 22; refine (finite_any ix _).mono ?_; rintro eq wq ⟨nq, rfl, rfl⟩) | (go_at_call 33; refine (hS _ _ (by assumption)).mono ?_; rintro eq wq ⟨rq, nq, rfl, hq, rfl⟩) | (go_at_call 26; refine (hF _ _ (by assumption)).mono ?_; rintro eq wq ⟨nq, rfl, rfl⟩) | (apply wpList_ftoi; exact Try.underlying25; exact Try.underlying2; rfl; rfl; exact hn; exact hr; intro Kq hKq; go_simp) | (go_at_call 23; go_in))
    go_ret2
    exact RetV.mk _

theorem walk_FnExactTenthsOf (x : Nat) (w : World) (hx : x < 2 ^ 32) :
    Calls Try.prog 5 #[.float .f32 x] w fun e w' => e = .returned (.bool true) ∧ Below w.heap.size w w' := by
  have ix : Is .f32 x (nrm .f32 x) := Is.self hx
  obtain ⟨L, H⟩ := log_both ix
  obtain ⟨n, b, hb⟩ : ∃ n : Int, ∃ b : Bool, ∀ w, (Calls Try.prog 14 #[.float .f32 x] w (RetV (.tuple #[.int .i64 n, .bool b]) w)) ∧ (Calls Try.prog 13 #[.float .f32 x] w (RetV (.tuple #[.int .i64 n, .bool b]) w)) := by
    cases h1 : finS (nrm .f32 x) with
    | false => exact ⟨0, false, fun w => tenths_no ix (.inl h1) w⟩
    | true =>
      cases h2 : cmpB .leq .f32 (nrm .f32 x) (some 0) with
      | true => exact ⟨0, false, fun w => tenths_no ix (.inr ⟨h1, h2⟩) w⟩
      | false =>
        obtain ⟨n, hn⟩ := tenths_yes ix H h1 h2
        exact ⟨n, true, hn⟩
  go_enter Try.func5, Try.ntmps5
  go_wp2_with (first | (go_at_call 13; refine ((hb _).2).mono ?_; rintro eq wq ⟨nq, rfl, rfl⟩) | (go_at_call 14; refine ((hb _).1).mono ?_; rintro eq wq ⟨nq, rfl, rfl⟩))
  go_ret
  exact ⟨rfl, below_drewN (Below.refl _ _) _⟩
end Go.Proofs.Ytocomofgobaonaa
