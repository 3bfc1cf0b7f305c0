/-
  The sine of a number of turns, of the program and of the model. No condition.
-/
import Derived.Test.YtlfcjfaddcciaaaSineY
import Derived.Test.YtlfcjfaddcciaaaNumS
namespace Go.Proofs.Ytlfcjfaddcciaaa
open Go.RowKit

theorem specSineW_any {y : Nat} {v : Option Nat} (iy : Is .f64 y v) (w : World) :
    Calls Try.prog 96 #[.float .f64 y] w (RetF .f64 (sinS v) w) := by
  cases hn : cmpB .neq .f64 (fo .sub .f64 v v) (some 0) with
  | true =>
    have e : sinS v = none := by unfold sinS; rw [hn]; rfl
    rw [e]
    clear e
    go_enter Try.func96, Try.ntmps96
    go_wp2_with (first | (apply wpList_cmp; rfl; simp [Cmp]; rfl; rfl; (first | assumption | exact is_lit64 _ (by decide) | exact is_lit32 _ (by decide)); (first | assumption | exact is_lit64 _ (by decide) | exact is_lit32 _ (by decide)); intro Kq hKq; go_simp) | (apply wpList_arith; rfl; simp [Arith]; rfl; rfl; (first | assumption | exact is_lit64 _ (by decide) | exact is_lit32 _ (by decide)); (first | assumption | exact is_lit64 _ (by decide) | exact is_lit32 _ (by decide)); intro Kq hKq rq nq hq; go_simp) | (go_at_call 102; refine (nan_is _).mono ?_; rintro eq wq ⟨rq, nq, rfl, hq, rfl⟩))
    go_ret
    exact ⟨_, _, rfl, by assumption, rfl⟩
  | false =>
    cases hg : cmpB .geq .f64 v (some 4841369599423283200) with
    | true =>
      have e : sinS v = some 0 := by unfold sinS; rw [hn, hg]; rfl
      rw [e]
      clear e
      go_enter Try.func96, Try.ntmps96
      go_wp2_with (first | (apply wpList_cmp; rfl; simp [Cmp]; rfl; rfl; (first | assumption | exact is_lit64 _ (by decide) | exact is_lit32 _ (by decide)); (first | assumption | exact is_lit64 _ (by decide) | exact is_lit32 _ (by decide)); intro Kq hKq; go_simp) | (apply wpList_arith; rfl; simp [Arith]; rfl; rfl; (first | assumption | exact is_lit64 _ (by decide) | exact is_lit32 _ (by decide)); (first | assumption | exact is_lit64 _ (by decide) | exact is_lit32 _ (by decide)); intro Kq hKq rq nq hq; go_simp))
      go_ret
      exact ⟨_, _, rfl, is_zero64, rfl⟩
    | false =>
      cases hl : cmpB .leq .f64 v (some 14064741636278059008) with
      | true =>
        have e : sinS v = some 0 := by unfold sinS; rw [hn, hg, hl]; rfl
        rw [e]
        clear e
        go_enter Try.func96, Try.ntmps96
        go_wp2_with (first | (apply wpList_cmp; rfl; simp [Cmp]; rfl; rfl; (first | assumption | exact is_lit64 _ (by decide) | exact is_lit32 _ (by decide)); (first | assumption | exact is_lit64 _ (by decide) | exact is_lit32 _ (by decide)); intro Kq hKq; go_simp) | (apply wpList_arith; rfl; simp [Arith]; rfl; rfl; (first | assumption | exact is_lit64 _ (by decide) | exact is_lit32 _ (by decide)); (first | assumption | exact is_lit64 _ (by decide) | exact is_lit32 _ (by decide)); intro Kq hKq rq nq hq; go_simp))
        go_ret
        exact ⟨_, _, rfl, is_zero64, rfl⟩
      | false =>
        cases v with
        | none => exact absurd hn (by decide)
        | some z =>
          obtain rfl := iy.notNaN
          cases hd : FloatKind.f64.decode y with
          | nan s f => have := iy.dec; rw [hd] at this; cases this
          | infinity s =>
            exfalso
            have h1 : fo .sub .f64 (some y) (some y) = none := by
              unfold FloatKind.decode at hd
              simp [fo, floatBits, Ieee.Format.sub, hd, Ieee.Datum.opposite, Ieee.Datum.sum]
            rw [h1] at hn
            cases hn
          | number s m e =>
            have hc := great_cmp iy.2 hd
            rw [hg, hl] at hc
            have he : e < 0 := by
              have : decide (0 ≤ e) = false := hc.symm
              have := of_decide_eq_false this
              omega
            have hi := int_num hd
            obtain ⟨_, _, hb⟩ := part_small iy.2 hd he
            have hI : intN (some y) = Ieee.signed s (m <<< e.toNat / 2 ^ (-e).toNat) 0 := by
              show ((FloatKind.f64.decode y).toInt .zero).getD 0 = _
              rw [hi]; rfl
            have e2 : sinS (some y) = sinF (fo .sub .f64 (some y) (ifO (intN (some y)))) := by
              unfold sinS; rw [hn, hg, hl]; rfl
            rw [e2]
            rw [← hI] at hi
            exact specMainS iy hi (Nat.lt_of_lt_of_le hb (by decide)) hn hg hl w

theorem is_fo {op : BinOp} {a b : Option Nat} : ∃ y, Is .f64 y (fo op .f64 a b) := by
  cases h : fo op .f64 a b with
  | none => exact ⟨9221120237041090561, by decide, by decide⟩
  | some r =>
    obtain ⟨x, y, _, _, hf⟩ := fo_some h
    exact ⟨r, floatBits_notNaN hf, fo_lt h⟩
theorem is_part {x : Nat} {v : Option Nat} (ix : Is .f64 x v) : ∃ y, Is .f64 y (partO v) := by
  unfold partO; split
  · exact is_fo
  · exact ⟨x, ix⟩
def sinP (v : Option Nat) : Option Nat := sinF (partO v)
theorem le_sinP {y : Nat} {v : Option Nat} (iy : Is .f64 y v) : LeO .f64 (sinP v) 110 := by
  unfold sinP; rw [← sin_same iy]; exact le_sinS iy
theorem sineP_any {x : Nat} {v : Option Nat} (ix : Is .f64 x v) (w : World) : Calls Try.prog 82 #[.float .f64 x] w (RetF .f64 (sinP v) w) := sineOf_any ix w
theorem specSineP_any {y : Nat} {v : Option Nat} (iy : Is .f64 y v) (w : World) : Calls Try.prog 96 #[.float .f64 y] w (RetF .f64 (sinP v) w) := by
  unfold sinP; rw [← sin_same iy]; exact specSineW_any iy w
end Go.Proofs.Ytlfcjfaddcciaaa
