/-
  The sine of what is left of some turns, its bound, and that the program and the model take the sine of the same. No condition.
-/
import Derived.Test.YtlfcjfaddcciaaaSine
namespace Go.Proofs.Ytlfcjfaddcciaaa
open Go.RowKit

def serS (u : Option Nat) : Nat → Option Nat
  | 0 => some 4607182418800017408
  | j + 1 => fo .sub .f64 (some 4607182418800017408) (fo .quo .f64 (fo .mul .f64 u (serS u j)) (ifO (2 * (8 - (j : Int)) * (2 * (8 - (j : Int)) + 1))))

/-- What is left, made whole turns upwards: from 0 to 1. -/
def up1 (f : Option Nat) : Option Nat := if cmpB .lss .f64 f (some 0) then fo .add .f64 f (some 4607182418800017408) else f
def turnB (f : Option Nat) : Bool := cmpB .geq .f64 f (some 4602678819172646912)
def low2 (f : Option Nat) : Option Nat := if turnB f then fo .sub .f64 f (some 4602678819172646912) else f
def low4 (f : Option Nat) : Option Nat := if cmpB .gtr .f64 f (some 4598175219545276416) then fo .sub .f64 (some 4602678819172646912) f else f
def sinZ (z : Option Nat) : Option Nat := fo .mul .f64 z (serS (fo .mul .f64 z z) 8)
def sinR (f : Option Nat) : Option Nat := sinZ (fo .mul .f64 (low4 (low2 f)) (some 4618760256179416344))
def sinF (f : Option Nat) : Option Nat := if turnB (up1 f) then negO .f64 (sinR (up1 f)) else sinR (up1 f)

theorem le_serS {u : Option Nat} (h : LeO .f64 u 12) : ∀ j, j ≤ 8 → LeO .f64 (serS u j) (13 * (j : Int))
  | 0, _ => le_lit (by kernel_rfl)
  | j + 1, hj => by
    have h1 := le_mul h (le_serS h j (by omega)) (by simp [tLeast]; omega) (by simp [tMost]; omega)
    have hk : 1 ≤ 2 * (8 - (j : Int)) * (2 * (8 - (j : Int)) + 1) := by
      have h2 : 1 ≤ 8 - (j : Int) := by omega
      generalize 8 - (j : Int) = k at h2
      have h3 : (0 : Int) < 2 * k := by omega
      have h4 : (0 : Int) < 2 * k + 1 := by omega
      have := Int.mul_pos h3 h4
      omega
    have h2 := le_div (tb := 0) h1 (ge_if hk) (by simp [tLeast]; omega) (by simp [tMost]; omega)
    exact (le_sub (u := 13 * (j : Int) + 12) (le_lit (b := 4607182418800017408) (t := 0) (by kernel_rfl) |>.mono (by omega)) (h2.mono (by omega)) (by simp [tLeast]; omega) (by simp [tMost]; omega)).mono (by omega)

theorem le_up1 {f : Option Nat} (h : LeO .f64 f 0) : LeO .f64 (up1 f) 1 := by
  unfold up1; split
  · exact le_add (u := 0) h (le_lit (by kernel_rfl)) (by decide) (by decide)
  · exact h.mono (by decide)
theorem le_sinR {f : Option Nat} (h : LeO .f64 f 1) : LeO .f64 (sinR f) 110 := by
  have h2 : LeO .f64 (low2 f) 2 := by
    unfold low2; split
    · exact le_sub (u := 1) h (le_lit (by kernel_rfl)) (by decide) (by decide)
    · exact h.mono (by decide)
  have h4 : LeO .f64 (low4 (low2 f)) 3 := by
    unfold low4; split
    · exact le_sub (u := 2) (le_lit (by kernel_rfl)) h2 (by decide) (by decide)
    · exact h2.mono (by decide)
  have hz := le_mul (tb := 3) h4 (le_lit (b := 4618760256179416344) (by kernel_rfl)) (by decide) (by decide)
  have hu := le_mul hz hz (by decide) (by decide)
  exact (le_mul hz (le_serS (hu.mono (by decide)) 8 (Nat.le_refl _)) (by decide) (by decide)).mono (by decide)
theorem le_sinF {f : Option Nat} (h : LeO .f64 f 0) : LeO .f64 (sinF f) 110 := by
  have h1 := le_sinR (le_up1 h)
  unfold sinF
  split
  · exact le_neg (fun r hr => fo_lt hr) h1
  · exact h1

/-- The sine as the model tells it. -/
def sinS (v : Option Nat) : Option Nat := if cmpB .neq .f64 (fo .sub .f64 v v) (some 0) then none else if cmpB .geq .f64 v (some 4841369599423283200) || cmpB .leq .f64 v (some 14064741636278059008) then some 0 else sinF (fo .sub .f64 v (ifO (intN v)))

theorem sinF_zero : sinF (some 0) = some 0 := by decide +kernel
theorem sinF_none : sinF none = none := by decide +kernel

theorem great_cmp {y : Nat} (h : y < 2 ^ 64) {s : Bool} {m : Nat} {e : Int} (hd : FloatKind.f64.decode y = .number s m e) :
    (cmpB .geq .f64 (some y) (some 4841369599423283200) || cmpB .leq .f64 (some y) (some 14064741636278059008)) = decide (0 ≤ e) := by
  obtain ⟨h1, h2, h3, _, _⟩ := read_facts h hd
  have o1 := ord_some (order_num hd (show FloatKind.f64.decode 4841369599423283200 = .number false (2 ^ 52) 0 from by rfl))
  have o2 := ord_some (order_num hd (show FloatKind.f64.decode 14064741636278059008 = .number true (2 ^ 52) 0 from by rfl))
  unfold cmpB
  simp only [o1, o2]
  by_cases he : 0 ≤ e
  · have hmin : min e 0 = 0 := by omega
    have hm : 2 ^ 52 ≤ m := by rcases h3 with h3 | h3 <;> omega
    have hX : 2 ^ 52 ≤ m <<< (e - 0).toNat := by rw [Nat.shiftLeft_eq]; exact Nat.le_trans hm (Nat.le_mul_of_pos_right _ (Nat.two_pow_pos _))
    have hz : (2 ^ 52 : Nat) <<< ((0 : Int) - 0).toNat = 2 ^ 52 := by decide
    simp only [hmin, he, decide_true]
    unfold Ieee.signed
    rw [hz]
    generalize m <<< (e - 0).toNat = X at hX
    cases s
    · simp only [Bool.false_eq_true, if_false]
      have : compare ((X : Nat) : Int) ((2 ^ 52 : Nat) : Int) ≠ .lt := by rw [Ne, Int.compare_eq_lt]; omega
      cases hc : compare ((X : Nat) : Int) ((2 ^ 52 : Nat) : Int) with
      | lt => exact absurd hc this
      | eq => simp
      | gt => simp
    · simp only [if_true]
      have : compare (-((X : Nat) : Int)) (-((2 ^ 52 : Nat) : Int)) ≠ .gt := by rw [Ne, Int.compare_eq_gt]; omega
      cases hc : compare (-((X : Nat) : Int)) (-((2 ^ 52 : Nat) : Int)) with
      | gt => exact absurd hc this
      | eq => simp
      | lt => simp
  · have hmin : min e 0 = e := by omega
    have hs : m <<< (e - e).toNat = m := by rw [Int.sub_self]; simp
    have hY : 2 ^ 53 ≤ (2 ^ 52 : Nat) <<< (0 - e).toNat := by
      rw [Nat.shiftLeft_eq, ← Nat.pow_add]
      exact Nat.pow_le_pow_right (by decide) (by omega)
    simp only [hmin, he, decide_false]
    unfold Ieee.signed
    rw [hs]
    generalize (2 ^ 52 : Nat) <<< (0 - e).toNat = Y at hY
    have c1 : compare (if s = true then -((m : Nat) : Int) else ((m : Nat) : Int)) ((Y : Nat) : Int) = .lt := by rw [Int.compare_eq_lt]; split <;> omega
    have c2 : compare (if s = true then -((m : Nat) : Int) else ((m : Nat) : Int)) (-((Y : Nat) : Int)) = .gt := by rw [Int.compare_eq_gt]; split <;> omega
    simp only [Bool.false_eq_true, if_false, if_true, c1, c2]
    rfl

theorem sin_same {y : Nat} {v : Option Nat} (iy : Is .f64 y v) : sinS v = sinF (partO v) := by
  cases v with
  | none => rw [show partO none = none from rfl, sinF_none]; rfl
  | some z =>
    obtain rfl := iy.notNaN
    have hy : y < 2 ^ 64 := iy.2
    cases hd : FloatKind.f64.decode y with
    | nan s f => have := iy.dec; rw [hd] at this; cases this
    | infinity s =>
      have h1 : fo .sub .f64 (some y) (some y) = none := by
        unfold FloatKind.decode at hd
        simp [fo, floatBits, Ieee.Format.sub, hd, Ieee.Datum.opposite, Ieee.Datum.sum]
      have h2 : partO (some y) = none := by
        have ht : truncO (some y) = some (FloatKind.f64.encode (.infinity s)) := by
          unfold truncO
          simp only [Option.bind_some, hd]
          rfl
        have he : y = FloatKind.f64.encode (.infinity s) ∨ True := .inr trivial
        unfold partO
        have hn : cmpB .neq .f64 (truncO (some y)) (some 0) = true := by rw [ht]; cases s <;> decide +kernel
        rw [hn, ht]
        simp only [if_true]
        unfold FloatKind.decode at hd
        have hi := inf_write .f64 s
        unfold FloatKind.decode at hi
        simp [fo, floatBits, Ieee.Format.sub, hd, hi, Ieee.Datum.opposite, Ieee.Datum.sum]
      unfold sinS
      rw [h1, h2, sinF_none]
      rfl
    | number s m e =>
      have hc := great_cmp hy hd
      unfold sinS
      rw [self_sub hd, hc]
      have hz : cmpB .neq .f64 (some 0) (some 0) = false := by decide +kernel
      rw [hz]
      by_cases he : 0 ≤ e
      · rw [part_great hy hd he, sinF_zero]
        simp [he]
      · rw [(part_small hy hd (by omega)).1]
        simp [he]

theorem le_sinS {y : Nat} {v : Option Nat} (iy : Is .f64 y v) : LeO .f64 (sinS v) 110 := by
  cases v with
  | none => rw [show sinS none = none from rfl]; exact LeO.none
  | some z =>
    obtain rfl := iy.notNaN
    have hy : y < 2 ^ 64 := iy.2
    cases hd : FloatKind.f64.decode y with
    | nan s f => have := iy.dec; rw [hd] at this; cases this
    | infinity s =>
      have h1 : fo .sub .f64 (some y) (some y) = none := by
        unfold FloatKind.decode at hd
        simp [fo, floatBits, Ieee.Format.sub, hd, Ieee.Datum.opposite, Ieee.Datum.sum]
      unfold sinS
      rw [h1]
      exact LeO.none
    | number s m e =>
      rw [sin_same iy]
      by_cases he : 0 ≤ e
      · rw [part_great hy hd he, sinF_zero]; exact le_lit (by kernel_rfl)
      · exact le_sinF (part_small hy hd (by omega)).2.1
end Go.Proofs.Ytlfcjfaddcciaaa
