/-
  64-bit numbers: both ways to ask whether a number is finite say the same, of any number. No condition.
-/
import Derived.Test.YtoomfcdaojmakaaNumT
import Derived.Test.YtoomfcdaojmakaaWord
import Derived.Test.YtoomfcdaojmakaaFacts
namespace Go.Proofs.Ytoomfcdaojmakaa
open Go.RowKit

theorem fin_is {y : Nat} (hy : y < 2 ^ 64) {s : Bool} {m : Nat} {e : Int} (hd : FloatKind.f64.decode y = .number s m e) : cmpB .gtr .f64 (absO (some y)) (some 9218868437227405311) = false := by
  obtain ⟨f1, f2, f3, f4, f5⟩ := read_facts hy hd
  have he : e ≤ 971 := by omega
  have hm : FloatKind.f64.decode 9218868437227405311 = .number false 9007199254740991 971 := by rfl
  have ho := ord_some (order_num (abs_num hd) hm)
  have e1 : absO (some y) = some (y % 2 ^ 63) := rfl
  have s1 : Ieee.signed false m (e - min e 971).toNat = ((m <<< (e - min e 971).toNat : Nat) : Int) := rfl
  have s2 : Ieee.signed false 9007199254740991 (971 - min e 971).toNat = ((9007199254740991 <<< (971 - min e 971).toNat : Nat) : Int) := rfl
  rw [s1, s2] at ho
  have h1 : (e - min e 971).toNat = 0 := by omega
  have hle : m <<< (e - min e 971).toNat ≤ 9007199254740991 <<< (971 - min e 971).toNat := by
    rw [h1, Nat.shiftLeft_zero, Nat.shiftLeft_eq]
    calc m ≤ 9007199254740991 * 1 := by omega
      _ ≤ 9007199254740991 * 2 ^ (971 - min e 971).toNat := Nat.mul_le_mul_left _ (Nat.two_pow_pos _)
  unfold cmpB
  rw [e1]
  simp only [ho]
  have hc : compare ((m <<< (e - min e 971).toNat : Nat) : Int) ((9007199254740991 <<< (971 - min e 971).toNat : Nat) : Int) ≠ .gt := by
    rw [ne_eq, Int.compare_eq_gt]
    omega
  generalize compare ((m <<< (e - min e 971).toNat : Nat) : Int) ((9007199254740991 <<< (971 - min e 971).toNat : Nat) : Int) = c at hc
  cases c <;> simp_all

theorem fin_gen {x : Nat} {v : Option Nat} (ix : Is .f64 x v) : cmpB .neq .f64 (fo .sub .f64 v v) (some 0) = !finW v ∧ (finW v = true → ∃ b s m e, v = some b ∧ FloatKind.f64.decode b = .number s m e) := by
  cases v with
  | none => exact ⟨rfl, fun h => by cases h⟩
  | some z =>
    obtain rfl := ix.notNaN
    have hn := neq_self ix
    cases hd : FloatKind.f64.decode x with
    | nan s f => have := ix.dec; rw [hd] at this; cases this
    | infinity s =>
      have hr := read_abs .f64 x
      have e1 : FloatKind.f64.format.signWeight = 2 ^ 63 := rfl
      unfold FloatKind.decode at hd
      rw [e1, hd] at hr
      have hf : finW (some x) = false := by
        unfold finW
        rw [hn]
        have ho : ordO .f64 (some (x % 2 ^ 63)) (some 9218868437227405311) = some .gt := by
          have hm : FloatKind.f64.format.read 9218868437227405311 = .number false 9007199254740991 971 := by rfl
          simp only [ordO, Option.bind_some, Ieee.Format.order, hr, hm]
          rfl
        have e2 : absO (some x) = some (x % 2 ^ 63) := rfl
        rw [e2]
        unfold cmpB
        simp only [ho]
        rfl
      rw [hf]
      have hs : fo .sub .f64 (some x) (some x) = none := by
        simp [fo, floatBits, Ieee.Format.sub, hd, Ieee.Datum.opposite, Ieee.Datum.sum]
      rw [hs]
      exact ⟨rfl, fun h => by cases h⟩
    | number s m e =>
      have hf : finW (some x) = true := by
        unfold finW
        rw [hn, fin_is ix.2 hd]
        rfl
      rw [hf]
      have hs : fo .sub .f64 (some x) (some x) = some 0 := by
        unfold FloatKind.decode at hd
        have h0 : Ieee.signed s m 0 + Ieee.signed (!s) m 0 = 0 := by cases s <;> simp [Ieee.signed] <;> omega
        simp [fo, floatBits, Ieee.Format.sub, hd, Ieee.Datum.opposite, Ieee.Datum.sum, h0]
        cases s <;> rfl
      rw [hs]
      exact ⟨rfl, fun _ => ⟨x, s, m, e, rfl, hd⟩⟩
end Go.Proofs.Ytoomfcdaojmakaa
