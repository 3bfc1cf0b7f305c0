/-
  Single precision: signs of quotients. No condition.
-/
import Derived.Test.YtjljdnkedbejaaaSin0
import Derived.Test.YtjljdnkedbejaaaNegT
namespace Go.Proofs.Ytjljdnkedbejaaa
open Go.RowKit

theorem word_neg (k : FloatKind) (s : Bool) (q : Nat) (hq : q < k.format.signWeight) : k.format.word (!s) q = Op.negFloat k (k.format.word s q) := by
  have hs : k.format.signWeight = 2 ^ (k.format.exponentBits + k.format.fractionBits) := rfl
  unfold Ieee.Format.word Op.negFloat
  rw [hs] at hq ⊢
  have h1 : q ^^^ 2 ^ (k.format.exponentBits + k.format.fractionBits) = 2 ^ (k.format.exponentBits + k.format.fractionBits) + q := by
    rw [Nat.xor_comm, Nat.add_comm]
    have := Nat.two_pow_add_eq_or_of_lt hq 1
    rw [Nat.mul_one] at this
    rw [Nat.add_comm, this]
    apply Nat.eq_of_testBit_eq
    intro i
    rw [Nat.testBit_xor, Nat.testBit_or]
    by_cases hi : i = k.format.exponentBits + k.format.fractionBits
    · subst hi
      rw [Nat.testBit_lt_two_pow hq]; simp
    · rw [Nat.testBit_two_pow_of_ne (fun h => hi h.symm)]; simp
  cases s with
  | false => simpa using h1.symm
  | true =>
    simp only [Bool.not_true, Bool.false_eq_true, if_false, if_true]
    rw [← h1, Nat.xor_assoc, Nat.xor_self, Nat.xor_zero]

theorem nearest_neg (k : FloatKind) (s : Bool) (m : Nat) (e : Int) : k.format.nearest (!s) m e = Op.negFloat k (k.format.nearest s m e) := by
  have hi := k.format.infRung_lt
  unfold Ieee.Format.nearest
  by_cases hm : m = 0
  · rw [if_pos hm, if_pos hm]; exact word_neg k s 0 (Nat.lt_of_le_of_lt (Nat.zero_le _) hi)
  · rw [if_neg hm, if_neg hm]
    have hc : ∀ n d, Ieee.Toward.even.cut (!s) n d = Ieee.Toward.even.cut s n d := fun n d => rfl
    simp only [hc]
    exact word_neg k s _ (Nat.lt_of_le_of_lt (Nat.min_le_right ..) hi)

/-- The quotient of the opposite of a number is the opposite of the quotient. -/
theorem quo_neg {k : FloatKind} {x : Nat} {u v : Option Nat} (ix : Is k x u) : fo .quo k (negO k u) v = negO k (fo .quo k u v) := by
  cases u with
  | none => rfl
  | some z =>
    obtain rfl := ix.notNaN
    cases v with
    | none => rfl
    | some y =>
      obtain ⟨hr, -⟩ := read_neg k ix.2
      have hi := k.format.infRung_lt
      simp only [negO, Option.map_some, fo, Option.bind_some, floatBits, Ieee.Format.div, hr]
      cases hx : k.format.read x with
      | nan s f => have := ix.dec; unfold FloatKind.decode at this; rw [hx] at this; cases this
      | infinity s =>
        cases hy : k.format.read y with
        | nan t f => rfl
        | infinity t => rfl
        | number t n j =>
          simp only [Ieee.Datum.opposite, Ieee.Datum.quotient, Option.map_some, Ieee.Format.write]
          rw [← word_neg k _ _ hi]; simp
      | number s m e =>
        cases hy : k.format.read y with
        | nan t f => rfl
        | infinity t =>
          simp only [Ieee.Datum.opposite, Ieee.Datum.quotient, Option.map_some, Ieee.Format.write]
          rw [← nearest_neg]; simp
        | number t n j =>
          simp only [Ieee.Datum.opposite, Ieee.Datum.quotient]
          by_cases hn : n = 0
          · rw [if_pos hn, if_pos hn]
            by_cases hm : m = 0
            · rw [if_pos hm, if_pos hm]; rfl
            · rw [if_neg hm, if_neg hm]
              simp only [Option.map_some, Ieee.Format.write]
              rw [← word_neg k _ _ hi]; simp
          · rw [if_neg hn, if_neg hn]
            simp only [Option.map_some, Ieee.Format.write]
            rw [← nearest_neg]; simp
end Go.Proofs.Ytjljdnkedbejaaa
