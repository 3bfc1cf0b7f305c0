/-
  Opposites of numbers. No condition.
-/
import Derived.Test.YtjljdnkedbejaaaBase
import Derived.Test.YtjljdnkedbejaaaLow
namespace Go.Proofs.Ytjljdnkedbejaaa
open Go.RowKit

/-! ### Opposites -/
def negO (k : FloatKind) (v : Option Nat) : Option Nat := v.map (Op.negFloat k)

theorem read_neg (k : FloatKind) {x : Nat} (h : x < 2 ^ k.format.width) : k.format.read (Op.negFloat k x) = (k.format.read x).opposite ∧ Op.negFloat k x < 2 ^ k.format.width := by
  have hw : k.format.width = (k.format.exponentBits + k.format.fractionBits) + 1 := by unfold Ieee.Format.width; omega
  have hs : k.format.signWeight = 2 ^ (k.format.exponentBits + k.format.fractionBits) := rfl
  have h2 : x < 2 ^ (k.format.exponentBits + k.format.fractionBits) * 2 := by rw [hw, Nat.pow_succ] at h; exact h
  unfold Op.negFloat
  have hm : (x ^^^ 2 ^ (k.format.exponentBits + k.format.fractionBits)) % 2 ^ (k.format.exponentBits + k.format.fractionBits) = x % 2 ^ (k.format.exponentBits + k.format.fractionBits) := by
    rw [Nat.xor_mod_two_pow, Nat.mod_self, Nat.xor_zero]
  have hd : (x ^^^ 2 ^ (k.format.exponentBits + k.format.fractionBits)) / 2 ^ (k.format.exponentBits + k.format.fractionBits) = x / 2 ^ (k.format.exponentBits + k.format.fractionBits) ^^^ 1 := by
    rw [Nat.xor_div_two_pow, Nat.div_self (Nat.two_pow_pos _)]
  have hq : x / 2 ^ (k.format.exponentBits + k.format.fractionBits) < 2 := Nat.div_lt_of_lt_mul h2
  refine ⟨?_, by rw [hw]; exact Nat.xor_lt_two_pow (by rw [Nat.pow_succ]; exact h2) (Nat.pow_lt_pow_right (by decide) (by omega))⟩
  have hneg : (x / 2 ^ (k.format.exponentBits + k.format.fractionBits) ^^^ 1) % 2 = 1 - x / 2 ^ (k.format.exponentBits + k.format.fractionBits) % 2 := by
    generalize x / 2 ^ (k.format.exponentBits + k.format.fractionBits) = q at hq
    have : q = 0 ∨ q = 1 := by omega
    rcases this with rfl | rfl <;> rfl
  have hb : ((x / 2 ^ (k.format.exponentBits + k.format.fractionBits) ^^^ 1) % 2 == 1) = !(x / 2 ^ (k.format.exponentBits + k.format.fractionBits) % 2 == 1) := by
    rw [hneg]
    generalize x / 2 ^ (k.format.exponentBits + k.format.fractionBits) = q at hq
    have : q = 0 ∨ q = 1 := by omega
    rcases this with rfl | rfl <;> rfl
  unfold Ieee.Format.read
  simp only [hs, hm, hd, hb]
  split
  · rfl
  · split
    · rfl
    · split <;> rfl

theorem is_neg {k : FloatKind} {x : Nat} {v : Option Nat} (ix : Is k x v) : Is k (Op.negFloat k x) (negO k v) := by
  obtain ⟨hr, hl⟩ := read_neg k ix.2
  refine ⟨?_, hl⟩
  have h1 := ix.1
  unfold nrm FloatKind.decode at h1 ⊢
  rw [hr, isNaN_opposite]
  by_cases hn : (k.format.read x).isNaN = true
  · rw [if_pos hn] at h1 ⊢; rw [← h1]; rfl
  · rw [if_neg hn] at h1 ⊢; rw [← h1]; rfl

/-- The step of a walk at '-x'. -/
theorem wpList_neg {P : Program} {w : World} {ops : Array Oper} {rest : List Oper} {dt ty ps af gd} {a : Act} {Q : Exit → Act → World → Prop}
    {t : TypeId} {xo : Operand} {k : FloatKind} {x : Nat} {va : Option Nat} (hw : Region.wanted { dst := dt, op := .unOp .neg t xo, type := ty, pos := ps, after := af, guard := gd } (yielded ops a.tmps) = true)
    (hx : a.eval xo = .float k x) (ix : Is k x va)
    (h : ∀ K : Act → World → Prop, (∀ a w, wpList P ops Q rest a w → K a w) → ∀ r, Is k r (negO k va) → K (a.put dt (.float k r)) w) : wpList P ops Q ({ dst := dt, op := .unOp .neg t xo, type := ty, pos := ps, after := af, guard := gd } :: rest) a w := by
  refine wpList_wanted hw fun K hK => ?_
  unfold Oper.wp
  simp [execOp, hx, Op.unary, Oper.upon]
  exact h K hK _ (is_neg ix)
end Go.Proofs.Ytjljdnkedbejaaa
