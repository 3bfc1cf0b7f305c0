/-
  64-bit numbers: being finite, opposites; and when the two ways to ask whether a number is finite say the same. No condition.
-/
import Derived.Test.YtngjpbfiijkibaaAbs
import Derived.Test.YtngjpbfiijkibaaBound
namespace Go.Proofs.Ytngjpbfiijkibaa
open Go.RowKit

/-- Whether a 64-bit number is finite, as the program asks. -/
def finW (v : Option Nat) : Bool := !cmpB .neq .f64 v v && !cmpB .gtr .f64 (absO v) (some 9218868437227405311)

theorem absO_cmp_low {y : Nat} (h : Low (FloatKind.f64.decode y) 1000) : cmpB .gtr .f64 (absO (some y)) (some 9218868437227405311) = false := by
  have hr := read_abs .f64 y
  have e : FloatKind.f64.format.signWeight = 2 ^ 63 := rfl
  rw [e] at hr
  obtain ⟨s, m, i, hd, hm⟩ := h
  unfold FloatKind.decode at hd
  rw [hd] at hr
  have ho : FloatKind.f64.format.order (y % 2 ^ 63) 9218868437227405311 = some .lt :=
    order_lt (t := 1000) (n := 9007199254740991) (j := 971) ⟨false, m, i, hr, hm⟩ rfl (by decide) (by decide)
  have h1 : absO (some y) = some (y % 2 ^ 63) := rfl
  have h2 : ordO .f64 (some (y % 2 ^ 63)) (some 9218868437227405311) = some .lt := ho
  simp [cmpB, h1, h2]

/-- Of what a 32-bit number is in 64 bits: it is finite just where it taken from itself is zero. -/
theorem fin64 {x : Nat} {u : Option Nat} (ix : Is .f32 x u) : cmpB .neq .f64 (fo .sub .f64 (cv .f32 .f64 u) (cv .f32 .f64 u)) (some 0) = !finW (cv .f32 .f64 u) := by
  cases u with
  | none => rfl
  | some z =>
    obtain rfl := ix.notNaN
    obtain ⟨y, hy⟩ := Option.isSome_iff_exists.1 (fit_widen ix x rfl)
    have hc : cv .f32 .f64 (some x) = some y := hy
    have hq := cv_neq ix
    unfold finW
    rw [hq, hc, show (some x).isNone = false from rfl]
    unfold floatToFloatBits at hy
    rw [if_neg (by decide)] at hy
    rcases single_low ix.dec with ⟨s, hs⟩ | ⟨s, m, e, hd, hm⟩
    · rw [hs] at hy
      simp only [Option.some.injEq] at hy
      subst hy
      cases s <;> decide
    · rw [hd] at hy
      obtain ⟨s', m', e', hr, hb⟩ := write_low .f64 s m e 200 hm (by decide) (by decide)
      simp only [hr] at hy
      have hne : (Ieee.Datum.number s' m' e').isInfinity = false := rfl
      rw [if_neg (by rw [hne]; decide)] at hy
      simp only [Option.some.injEq] at hy
      subst hy
      rw [absO_cmp_low ⟨s', m', e', hr, fun h => Int.lt_of_lt_of_le (hb h) (by decide)⟩]
      have hsub : fo .sub .f64 (some (FloatKind.f64.encode (.number s m e))) (some (FloatKind.f64.encode (.number s m e))) = some 0 := by
        unfold FloatKind.decode at hr
        have h0 : Ieee.signed s' m' 0 + Ieee.signed (!s') m' 0 = 0 := by cases s' <;> simp [Ieee.signed] <;> omega
        simp [fo, floatBits, Ieee.Format.sub, hr, Ieee.Datum.opposite, Ieee.Datum.sum, h0]
        cases s' <;> rfl
      rw [hsub]
      decide

/-- A finite one is a number. -/
theorem fin_num {x : Nat} {u : Option Nat} (ix : Is .f32 x u) (hf : finW (cv .f32 .f64 u) = true) : ∃ y s m e, cv .f32 .f64 u = some y ∧ Is .f64 y (some y) ∧ FloatKind.f64.decode y = .number s m e := by
  cases u with
  | none => cases hf
  | some z =>
    obtain rfl := ix.notNaN
    obtain ⟨y, hy⟩ := Option.isSome_iff_exists.1 (fit_widen ix x rfl)
    have hc : cv .f32 .f64 (some x) = some y := hy
    rw [hc] at hf ⊢
    have hI : Is .f64 y (some y) := cv_notNaN (s := .f32) (by decide) hy
    unfold floatToFloatBits at hy
    rw [if_neg (by decide)] at hy
    rcases single_low ix.dec with ⟨s, hs⟩ | ⟨s, m, e, hd, hm⟩
    · rw [hs] at hy
      simp only [Option.some.injEq] at hy
      subst hy
      exfalso
      revert hf
      cases s <;> decide
    · rw [hd] at hy
      obtain ⟨s', m', e', hr, hb⟩ := write_low .f64 s m e 200 hm (by decide) (by decide)
      simp only [hr] at hy
      have hne : (Ieee.Datum.number s' m' e').isInfinity = false := rfl
      rw [if_neg (by rw [hne]; decide)] at hy
      simp only [Option.some.injEq] at hy
      subst hy
      exact ⟨_, s', m', e', rfl, hI, hr⟩

/-! ### Opposites -/
def negO (k : FloatKind) (v : Option Nat) : Option Nat := v.map (Op.negFloat k)

theorem read_neg (k : FloatKind) {x : Nat} (h : x < 2 ^ k.format.width) : k.format.read (Op.negFloat k x) = (k.format.read x).opposite ∧ Op.negFloat k x < 2 ^ k.format.width := by
  have hw : k.format.width = (k.format.exponentBits + k.format.fractionBits) + 1 := by unfold Ieee.Format.width; omega
  have hs : k.format.signWeight = 2 ^ (k.format.exponentBits + k.format.fractionBits) := rfl
  have h2 : x < 2 ^ (k.format.exponentBits + k.format.fractionBits) * 2 := by rw [hw, Nat.pow_succ] at h; exact h
  unfold Op.negFloat
  have hm : (x ^^^ 2 ^ (k.format.exponentBits + k.format.fractionBits)) % 2 ^ (k.format.exponentBits + k.format.fractionBits) = x % 2 ^ (k.format.exponentBits + k.format.fractionBits) := by
    rw [Nat.xor_mod_two_pow, Nat.mod_self, Nat.xor_zero]
  have hd : (x ^^^ 2 ^ (k.format.exponentBits + k.format.fractionBits)) / 2 ^ (k.format.exponentBits + k.format.fractionBits) = x / 2 ^ (k.format.exponentBits + k.format.fractionBits) ^^^ 1 := by
    rw [Nat.xor_div_two_pow, Nat.div_self (Nat.two_pow_pos _)]
  have hq : x / 2 ^ (k.format.exponentBits + k.format.fractionBits) < 2 := Nat.div_lt_of_lt_mul h2
  refine ⟨?_, by rw [hw]; exact Nat.xor_lt_two_pow (by rw [Nat.pow_succ]; exact h2) (Nat.pow_lt_pow_right (by decide) (by omega))⟩
  have hneg : (x / 2 ^ (k.format.exponentBits + k.format.fractionBits) ^^^ 1) % 2 = 1 - x / 2 ^ (k.format.exponentBits + k.format.fractionBits) % 2 := by
    generalize x / 2 ^ (k.format.exponentBits + k.format.fractionBits) = q at hq
    have : q = 0 ∨ q = 1 := by omega
    rcases this with rfl | rfl <;> rfl
  have hb : ((x / 2 ^ (k.format.exponentBits + k.format.fractionBits) ^^^ 1) % 2 == 1) = !(x / 2 ^ (k.format.exponentBits + k.format.fractionBits) % 2 == 1) := by
    rw [hneg]
    generalize x / 2 ^ (k.format.exponentBits + k.format.fractionBits) = q at hq
    have : q = 0 ∨ q = 1 := by omega
    rcases this with rfl | rfl <;> rfl
  unfold Ieee.Format.read
  simp only [hs, hm, hd, hb]
  split
  · rfl
  · split
    · rfl
    · split <;> rfl

theorem is_neg {k : FloatKind} {x : Nat} {v : Option Nat} (ix : Is k x v) : Is k (Op.negFloat k x) (negO k v) := by
  obtain ⟨hr, hl⟩ := read_neg k ix.2
  refine ⟨?_, hl⟩
  have h1 := ix.1
  unfold nrm FloatKind.decode at h1 ⊢
  rw [hr, isNaN_opposite]
  by_cases hn : (k.format.read x).isNaN = true
  · rw [if_pos hn] at h1 ⊢; rw [← h1]; rfl
  · rw [if_neg hn] at h1 ⊢; rw [← h1]; rfl

theorem le_neg {k : FloatKind} {v : Option Nat} {t : Int} (hv : ∀ b, v = some b → b < 2 ^ k.format.width) (h : LeO k v t) : LeO k (negO k v) t := by
  intro b hb
  cases v with
  | none => cases hb
  | some x =>
    cases hb
    obtain ⟨s, m, e, hd, hm⟩ := h x rfl
    unfold FloatKind.decode at hd ⊢
    rw [(read_neg k (hv x rfl)).1, hd]
    exact ⟨!s, m, e, rfl, hm⟩

/-- The step of a walk at '-x'. -/
theorem wpList_neg {P : Program} {w : World} {ops : Array Oper} {rest : List Oper} {dt ty ps af gd} {a : Act} {Q : Exit → Act → World → Prop}
    {t : TypeId} {xo : Operand} {k : FloatKind} {x : Nat} {va : Option Nat} (hw : Region.wanted { dst := dt, op := .unOp .neg t xo, type := ty, pos := ps, after := af, guard := gd } (yielded ops a.tmps) = true)
    (hx : a.eval xo = .float k x) (ix : Is k x va)
    (h : ∀ K : Act → World → Prop, (∀ a w, wpList P ops Q rest a w → K a w) → ∀ r, Is k r (negO k va) → K (a.put dt (.float k r)) w) : wpList P ops Q ({ dst := dt, op := .unOp .neg t xo, type := ty, pos := ps, after := af, guard := gd } :: rest) a w := by
  refine wpList_wanted hw fun K hK => ?_
  unfold Oper.wp
  simp [execOp, hx, Op.unary, Oper.upon]
  exact h K hK _ (is_neg ix)
end Go.Proofs.Ytngjpbfiijkibaa
