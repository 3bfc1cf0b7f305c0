/-
  Halving: values, and what tells of a number that is wrapped. No condition.
-/
import Derived.Test.YtoomfcdaojmakaaPh0
import Derived.Test.YtoomfcdaojmakaaFloor
namespace Go.Proofs.Ytoomfcdaojmakaa
open Go.RowKit

/-- The middle of two numbers. -/
def midO (l h : Option Nat) : Option Nat := fo .quo .f64 (fo .add .f64 l h) (some 4611686018427387904)
/-- What is left between two numbers when it is halved some times. -/
def halN (t : Option Nat → Bool) (l h : Option Nat) : Nat → Option Nat × Option Nat
  | 0 => (l, h)
  | k + 1 => if t (midO (halN t l h k).1 (halN t l h k).2) then ((halN t l h k).1, midO (halN t l h k).1 (halN t l h k).2) else (midO (halN t l h k).1 (halN t l h k).2, (halN t l h k).2)

theorem halN_t {t : Option Nat → Bool} {l h : Option Nat} {k : Nat} (ht : t (midO (halN t l h k).1 (halN t l h k).2) = true) : halN t l h (k + 1) = ((halN t l h k).1, midO (halN t l h k).1 (halN t l h k).2) := by
  show (if _ then _ else _) = _
  rw [if_pos ht]
theorem halN_f {t : Option Nat → Bool} {l h : Option Nat} {k : Nat} (ht : t (midO (halN t l h k).1 (halN t l h k).2) = false) : halN t l h (k + 1) = (midO (halN t l h k).1 (halN t l h k).2, (halN t l h k).2) := by
  show (if _ then _ else _) = _
  rw [if_neg (by rw [ht]; decide)]

theorem sm_mid {l h : Option Nat} {t : Int} (hl : SmO .f64 l t) (hh : SmO .f64 h t) (h1 : tLeast .f64 ≤ t) (h2 : t + 1 ≤ tMost .f64) : SmO .f64 (midO l h) t := by
  have ha := sm_add hl hh (by omega) h2
  have hd := sm_div ha (ge_lit (k := .f64) (b := 4611686018427387904) (t := 1) (by kernel_rfl)) ⟨_, rfl⟩ (by omega) (by omega)
  exact hd.mono (by omega)

theorem sm_halN {t : Option Nat → Bool} {l h : Option Nat} {u : Int} (hl : SmO .f64 l u) (hh : SmO .f64 h u) (h1 : tLeast .f64 ≤ u) (h2 : u + 1 ≤ tMost .f64) : ∀ k, SmO .f64 (halN t l h k).1 u ∧ SmO .f64 (halN t l h k).2 u
  | 0 => ⟨hl, hh⟩
  | k + 1 => by
    obtain ⟨a, b⟩ := sm_halN hl hh h1 h2 k (t := t)
    have c := sm_mid a b h1 h2
    cases ht : t (midO (halN t l h k).1 (halN t l h k).2) with
    | true => rw [halN_t ht]; exact ⟨a, c⟩
    | false => rw [halN_f ht]; exact ⟨c, b⟩

theorem fin_cv {v : Option Nat} {t : Int} (h : SmO .f64 v t) (ht : t ≤ 126) : finS (cv .f64 .f32 v) = true := by
  obtain ⟨⟨y, rfl⟩, hl⟩ := h
  obtain ⟨s, m, e, hd, hm⟩ := hl y rfl
  obtain ⟨s', m', e', hr, -⟩ := write_le .f32 s m e 126 (fun h0 => by obtain ⟨a, ha, hae⟩ := hm h0; exact ⟨a, ha, by omega⟩) (by decide) (by decide)
  have hc : cv .f64 .f32 (some y) = some (FloatKind.f32.encode (.number s m e)) := by
    unfold cv floatToFloatBits
    simp only [Option.bind_some]
    rw [if_neg (by decide), hd]
    simp only [hr]
    rfl
  rw [hc]
  have hsub : fo .sub .f32 (some (FloatKind.f32.encode (.number s m e))) (some (FloatKind.f32.encode (.number s m e))) = some 0 := by
    generalize FloatKind.f32.encode (.number s m e) = z at hr
    unfold FloatKind.decode at hr
    have h0 : Ieee.signed s' m' 0 + Ieee.signed (!s') m' 0 = 0 := by cases s' <;> simp [Ieee.signed] <;> omega
    simp [fo, floatBits, Ieee.Format.sub, hr, Ieee.Datum.opposite, Ieee.Datum.sum, h0]
    cases s' <;> rfl
  unfold finS
  rw [hsub]
  decide

/-! ### Numbers that are wrapped -/
def wrapO (v : Option Nat) : Option Nat := if cmpB .neq .f64 (floorO v) (some 0) then fo .sub .f64 v (floorO v) else v
def wrapS (v : Option Nat) : Option Nat := fo .sub .f64 v (floorO v)

theorem gtr_negzero (a : Option Nat) : cmpB .gtr .f64 a (some 9223372036854775808) = cmpB .gtr .f64 a (some 0) := by
  have h0 : FloatKind.f64.format.read 0 = .number false 0 (-1074) := by rfl
  have h1 : FloatKind.f64.format.read 9223372036854775808 = .number true 0 (-1074) := by rfl
  have hz : ∀ s up, Ieee.signed s 0 up = 0 := fun s up => by cases s <;> simp [Ieee.signed]
  have ho : ordO .f64 a (some 9223372036854775808) = ordO .f64 a (some 0) := by
    cases a with
    | none => rfl
    | some x =>
      simp only [ordO, Option.bind_some, Ieee.Format.order, h0, h1]
      cases FloatKind.f64.format.read x <;> simp [Ieee.Datum.order, hz]
  unfold cmpB
  rw [ho]

theorem zero_cases {y : Nat} (h : y < 2 ^ 64) {s : Bool} {e : Int} (hd : FloatKind.f64.decode y = .number s 0 e) : y = 0 ∨ y = 9223372036854775808 := by
  have h1 := zero_word h hd 0
  unfold FloatKind.encode at h1
  rw [write_z] at h1
  cases s
  · exact .inl h1.symm
  · exact .inr h1.symm

theorem wrap_gtr {x : Nat} {v : Option Nat} (ix : Is .f64 x v) {s : Bool} {m : Nat} {e : Int} (hv : v = some x) (hd : FloatKind.f64.decode x = .number s m e) (a : Option Nat) : cmpB .gtr .f64 a (wrapO v) = cmpB .gtr .f64 a (wrapS v) := by
  subst hv
  obtain ⟨f, hf⟩ : ∃ f, floorO (some x) = some f := by
    unfold floorO
    simp only [Option.bind_some, hd]
    exact ⟨_, rfl⟩
  have hfe : f = FloatKind.f64.encode ((Ieee.Datum.number s m e).integral .down) := by
    unfold floorO at hf
    simp only [Option.bind_some, hd, Option.some.injEq] at hf
    exact hf.symm
  have hfl : f < 2 ^ 64 := by rw [hfe]; exact (show FloatKind.f64.format.write _ < _ from Ieee.Format.write_lt _ _)
  unfold wrapO wrapS
  rw [hf]
  cases hn : cmpB .neq .f64 (some f) (some 0) with
  | true => rfl
  | false =>
    simp only [Bool.false_eq_true, if_false]
    have hfd : ∃ s' e', FloatKind.f64.decode f = .number s' 0 e' := by
      cases hdf : FloatKind.f64.decode f with
      | nan q t =>
        exfalso
        have : (FloatKind.f64.decode f).isNaN = false := by rw [hfe]; exact write_notNaN .f64 _ rfl
        rw [hdf] at this
        cases this
      | infinity q =>
        exfalso
        have h0 : FloatKind.f64.format.read 0 = .number false 0 (-1074) := by rfl
        unfold FloatKind.decode at hdf
        simp only [cmpB, ordO, Option.bind_some, Ieee.Format.order, hdf, h0] at hn
        cases q <;> simp [Ieee.Datum.order] at hn
      | number s' m' e' =>
        rw [neq_eql hdf] at hn
        have hm' : m' = 0 := by simpa using hn
        subst hm'
        exact ⟨s', e', rfl⟩
    obtain ⟨s', e', hfd⟩ := hfd
    rcases zero_cases hfl hfd with rfl | rfl
    · rw [sub_zero ix.2 hd]
    · by_cases hm : m = 0
      · subst hm
        rcases zero_cases ix.2 hd with rfl | rfl
        · rw [show fo .sub .f64 (some 0) (some 9223372036854775808) = some 0 by decide +kernel]
        · rw [show fo .sub .f64 (some 9223372036854775808) (some 9223372036854775808) = some 0 by decide +kernel, gtr_negzero]
      · rw [sub_negzero ix.2 hd hm]
end Go.Proofs.Ytoomfcdaojmakaa
