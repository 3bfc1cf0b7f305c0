/-
  Quarters taken off what is left of some turns: each step is exact, so it ends. No condition.
-/
import Derived.Test.YtocomofgobaonaaSineF
import Derived.Test.YtocomofgobaonaaLogC
namespace Go.Proofs.Ytocomofgobaonaa
open Go.RowKit

def qr64 : Option Nat := some 4598175219545276416
def qN (f : Option Nat) : Nat → Option Nat
  | 0 => f
  | j + 1 => fo .sub .f64 (qN f j) qr64
theorem qN_front (v : Option Nat) : ∀ j, qN (fo .sub .f64 v qr64) j = qN v (j + 1)
  | 0 => rfl
  | j + 1 => by show fo .sub .f64 (qN (fo .sub .f64 v qr64) j) qr64 = _; rw [qN_front v j]; rfl

/-- A number of V units of 2 ^ -54. -/
def Qu (v : Option Nat) (V : Nat) : Prop := ∃ m e, Nrm v m e ∧ -54 ≤ e ∧ V = m * 2 ^ (e + 54).toNat

theorem q_dec : FloatKind.f64.format.read 4598175219545276416 = .number false (2 ^ 52) (-54) := by rfl
theorem q_decode : FloatKind.f64.decode 4598175219545276416 = .number false (2 ^ 52) (-54) := by rfl

theorem qu_mk {D : Nat} (h1 : 2 ^ 52 ≤ D) (h2 : D ≤ 3 * 2 ^ 52) (hev : 2 ^ 53 ≤ D → 2 ∣ D) : ∃ c, FloatKind.f64.encode (.number false D (-54)) = c ∧ Qu (some c) D := by
  by_cases hD : D < 2 ^ 53
  · obtain ⟨c, hc, hcd⟩ := norm_mk (e := -54) h1 hD (by decide) (by decide)
    have hw := write_shift hc hcd (by omega) 0
    rw [Nat.shiftLeft_zero] at hw
    exact ⟨c, hw, D, -54, ⟨c, rfl, hc, hcd, h1⟩, by decide, by simp⟩
  · obtain ⟨H, rfl⟩ := hev (by omega)
    obtain ⟨c, hc, hcd⟩ := norm_mk (m := H) (e := -53) (by omega) (by omega) (by decide) (by decide)
    have hw := write_shift hc hcd (by omega) 1
    have h2 : H <<< 1 = 2 * H := by rw [Nat.shiftLeft_eq]; omega
    rw [h2] at hw
    exact ⟨c, hw, H, -53, ⟨c, rfl, hc, hcd, by omega⟩, by decide, by rw [show ((-53 : Int) + 54).toNat = 1 from rfl]; omega⟩

theorem below_q {D : Nat} (hD : D < 2 ^ 52) : cmpB .geq .f64 (some (FloatKind.f64.encode (.number false D (-54)))) qr64 = false := by
  by_cases h0 : D = 0
  · subst h0
    have hn : FloatKind.f64.encode (.number false 0 (-54)) = 0 := by rfl
    rw [hn]; decide
  · have hl : D.log2 < 52 := log2_lt_pow hD h0
    have hw := write_exact .f64 false D (-54) h0 (by rw [show FloatKind.f64.format.fractionBits = 52 from rfl]; omega)
      (by rw [show FloatKind.f64.format.fractionBits = 52 from rfl, show FloatKind.f64.format.leastPlace = -1074 from rfl]; omega) (by simp [eMost]; omega)
    rw [show FloatKind.f64.format.fractionBits = 52 from rfl] at hw
    have o := ord_some (order_num hw q_decode)
    unfold cmpB qr64
    simp only [o]
    unfold Ieee.signed
    simp only [Bool.false_eq_true, if_false]
    have hmin : min (-54 + (D.log2 : Int) - ((52 : Nat) : Int)) (-54) = -54 + (D.log2 : Int) - ((52 : Nat) : Int) := by omega
    rw [hmin, Int.sub_self, Int.toNat_zero, Nat.shiftLeft_zero]
    have hs : ((-54 : Int) - (-54 + (D.log2 : Int) - ((52 : Nat) : Int))).toNat = 52 - D.log2 := by omega
    rw [hs]
    have : compare ((D <<< (52 - D.log2) : Nat) : Int) (((2 ^ 52 : Nat) <<< (52 - D.log2) : Nat) : Int) = .lt := by
      rw [Int.compare_eq_lt, Nat.shiftLeft_eq, Nat.shiftLeft_eq]
      have := Nat.mul_lt_mul_of_pos_right hD (Nat.two_pow_pos (52 - D.log2))
      omega
    rw [this]
    rfl

theorem qu_step {v : Option Nat} {V : Nat} (h : Qu v V) (hV : V ≤ 2 ^ 54) : cmpB .geq .f64 (fo .sub .f64 v qr64) qr64 = false ∨ Qu (fo .sub .f64 v qr64) (V - 2 ^ 52) := by
  obtain ⟨m, e, ⟨b, rfl, hb, hd, hm⟩, he, hV'⟩ := h
  obtain ⟨f1, f2, f3, f4, f5⟩ := read_facts hb hd
  have hVm : m ≤ V := by rw [hV']; exact Nat.le_mul_of_pos_right _ (Nat.two_pow_pos _)
  have hpar : 2 ^ 53 ≤ V - 2 ^ 52 → 2 ∣ V - 2 ^ 52 := fun h2 => by
    have he' : e ≠ -54 := fun h => by subst h; rw [show ((-54 : Int) + 54).toNat = 0 from rfl] at hV'; omega
    obtain ⟨j, hj⟩ : ∃ j, (e + 54).toNat = j + 1 := ⟨(e + 54).toNat - 1, by omega⟩
    rw [hj, Nat.pow_succ, ← Nat.mul_assoc] at hV'
    omega
  have hsub : fo .sub .f64 (some b) qr64 = some (FloatKind.f64.encode (.number false (V - 2 ^ 52) (-54))) := by
    show floatBits .sub .f64 b 4598175219545276416 = _
    unfold FloatKind.decode at hd
    unfold floatBits Ieee.Format.sub
    rw [hd, q_dec]
    have hmin : min e (-54) = -54 := by omega
    have h1 : (e - -54).toNat = (e + 54).toNat := by omega
    simp only [Ieee.Datum.opposite, Ieee.Datum.sum, hmin, h1, Option.map_some]
    have h2 : Ieee.signed false m (e + 54).toNat = (V : Int) := by
      unfold Ieee.signed
      rw [hV', Nat.shiftLeft_eq]; rfl
    have h3 : Ieee.signed (!false) (2 ^ 52) ((-54 : Int) - -54).toNat = -((2 ^ 52 : Nat) : Int) := by rfl
    rw [h2, h3]
    have h4 : ((V : Int) + -((2 ^ 52 : Nat) : Int)).natAbs = V - 2 ^ 52 := by omega
    rw [h4]
    by_cases h5 : (V : Int) + -((2 ^ 52 : Nat) : Int) = 0
    · rw [if_pos h5]; rfl
    · rw [if_neg h5, show decide ((V : Int) + -((2 ^ 52 : Nat) : Int) < 0) = false from decide_eq_false (by omega)]; rfl
  rw [hsub]
  by_cases hD : V - 2 ^ 52 < 2 ^ 52
  · exact .inl (below_q hD)
  · obtain ⟨c, hc, hq⟩ := qu_mk (D := V - 2 ^ 52) (by omega) (by omega) hpar
    rw [hc]
    exact .inr hq

theorem qu_geq {v : Option Nat} {V : Nat} (h : Qu v V) : 2 ^ 52 ≤ V := by
  obtain ⟨m, e, ⟨b, rfl, hb, hd, hm⟩, he, hV'⟩ := h
  rw [hV']
  exact Nat.le_trans hm (Nat.le_mul_of_pos_right _ (Nat.two_pow_pos _))

theorem qu_ends : ∀ (t : Nat) {v : Option Nat} {V : Nat}, Qu v V → V ≤ 2 ^ 54 → V < (t + 1) * 2 ^ 52 → cmpB .geq .f64 v qr64 = true → ∃ k, k ≤ t ∧ (∀ j, j < k → cmpB .geq .f64 (qN v j) qr64 = true) ∧ cmpB .geq .f64 (qN v k) qr64 = false
  | 0, v, V, h, _, h2, _ => by have := qu_geq h; omega
  | t + 1, v, V, h, h1, h2, hg => by
    cases hn : cmpB .geq .f64 (fo .sub .f64 v qr64) qr64 with
    | false => exact ⟨1, by omega, fun j hj => by obtain rfl : j = 0 := by omega
                                                  exact hg, hn⟩
    | true =>
      rcases qu_step h h1 with h' | h'
      · rw [hn] at h'; cases h'
      · obtain ⟨k, hk, ha, hb⟩ := qu_ends t h' (by omega) (by omega) hn
        refine ⟨k + 1, by omega, fun j hj => ?_, by rw [← qN_front]; exact hb⟩
        cases j with
        | zero => exact hg
        | succ j => rw [← qN_front]; exact ha j (by omega)

/-- Of a number from 0 to 1, at most four quarters are taken. -/
theorem q_ends {v : Option Nat} (hv : ∀ b, v = some b → b < 2 ^ 64) (hl : LeO .f64 v 0) (hn : NnO .f64 v) : ∃ k, k ≤ 4 ∧ (∀ j, j < k → cmpB .geq .f64 (qN v j) qr64 = true) ∧ cmpB .geq .f64 (qN v k) qr64 = false := by
  cases hg : cmpB .geq .f64 v qr64 with
  | false => exact ⟨0, by decide, fun j hj => absurd hj (Nat.not_lt_zero _), hg⟩
  | true =>
    cases v with
    | none => cases hg
    | some b =>
      obtain ⟨s, m, e, hd, hb⟩ := hl b rfl
      obtain ⟨f1, f2, f3, f4, f5⟩ := read_facts (hv b rfl) hd
      have hs : s = false ∨ m = 0 := by
        rcases hn b rfl with h | ⟨s', m', i', h, h'⟩ <;> rw [hd] at h <;> cases h
        exact h'
      have o := ord_some (order_num hd q_decode)
      unfold cmpB qr64 at hg
      simp only [o] at hg
      rw [signed_nn hs] at hg
      unfold Ieee.signed at hg
      simp only [Bool.false_eq_true, if_false] at hg
      have hge : (2 ^ 52 : Nat) <<< ((-54 : Int) - min e (-54)).toNat ≤ m <<< (e - min e (-54)).toNat := by
        apply Classical.byContradiction
        intro hne
        have : compare ((m <<< (e - min e (-54)).toNat : Nat) : Int) (((2 ^ 52 : Nat) <<< ((-54 : Int) - min e (-54)).toNat : Nat) : Int) = .lt := by rw [Int.compare_eq_lt]; omega
        rw [this] at hg
        simp at hg
      have he : -54 ≤ e := by
        apply Classical.byContradiction
        intro hne
        have hmin : min e (-54) = e := by omega
        rw [hmin, Int.sub_self, Int.toNat_zero, Nat.shiftLeft_zero, Nat.shiftLeft_eq] at hge
        have : 2 ^ 1 ≤ 2 ^ ((-54 : Int) - e).toNat := Nat.pow_le_pow_right (by decide) (by omega)
        have : 2 ^ 52 * 2 ^ 1 ≤ 2 ^ 52 * 2 ^ ((-54 : Int) - e).toNat := Nat.mul_le_mul_left _ this
        omega
      have hm : 2 ^ 52 ≤ m := by rcases f3 with h | h <;> omega
      have hs' : s = false := hs.resolve_right (by omega)
      subst hs'
      obtain ⟨a, ha, hae⟩ := hb (by omega)
      have hV : m * 2 ^ (e + 54).toNat ≤ 2 ^ 54 := by
        calc m * 2 ^ (e + 54).toNat ≤ 2 ^ a * 2 ^ (e + 54).toNat := Nat.mul_le_mul_right _ ha
          _ = 2 ^ (a + (e + 54).toNat) := (Nat.pow_add ..).symm
          _ ≤ 2 ^ 54 := Nat.pow_le_pow_right (by decide) (by omega)
      have hg' : cmpB .geq .f64 (some b) qr64 = true := by
        unfold cmpB qr64
        simp only [o]
        rw [signed_nn (.inl rfl)]
        unfold Ieee.signed
        simp only [Bool.false_eq_true, if_false]
        exact hg
      exact qu_ends 4 ⟨m, e, ⟨b, rfl, hv b rfl, hd, hm⟩, he, rfl⟩ hV (by omega) hg'

/-- What is left of some turns, made whole turns upwards, lies from 0 to 1. -/
theorem up1_unit {p : Option Nat} (hv : ∀ b, p = some b → b < 2 ^ 64) (hl : LeO .f64 p 0) : LeO .f64 (up1 p) 0 ∧ NnO .f64 (up1 p) ∧ ∀ b, up1 p = some b → b < 2 ^ 64 := by
  cases p with
  | none => exact ⟨(fun _ h => nomatch h), (fun _ h => nomatch h), (fun _ h => nomatch h)⟩
  | some x =>
    obtain ⟨s, m, e, hd, hb⟩ := hl x rfl
    have hz := lss_zero hd
    unfold up1
    rw [hz]
    cases hc : (s && decide (m ≠ 0)) with
    | false =>
      refine ⟨hl, fun b hb' => ?_, hv⟩
      cases hb'
      refine .inr ⟨s, m, e, hd, ?_⟩
      cases s with
      | false => exact .inl rfl
      | true => right; simpa using hc
    | true =>
      have hs : s = true := by cases s <;> simp_all
      have hm : m ≠ 0 := by cases s <;> simp_all
      subst hs
      simp only [if_true]
      have h1d : FloatKind.f64.format.read 4607182418800017408 = .number false (2 ^ 52) (-52) := by rfl
      have hk : ∀ b, fo .add .f64 (some x) (some 4607182418800017408) = some b → b < 2 ^ 64 := fun b hb' => fo_lt hb'
      have a1 := shift_le (base := min e (-52)) (t := 0) (by omega) hb
      have a2 := shift_le (m := 2 ^ 52) (i := -52) (base := min e (-52)) (t := 0) (by omega) (fun _ => ⟨52, Nat.le_refl _, by decide⟩)
      have a3 : 2 ^ (0 - min e (-52)).toNat ≤ (2 ^ 52 : Nat) <<< ((-52 : Int) - min e (-52)).toNat := by
        rw [Nat.shiftLeft_eq, ← Nat.pow_add]
        exact Nat.pow_le_pow_right (by decide) (by omega)
      have hadd : ∀ r, fo .add .f64 (some x) (some 4607182418800017408) = some r → ∃ D : Nat, D ≤ 2 ^ (0 - min e (-52)).toNat ∧ r = FloatKind.f64.encode (.number false D (min e (-52))) := fun r hr => by
        have hf : floatBits .add .f64 x 4607182418800017408 = some r := hr
        unfold FloatKind.decode at hd
        unfold floatBits Ieee.Format.add at hf
        rw [hd, h1d] at hf
        simp only [Ieee.Datum.sum, Option.map_some, Option.some.injEq] at hf
        have e1 : Ieee.signed true m (e - min e (-52)).toNat = -((m <<< (e - min e (-52)).toNat : Nat) : Int) := rfl
        have e2 : Ieee.signed false (2 ^ 52) ((-52 : Int) - min e (-52)).toNat = (((2 ^ 52 : Nat) <<< ((-52 : Int) - min e (-52)).toNat : Nat) : Int) := rfl
        rw [e1, e2] at hf
        generalize m <<< (e - min e (-52)).toNat = X at a1 hf
        generalize (2 ^ 52 : Nat) <<< ((-52 : Int) - min e (-52)).toNat = Y at a2 a3 hf
        have hsg : (if -(X : Int) + (Y : Int) = 0 then true && false else decide (-(X : Int) + (Y : Int) < 0)) = false := by
          split
          · rfl
          · exact decide_eq_false (by omega)
        rw [hsg] at hf
        exact ⟨_, by omega, hf.symm⟩
      refine ⟨fun r hr => ?_, fun r hr => ?_, hk⟩
      · obtain ⟨D, hD, rfl⟩ := hadd r hr
        exact write_le .f64 false D _ 0 (fun _ => ⟨_, hD, by omega⟩) (by decide) (by decide)
      · obtain ⟨D, hD, rfl⟩ := hadd r hr
        exact nn_write .f64 false D _ (.inl rfl)
end Go.Proofs.Ytocomofgobaonaa
