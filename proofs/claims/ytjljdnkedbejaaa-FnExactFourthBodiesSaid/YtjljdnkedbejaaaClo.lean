/-
  Single precision: what finite numbers and numbers that are not negative give: words, no NaN. No condition.
-/
import Derived.Test.YtjljdnkedbejaaaRootO
import Derived.Test.YtjljdnkedbejaaaAre
namespace Go.Proofs.Ytjljdnkedbejaaa
open Go.RowKit

/-- The word of a number that is not negative, or of +infinity. -/
def NN (r : Nat) : Prop := r ≤ 2139095040

theorem nn_read {r : Nat} (h : NN r) : (∃ m e, FloatKind.f32.format.read r = .number false m e) ∨ FloatKind.f32.format.read r = .infinity false := by
  have h' : r ≤ 2139095040 := h
  have e1 : FloatKind.f32.format.signWeight = 2147483648 := rfl
  have e2 : FloatKind.f32.format.binade = 8388608 := rfl
  have e4 : FloatKind.f32.format.infRung = 2139095040 := rfl
  unfold Ieee.Format.read
  have hd : r / 2147483648 = 0 := Nat.div_eq_of_lt (by omega)
  have hm : r % 2147483648 = r := Nat.mod_eq_of_lt (by omega)
  simp only [e1, e2, e4, hd, hm]
  split
  · exact .inl ⟨_, _, rfl⟩
  · split
    · exact .inl ⟨_, _, rfl⟩
    · rw [if_pos (by omega)]; exact .inr rfl

theorem nn_is {r : Nat} (h : NN r) : Is .f32 r (some r) := by
  have h' : r ≤ 2139095040 := h
  refine ⟨?_, show r < 4294967296 by omega⟩
  unfold nrm FloatKind.decode
  rcases nn_read h with ⟨m, e, hr⟩ | hr <;> rw [hr] <;> rfl

theorem nn_near (m : Nat) (e : Int) : NN (FloatKind.f32.format.nearest false m e) := by
  have e4 : FloatKind.f32.format.infRung = 2139095040 := rfl
  have hw : ∀ q, FloatKind.f32.format.word false q = q := fun _ => rfl
  unfold NN Ieee.Format.nearest
  split
  · rw [hw]; exact Nat.zero_le _
  · simp only [hw]
    exact Nat.le_trans (Nat.min_le_right ..) (Nat.le_of_eq e4)
theorem nn_inf : NN (FloatKind.f32.format.write (.infinity false)) := by
  have e4 : FloatKind.f32.format.infRung = 2139095040 := rfl
  have hw : FloatKind.f32.format.write (.infinity false) = FloatKind.f32.format.infRung := rfl
  unfold NN
  rw [hw]
  exact Nat.le_of_eq e4

theorem nn_sq {x : Nat} (ix : Is .f32 x (some x)) : ∃ r, fo .mul .f32 (some x) (some x) = some r ∧ NN r := by
  have hn := ix.dec
  unfold FloatKind.decode at hn
  simp only [fo, Option.bind_some, floatBits, Ieee.Format.mul]
  cases hd : FloatKind.f32.format.read x with
  | nan s f => rw [hd] at hn; cases hn
  | infinity s => simp only [Ieee.Datum.product, Bool.xor_self]; exact ⟨_, rfl, nn_inf⟩
  | number s m e => simp only [Ieee.Datum.product, Bool.xor_self]; exact ⟨_, rfl, nn_near _ _⟩

theorem nn_half {x : Nat} (h : NN x) : ∃ r, fo .mul .f32 (some 1056964608) (some x) = some r ∧ NN r := by
  have h1 : FloatKind.f32.format.read 1056964608 = .number false (2 ^ 23) (-24) := by rfl
  simp only [fo, Option.bind_some, floatBits, Ieee.Format.mul, h1]
  rcases nn_read h with ⟨m, e, hr⟩ | hr
  · rw [hr]; exact ⟨_, rfl, nn_near _ _⟩
  · rw [hr]; exact ⟨_, rfl, nn_inf⟩

theorem nn_add {x y : Nat} (hx : NN x) (hy : NN y) : ∃ r, fo .add .f32 (some x) (some y) = some r ∧ NN r := by
  simp only [fo, Option.bind_some, floatBits, Ieee.Format.add]
  rcases nn_read hx with ⟨m, e, hr⟩ | hr <;> rcases nn_read hy with ⟨n, i, hs⟩ | hs <;> rw [hr, hs]
  · have h0 : ∀ a b : Nat, ¬ (Ieee.signed false m a + Ieee.signed false n b < 0) := fun a b => by unfold Ieee.signed; simp only [Bool.false_eq_true, if_false]; generalize m <<< a = p; generalize n <<< b = q; omega
    simp only [Ieee.Datum.sum, Option.map_some, Bool.and_self]
    refine ⟨_, rfl, ?_⟩
    have h1 := h0 (e - min e i).toNat (i - min e i).toNat
    have hs : (if Ieee.signed false m (e - min e i).toNat + Ieee.signed false n (i - min e i).toNat = 0 then false else decide (Ieee.signed false m (e - min e i).toNat + Ieee.signed false n (i - min e i).toNat < 0)) = false := by
      split
      · rfl
      · exact decide_eq_false h1
    rw [hs]
    exact nn_near _ _
  · exact ⟨_, rfl, nn_inf⟩
  · exact ⟨_, rfl, nn_inf⟩
  · exact ⟨_, rfl, nn_inf⟩

/-- A finite number is a number. -/
theorem fin_num32 {a : Nat} {v : Option Nat} (ia : Is .f32 a v) (h : finS v = true) : v = some a ∧ ∃ s m e, FloatKind.f32.format.read a = .number s m e := by
  cases v with
  | none => exact absurd h (by decide)
  | some z =>
    obtain rfl := ia.notNaN
    refine ⟨rfl, ?_⟩
    have hn := ia.dec
    unfold FloatKind.decode at hn
    cases hd : FloatKind.f32.format.read a with
    | nan s f => rw [hd] at hn; cases hn
    | number s m e => exact ⟨s, m, e, rfl⟩
    | infinity s =>
      exfalso
      have h1 : fo .sub .f32 (some a) (some a) = none := by
        simp [fo, floatBits, Ieee.Format.sub, hd, Ieee.Datum.opposite, Ieee.Datum.sum]
      unfold finS at h
      rw [h1] at h
      cases h

theorem is_fo32 {op : BinOp} {a b : Option Nat} {r : Nat} (h : fo op .f32 a b = some r) : Is .f32 r (some r) := by
  obtain ⟨x, y, _, _, hf⟩ := fo_some h
  refine ⟨floatBits_notNaN hf, ?_⟩
  have := floatBits_wf hf
  have h2 : r < 4294967296 := by simpa [Lit.wf] using this
  exact h2

theorem sub_fin {a b : Nat} {u v : Option Nat} (ia : Is .f32 a u) (ib : Is .f32 b v) (ha : finS u = true) (hb : finS v = true) : ∃ r, fo .sub .f32 u v = some r ∧ Is .f32 r (some r) := by
  obtain ⟨rfl, s, m, e, hr⟩ := fin_num32 ia ha
  obtain ⟨rfl, t, n, i, hs⟩ := fin_num32 ib hb
  have h : ∃ r, fo .sub .f32 (some a) (some b) = some r := by
    simp only [fo, Option.bind_some, floatBits, Ieee.Format.sub, hr, hs, Ieee.Datum.opposite, Ieee.Datum.sum, Option.map_some]
    exact ⟨_, rfl⟩
  obtain ⟨r, h⟩ := h
  exact ⟨r, h, is_fo32 h⟩

theorem add_fin {a b : Nat} {u v : Option Nat} (ia : Is .f32 a u) (ib : Is .f32 b v) (ha : finS u = true) (hb : finS v = true) : ∃ r, fo .add .f32 u v = some r ∧ Is .f32 r (some r) := by
  obtain ⟨rfl, s, m, e, hr⟩ := fin_num32 ia ha
  obtain ⟨rfl, t, n, i, hs⟩ := fin_num32 ib hb
  have h : ∃ r, fo .add .f32 (some a) (some b) = some r := by
    simp only [fo, Option.bind_some, floatBits, Ieee.Format.add, hr, hs, Ieee.Datum.sum, Option.map_some]
    exact ⟨_, rfl⟩
  obtain ⟨r, h⟩ := h
  exact ⟨r, h, is_fo32 h⟩

/-- The root of what is not negative. -/
theorem root_nn {x : Nat} (h : NN x) : ∃ r, rootO (some x) = some r ∧ Is .f32 r (some r) := by
  have ix := nn_is h
  obtain ⟨y, hy⟩ := Option.isSome_iff_exists.1 (fit_widen ix x rfl)
  have hc : cv .f32 .f64 (some x) = some y := hy
  have iy : Is .f64 y (some y) := cv_notNaN (by decide) hy
  have hroot : ∃ z, sqO .f64 (some y) = some z := by
    have hd : ∃ d, (FloatKind.f64.format.read y).root (FloatKind.f64.format.fractionBits + 2) = some d := by
      have hrd : (∃ m e, FloatKind.f64.format.read y = .number false m e) ∨ FloatKind.f64.format.read y = .infinity false := by
        have hb : y ≤ 9218868437227405312 := by
          unfold floatToFloatBits at hy
          rw [if_neg (by decide)] at hy
          have near : ∀ m e, FloatKind.f64.encode (.number false m e) ≤ 9218868437227405312 := fun m e => by
            have e4 : FloatKind.f64.format.infRung = 9218868437227405312 := rfl
            have hw : ∀ q, FloatKind.f64.format.word false q = q := fun _ => rfl
            unfold FloatKind.encode Ieee.Format.write Ieee.Format.nearest
            simp only
            split
            · rw [hw]; exact Nat.zero_le _
            · simp only [hw]
              exact Nat.le_trans (Nat.min_le_right ..) (Nat.le_of_eq e4)
          rcases nn_read h with ⟨m, e, hr⟩ | hr
          · have hr' : FloatKind.f32.decode x = .number false m e := hr
            rw [hr'] at hy
            simp only at hy
            split at hy
            · cases hy
            · simp only [Option.some.injEq] at hy
              subst hy
              exact near m e
          · have hr' : FloatKind.f32.decode x = .infinity false := hr
            rw [hr'] at hy
            simp only [Option.some.injEq] at hy
            subst hy
            decide
        have e1 : FloatKind.f64.format.signWeight = 9223372036854775808 := rfl
        have e2 : FloatKind.f64.format.binade = 4503599627370496 := rfl
        have e4 : FloatKind.f64.format.infRung = 9218868437227405312 := rfl
        unfold Ieee.Format.read
        have hq : y / 9223372036854775808 = 0 := Nat.div_eq_of_lt (by omega)
        have hm : y % 9223372036854775808 = y := Nat.mod_eq_of_lt (by omega)
        simp only [e1, e2, e4, hq, hm]
        split
        · exact .inl ⟨_, _, rfl⟩
        · split
          · exact .inl ⟨_, _, rfl⟩
          · rw [if_pos (by omega)]; exact .inr rfl
      rcases hrd with ⟨m, e, hr⟩ | hr <;> rw [hr]
      · unfold Ieee.Datum.root
        by_cases hm : m = 0
        · simp only [hm, if_true]; exact ⟨_, rfl⟩
        · simp only [hm, if_false, Bool.false_eq_true]; exact ⟨_, rfl⟩
      · exact ⟨_, rfl⟩
    obtain ⟨d, hd⟩ := hd
    unfold sqO
    simp only [Option.bind_some, Ieee.Format.sqrt, hd, Option.map_some]
    exact ⟨_, rfl⟩
  obtain ⟨z, hz⟩ := hroot
  have hF := fit_root ix
  rw [hc, hz] at hF
  obtain ⟨r, hr⟩ := Option.isSome_iff_exists.1 (hF z rfl)
  have hR : rootO (some x) = some r := by unfold rootO; rw [hc, hz]; exact hr
  exact ⟨r, hR, cv_notNaN (by decide) hr⟩

/-- An operation whose result is known, in whatever world. -/
theorem run_fo32 {op : BinOp} {x y r : Nat} (h : fo op .f32 (some x) (some y) = some r) (t : TypeId) (w : World) : (binOp op t (.float .f32 x) (.float .f32 y)).run Try.prog w = .ok (.float .f32 r) w :=
  run_float_arith w op t .f32 x y r h
end Go.Proofs.Ytjljdnkedbejaaa
