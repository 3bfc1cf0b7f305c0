/-
  Distances of valid bodies: words of numbers that are not negative, ordered as integers; the nearest two of them. No condition.
-/
import Derived.Test.YtjljdnkedbejaaaFinA
import Derived.Test.YtjljdnkedbejaaaVLess
namespace Go.Proofs.Ytjljdnkedbejaaa
open Go.RowKit

theorem pos_read64 {y : Nat} (hb : y ≤ 9218868437227405312) : (∃ m e, FloatKind.f64.format.read y = .number false m e) ∨ FloatKind.f64.format.read y = .infinity false := by
  have e1 : FloatKind.f64.format.signWeight = 9223372036854775808 := rfl
  have e2 : FloatKind.f64.format.binade = 4503599627370496 := rfl
  have e4 : FloatKind.f64.format.infRung = 9218868437227405312 := rfl
  unfold Ieee.Format.read
  have hq : y / 9223372036854775808 = 0 := Nat.div_eq_of_lt (by omega)
  have hm : y % 9223372036854775808 = y := Nat.mod_eq_of_lt (by omega)
  simp only [e1, e2, e4, hq, hm]
  split
  · exact .inl ⟨_, _, rfl⟩
  · split
    · exact .inl ⟨_, _, rfl⟩
    · rw [if_pos (by omega)]; exact .inr rfl

theorem pos_near64 (m : Nat) (e : Int) : FloatKind.f64.format.nearest false m e ≤ 9218868437227405312 := by
  have e4 : FloatKind.f64.format.infRung = 9218868437227405312 := rfl
  have hw : ∀ q, FloatKind.f64.format.word false q = q := fun _ => rfl
  unfold Ieee.Format.nearest
  split
  · rw [hw]; exact Nat.zero_le _
  · simp only [hw]
    exact Nat.le_trans (Nat.min_le_right ..) (Nat.le_of_eq e4)

/-- The root of what is not negative is not negative. -/
theorem nn_root {x : Nat} (h : NN x) : ∃ r, rootO (some x) = some r ∧ NN r := by
  obtain ⟨r, hr, -⟩ := root_nn h
  refine ⟨r, hr, ?_⟩
  have ix := nn_is h
  obtain ⟨y, hy⟩ := Option.isSome_iff_exists.1 (fit_widen ix x rfl)
  have hc : cv .f32 .f64 (some x) = some y := hy
  have hb : y ≤ 9218868437227405312 := by
    unfold floatToFloatBits at hy
    rw [if_neg (by decide)] at hy
    rcases nn_read h with ⟨m, e, hr⟩ | hr
    · have hr' : FloatKind.f32.decode x = .number false m e := hr
      rw [hr'] at hy
      simp only at hy
      split at hy
      · cases hy
      · simp only [Option.some.injEq] at hy
        subst hy
        exact pos_near64 m e
    · have hr' : FloatKind.f32.decode x = .infinity false := hr
      rw [hr'] at hy
      simp only [Option.some.injEq] at hy
      subst hy
      decide
  unfold rootO at hr
  rw [hc] at hr
  cases hz : sqO .f64 (some y) with
  | none => rw [hz] at hr; cases hr
  | some z =>
    rw [hz] at hr
    have hzb : z ≤ 9218868437227405312 := by
      unfold sqO at hz
      simp only [Option.bind_some, Ieee.Format.sqrt, Option.map_eq_some_iff] at hz
      obtain ⟨d, hd, rfl⟩ := hz
      rcases pos_read64 hb with ⟨m, e, hm⟩ | hm <;> rw [hm] at hd
      · unfold Ieee.Datum.root at hd
        by_cases h0 : m = 0
        · simp only [h0, if_true, Option.some.injEq] at hd; subst hd; exact pos_near64 _ _
        · simp only [h0, if_false, Bool.false_eq_true, Option.some.injEq] at hd; subst hd; exact pos_near64 _ _
      · have hd' : some (Ieee.Datum.infinity false) = some d := hd
        cases hd'
        decide
    have hr2 : floatToFloatBits .f64 z .f32 = some r := hr
    unfold floatToFloatBits at hr2
    rw [if_neg (by decide)] at hr2
    rcases pos_read64 hzb with ⟨m, e, hm⟩ | hm
    · have hm' : FloatKind.f64.decode z = .number false m e := hm
      rw [hm'] at hr2
      simp only at hr2
      split at hr2
      · cases hr2
      · simp only [Option.some.injEq] at hr2
        subst hr2
        exact nn_near m e
    · have hm' : FloatKind.f64.decode z = .infinity false := hm
      rw [hm'] at hr2
      simp only [Option.some.injEq] at hr2
      subst hr2
      exact nn_inf

theorem nn_num {x : Nat} (h : x < 2139095040) : ∃ m e, FloatKind.f32.format.read x = .number false m e ∧ ((x < 8388608 ∧ m = x ∧ e = -149) ∨ (8388608 ≤ x ∧ m = 8388608 + x % 8388608 ∧ e = -149 + (x / 8388608 - 1 : Nat))) := by
  have e1 : FloatKind.f32.format.signWeight = 2147483648 := rfl
  have e2 : FloatKind.f32.format.binade = 8388608 := rfl
  have e3 : FloatKind.f32.format.leastPlace = -149 := rfl
  have e4 : FloatKind.f32.format.infRung = 2139095040 := rfl
  unfold Ieee.Format.read
  have hd : x / 2147483648 = 0 := Nat.div_eq_of_lt (by omega)
  have hm : x % 2147483648 = x := Nat.mod_eq_of_lt (by omega)
  simp only [e1, e2, e3, e4, hd, hm]
  by_cases h1 : x < 8388608
  · rw [if_pos h1]; exact ⟨_, _, rfl, .inl ⟨h1, rfl, rfl⟩⟩
  · rw [if_neg h1, if_pos h]; exact ⟨_, _, rfl, .inr ⟨by omega, rfl, rfl⟩⟩

theorem nn_infread : FloatKind.f32.format.read 2139095040 = .infinity false := by rfl

theorem nn_lt_val {x y m n : Nat} {i j : Int} (h : x < y) (hx : (x < 8388608 ∧ m = x ∧ i = -149) ∨ (8388608 ≤ x ∧ m = 8388608 + x % 8388608 ∧ i = -149 + (x / 8388608 - 1 : Nat))) (hy : (y < 8388608 ∧ n = y ∧ j = -149) ∨ (8388608 ≤ y ∧ n = 8388608 + y % 8388608 ∧ j = -149 + (y / 8388608 - 1 : Nat))) :
    m <<< (i - min i j).toNat < n <<< (j - min i j).toNat := by
  have hij : i ≤ j := by omega
  have h1 : (i - min i j).toNat = 0 := by omega
  rw [h1, Nat.shiftLeft_zero, Nat.shiftLeft_eq]
  by_cases he : i = j
  · have h2 : (j - min i j).toNat = 0 := by omega
    rw [h2, Nat.pow_zero, Nat.mul_one]
    omega
  · have hm : m < 16777216 := by omega
    have hn : 8388608 ≤ n := by omega
    have h2 : 2 ^ 1 ≤ 2 ^ (j - min i j).toNat := Nat.pow_le_pow_right (by decide) (by omega)
    have h3 : 8388608 * 2 ^ 1 ≤ n * 2 ^ (j - min i j).toNat := Nat.mul_le_mul hn h2
    omega

theorem nn_order {x y : Nat} (h : x < y) (hy : NN y) : ordO .f32 (some x) (some y) = some .lt ∧ ordO .f32 (some y) (some x) = some .gt := by
  have hy' : y ≤ 2139095040 := hy
  obtain ⟨m, i, hm, cm⟩ := nn_num (x := x) (by omega)
  by_cases hi : y = 2139095040
  · subst hi
    simp only [ordO, Option.bind_some, Ieee.Format.order, hm, nn_infread]
    exact ⟨rfl, rfl⟩
  · obtain ⟨n, j, hn, cn⟩ := nn_num (x := y) (by omega)
    have hv := nn_lt_val h cm cn
    simp only [ordO, Option.bind_some, Ieee.Format.order, hm, hn, Ieee.Datum.order, Option.some.injEq]
    have s1 : ∀ q u, Ieee.signed false q u = ((q <<< u : Nat) : Int) := fun _ _ => rfl
    rw [s1, s1, s1, s1, Int.compare_eq_lt, Int.compare_eq_gt, Int.min_comm j i]
    omega

theorem nn_lss {x y : Nat} (hx : NN x) (hy : NN y) : cmpB .lss .f32 (some x) (some y) = decide (x < y) := by
  unfold cmpB
  rcases Nat.lt_trichotomy x y with h | h | h
  · simp [(nn_order h hy).1, h]
  · subst h; simp [ordO_self (nn_is hx)]
  · have hn : ¬ x < y := by omega
    simp [(nn_order h hx).2, hn]

theorem nn_eql {x y : Nat} (hx : NN x) (hy : NN y) : cmpB .eql .f32 (some x) (some y) = decide (x = y) := by
  unfold cmpB
  rcases Nat.lt_trichotomy x y with h | h | h
  · have hn : ¬ x = y := by omega
    simp [(nn_order h hy).1, hn]
  · subst h; simp [ordO_self (nn_is hx)]
  · have hn : ¬ x = y := by omega
    simp [(nn_order h hx).2, hn]

/-- A number that is not negative is finite if it is not the infinity. -/
theorem nn_fin {x : Nat} (hx : NN x) : finS (some x) = decide (x < 2139095040) := by
  have hx' : x ≤ 2139095040 := hx
  by_cases h : x < 2139095040
  · obtain ⟨m, i, hm, -⟩ := nn_num h
    have hs : fo .sub .f32 (some x) (some x) = some 0 := by
      obtain ⟨s, hs⟩ : ∃ s, s = false := ⟨_, rfl⟩
      rw [← hs] at hm
      have h0 : Ieee.signed s m 0 + Ieee.signed (!s) m 0 = 0 := by cases s <;> simp [Ieee.signed] <;> omega
      simp [fo, floatBits, Ieee.Format.sub, hm, Ieee.Datum.opposite, Ieee.Datum.sum, h0]
      cases s <;> rfl
    unfold finS
    rw [hs]
    simp only [h, decide_true]
    decide
  · have : x = 2139095040 := by omega
    subst this
    decide

/-- How far two bodies are apart. -/
def farO (v : Nat → Option Nat) (i k : Nat) : Option Nat :=
  rootO (innerO (fo .sub .f32 (v (7 * k)) (v (7 * i))) (fo .sub .f32 (v (7 * k + 1)) (v (7 * i + 1))) (fo .sub .f32 (v (7 * k + 2)) (v (7 * i + 2))) (fo .sub .f32 (v (7 * k)) (v (7 * i))) (fo .sub .f32 (v (7 * k + 1)) (v (7 * i + 1))) (fo .sub .f32 (v (7 * k + 2)) (v (7 * i + 2))))
def farN (v : Nat → Option Nat) (i k : Nat) : Nat := (farO v i k).getD 0

theorem far_nn {v : Nat → Option Nat} {f : Nat → Nat} {n i k : Nat} (hA : areB v n = true) (hi : i < n) (hk : k < n) (hv : ∀ j, j < 7 * n → Is .f32 (f j) (v j)) : farO v i k = some (farN v i k) ∧ NN (farN v i k) := by
  obtain ⟨a0, a1, a2, a3, a4, a5, a6⟩ := fin_at hA hi
  obtain ⟨b0, b1, b2, b3, b4, b5, b6⟩ := fin_at hA hk
  have I := fun j (hj : j < 7) => hv (7 * i + j) (by omega)
  have K := fun j (hj : j < 7) => hv (7 * k + j) (by omega)
  obtain ⟨x0, e0, i0⟩ := sub_fin (K 0 (by decide)) (I 0 (by decide)) b0 a0
  obtain ⟨x1, e1, i1⟩ := sub_fin (K 1 (by decide)) (I 1 (by decide)) b1 a1
  obtain ⟨x2, e2, i2⟩ := sub_fin (K 2 (by decide)) (I 2 (by decide)) b2 a2
  rw [Nat.add_zero, Nat.add_zero] at e0
  obtain ⟨rD, eD, nD⟩ := inner_nn i0 i1 i2
  obtain ⟨r, er, nr⟩ := nn_root nD
  have h : farO v i k = some r := by unfold farO; rw [e0, e1, e2, eD, er]
  have hN : farN v i k = r := by unfold farN; rw [h]; rfl
  rw [hN]
  exact ⟨h, nr⟩

/-! ### The nearest two -/
abbrev St := Nat × Nat × Nat
/-- As the program does it: the first two and their distance, from the infinity on. -/
def inI (d : Nat → Nat → Nat) (i : Nat) (s : St) : Nat → St
  | 0 => s
  | j + 1 => if d i (i + 1 + j) < (inI d i s j).2.2 then (i, i + 1 + j, d i (i + 1 + j)) else inI d i s j
def outI (d : Nat → Nat → Nat) (n : Nat) : Nat → St
  | 0 => (0, 0, 2139095040)
  | i + 1 => inI d i (outI d n i) (n - (i + 1))

theorem inI_zero {d : Nat → Nat → Nat} {i : Nat} {s : St} (h : s.2.2 = 0) : ∀ j, inI d i s j = s
  | 0 => rfl
  | j + 1 => by
    have := inI_zero (d := d) (i := i) h j
    simp only [inI, this, h, Nat.not_lt_zero, if_false]
theorem inI_add (d : Nat → Nat → Nat) (i : Nat) (s : St) (a : Nat) (h : (inI d i s a).2.2 = 0) : ∀ b, inI d i s (a + b) = inI d i s a
  | 0 => rfl
  | b + 1 => by
    have := inI_add d i s a h b
    show (if d i (i + 1 + (a + b)) < (inI d i s (a + b)).2.2 then (i, i + 1 + (a + b), d i (i + 1 + (a + b))) else inI d i s (a + b)) = _
    rw [this, h, if_neg (Nat.not_lt_zero _)]
theorem outI_zero {d : Nat → Nat → Nat} {n i : Nat} (h : (outI d n i).2.2 = 0) : ∀ m, outI d n (i + m) = outI d n i
  | 0 => rfl
  | m + 1 => by
    have := outI_zero h m
    show inI d (i + m) (outI d n (i + m)) (n - (i + m + 1)) = _
    rw [this, inI_zero h]
/-- Once the distance is 0, nothing changes any more. -/
theorem out_stop {d : Nat → Nat → Nat} {n i j : Nat} (hi : i < n) (hj : j ≤ n - (i + 1)) (h : (inI d i (outI d n i) j).2.2 = 0) : outI d n n = inI d i (outI d n i) j := by
  have h1 : outI d n (i + 1) = inI d i (outI d n i) j := by
    show inI d i (outI d n i) (n - (i + 1)) = _
    obtain ⟨q, hq⟩ : ∃ q, n - (i + 1) = j + q := ⟨n - (i + 1) - j, by omega⟩
    rw [hq]
    exact inI_add d i _ j h q
  have h2 := outI_zero (d := d) (n := n) (i := i + 1) (by rw [h1]; exact h) (n - (i + 1))
  rw [show i + 1 + (n - (i + 1)) = n by omega, h1] at h2
  exact h2

/-- As the model does it: a first number that is less than 0 where none have been looked at. -/
abbrev Sm := Int × Int × Nat
def inM (d : Nat → Nat → Nat) (i : Nat) (s : Sm) : Nat → Sm
  | 0 => s
  | j + 1 => if (inM d i s j).1 < 0 ∨ d i (i + 1 + j) < (inM d i s j).2.2 then ((i : Int), ((i + 1 + j : Nat) : Int), d i (i + 1 + j)) else inM d i s j
def outM (d : Nat → Nat → Nat) (n : Nat) : Nat → Sm
  | 0 => (-1, -1, 0)
  | i + 1 => inM d i (outM d n i) (n - (i + 1))

/-- What holds of both. -/
def Both (m : Sm) (s : St) : Prop := (m.1 < 0 ∧ m = (-1, -1, 0) ∧ s = (0, 0, 2139095040)) ∨ (0 ≤ m.1 ∧ m.2.2 = s.2.2 ∧ s.2.2 ≤ 2139095040 ∧ (s.2.2 < 2139095040 → m.1 = s.1 ∧ m.2.1 = s.2.1))

theorem both_in {d : Nat → Nat → Nat} {i : Nat} {m : Sm} {s : St} (hb : Both m s) : ∀ j, (∀ q, q < j → d i (i + 1 + q) ≤ 2139095040) → Both (inM d i m j) (inI d i s j)
  | 0, _ => hb
  | j + 1, hd => by
    have h := both_in hb j (fun q hq => hd q (by omega))
    have hdj := hd j (Nat.lt_succ_self j)
    simp only [inM, inI]
    generalize inM d i m j = M at h
    generalize inI d i s j = S at h
    generalize d i (i + 1 + j) = D at hdj
    rcases h with ⟨h1, h2, h3⟩ | ⟨h1, h2, h3, h4⟩
    · rw [if_pos (.inl h1)]
      refine .inr ⟨by simp, ?_, ?_, ?_⟩
      · subst h3
        by_cases hl : D < 2139095040
        · rw [if_pos hl]
        · rw [if_neg hl]; show D = 2139095040; omega
      · subst h3
        by_cases hl : D < 2139095040
        · rw [if_pos hl]; exact hdj
        · rw [if_neg hl]; exact Nat.le_refl _
      · subst h3
        intro h5
        by_cases hl : D < 2139095040
        · rw [if_pos hl]; exact ⟨rfl, rfl⟩
        · rw [if_neg hl] at h5; exact absurd h5 (Nat.lt_irrefl _)
    · have hn : ¬ M.1 < 0 := by omega
      by_cases hl : D < S.2.2
      · rw [if_pos (.inr (by rw [h2]; exact hl)), if_pos hl]
        exact .inr ⟨by simp, rfl, hdj, fun _ => ⟨rfl, rfl⟩⟩
      · rw [if_neg (by rw [h2]; rintro (h | h) <;> omega), if_neg hl]
        exact .inr ⟨h1, h2, h3, h4⟩

theorem both_out {d : Nat → Nat → Nat} {n : Nat} (hd : ∀ i k, i < n → k < n → d i k ≤ 2139095040) : ∀ i, i ≤ n → Both (outM d n i) (outI d n i)
  | 0, _ => .inl ⟨by show (-1 : Int) < 0; decide, rfl, rfl⟩
  | i + 1, hi => both_in (both_out hd i (by omega)) _ (fun q hq => hd _ _ (by omega) (by omega))

/-- Where there are two, the model has looked at some. -/
theorem outM_some {d : Nat → Nat → Nat} {n : Nat} (h2 : 2 ≤ n) : 0 ≤ (outM d n n).1 := by
  have key : ∀ j (m : Sm) i, (0 ≤ m.1 ∨ 1 ≤ j) → 0 ≤ (inM d i m j).1 := by
    intro j
    induction j with
    | zero => intro m i h; exact h.elim id (fun h => absurd h (Nat.not_succ_le_zero _))
    | succ j ih =>
      intro m i _
      simp only [inM]
      split
      · simp
      · rename_i h; omega
  have h1 : 0 ≤ (outM d n 1).1 := key (n - 1) (outM d n 0) 0 (.inr (by omega))
  have h3 : ∀ i, 0 ≤ (outM d n (1 + i)).1 := by
    intro i
    induction i with
    | zero => exact h1
    | succ i ih => rw [← Nat.add_assoc]; exact key (n - (1 + i + 1)) (outM d n (1 + i)) (1 + i) (.inl ih)
  have := h3 (n - 1)
  rwa [show 1 + (n - 1) = n by omega] at this
end Go.Proofs.Ytjljdnkedbejaaa
