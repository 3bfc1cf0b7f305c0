/-
  A number less what its sum with a half is as a whole number is small: of any number; and numbers made whole downwards by the library. No condition.
-/
import Derived.Test.YtoomfcdaojmakaaFloor
import Derived.Test.YtoomfcdaojmakaaMulO
import Derived.Test.YtoomfcdaojmakaaFinG
namespace Go.Proofs.Ytoomfcdaojmakaa
open Go.RowKit

theorem floor_is {x y : Nat} (h : floorO (some x) = some y) : Is .f64 y (some y) := by
  unfold floorO at h
  simp only [Option.bind_some] at h
  cases hd : FloatKind.f64.decode x with
  | number s m e =>
    rw [hd] at h
    simp only [Option.some.injEq] at h
    subst h
    refine ⟨?_, (show FloatKind.f64.format.write _ < _ from Ieee.Format.write_lt _ _)⟩
    unfold nrm
    rw [if_neg (by rw [write_notNaN .f64 _ rfl]; decide)]
  | infinity s =>
    rw [hd] at h
    simp only [Option.some.injEq] at h
    subst h
    refine ⟨?_, (show FloatKind.f64.format.write _ < _ from Ieee.Format.write_lt _ _)⟩
    unfold nrm
    rw [if_neg (by rw [write_notNaN .f64 _ rfl]; decide)]
  | nan s f => rw [hd] at h; cases h

theorem floor_any {x : Nat} {v : Option Nat} (ix : Is .f64 x v) (w : World) :
    Calls Try.prog 45 #[.float .f64 x] w (RetF .f64 (floorO v) w) := by
  cases v with
  | some z =>
    obtain rfl := ix.notNaN
    have hn := ix.dec
    obtain ⟨y, hy⟩ : ∃ y, floorO (some x) = some y := by
      unfold floorO
      simp only [Option.bind_some]
      cases hd : FloatKind.f64.decode x with
      | number s m e => exact ⟨_, rfl⟩
      | infinity s => exact ⟨_, rfl⟩
      | nan s f => rw [hd] at hn; cases hn
    have hs : ∀ w : World, (callFunc 63 #[.float .f64 x]).run Try.prog w = .ok (.value (.float .f64 y)) w := fun w => by
      rw [extFloor]
      unfold floorO at hy
      simp only [Option.bind_some] at hy
      rw [toIntegral_eq]
      cases hd : FloatKind.f64.decode x with
      | number s m e => rw [hd] at hy; simp only [Option.some.injEq] at hy; subst hy; simp
      | infinity s => rw [hd] at hy; simp only [Option.some.injEq] at hy; subst hy; simp
      | nan s f => rw [hd] at hn; cases hn
    rw [hy]
    have iy := floor_is hy
    clear hn hy
    go_enter Try.func45, Try.ntmps45
    go_wp2
    go_ret
    exact ⟨y, 0, rfl, iy, rfl⟩
  | none =>
    have hn : (FloatKind.f64.decode x).isNaN = true := by
      have h1 := ix.1
      unfold nrm at h1
      by_cases hn : (FloatKind.f64.decode x).isNaN = true
      · exact hn
      · rw [if_neg hn] at h1; cases h1
    obtain ⟨s, t, hd⟩ := nan_cases hn
    have hs : ∀ w : World, ∃ p : Nat × Nat, (callFunc 63 #[.float .f64 x]).run Try.prog w = .ok (.value (.float .f64 p.1)) (w.drewN p.2) ∧ Is .f64 p.1 none := fun w => by
      rw [extFloor]
      rw [toIntegral_eq]
      rw [hd]
      by_cases hq : FloatKind.f64.format.quiet t = t
      · exact ⟨(x, 0), by simp [hq]; rfl, ix⟩
      · simp [hq, Question.forced, World.drew_is_drewN]
        refine ⟨_, ⟨rfl, 1, rfl⟩, ?_⟩
        split
        · exact ix
        · exact is_quiet s t
    have hs := Classical.axiomOfChoice hs
    obtain ⟨f, hf⟩ := hs
    have hf1 := fun w => (hf w).1
    have hf2 := fun w => (hf w).2
    clear hf
    go_enter Try.func45, Try.ntmps45
    go_wp2
    go_ret
    exact ⟨_, _, rfl, hf2 _, rfl⟩

theorem floor_whole {x : Nat} (hx : x < 2 ^ 64) {s : Bool} {m : Nat} {e : Int} (hd : FloatKind.f64.decode x = .number s m e) (he : 0 ≤ e) (hm : m ≠ 0) : floorO (some x) = some x := by
  unfold floorO
  simp only [Option.bind_some, hd]
  have h1 : (-e).toNat = 0 := by omega
  have hc : Ieee.Toward.down.cut s (m <<< e.toNat) (-e).toNat = m <<< e.toNat := by
    rw [h1]
    unfold Ieee.Toward.cut
    simp [Nat.mod_one]
  have h2 := write_shift hx hd hm e.toNat
  rw [show e - (e.toNat : Int) = 0 by omega] at h2
  show some (FloatKind.f64.encode (.number s (Ieee.Toward.down.cut s (m <<< e.toNat) (-e).toNat) 0)) = some x
  rw [hc, h2]

theorem le_floor {x : Nat} (h : LeO .f64 (some x) 101) : LeO .f64 (floorO (some x)) 102 := by
  obtain ⟨s, m, e, hd, hm⟩ := h x rfl
  intro y hy
  unfold floorO at hy
  simp only [Option.bind_some, hd, Option.some.injEq] at hy
  subst hy
  refine write_le .f64 s _ 0 102 (fun _ => ⟨102, ?_, by omega⟩) (by decide) (by decide)
  refine Nat.le_trans (cut_down_le _ _ _) ?_
  by_cases h0 : m = 0
  · subst h0; simp
  · obtain ⟨a, ha, hae⟩ := hm h0
    have key : m <<< e.toNat / 2 ^ (-e).toNat ≤ 2 ^ 101 := by
      refine Nat.div_le_of_le_mul ?_
      rw [Nat.shiftLeft_eq, ← Nat.pow_add]
      calc m * 2 ^ e.toNat ≤ 2 ^ a * 2 ^ e.toNat := Nat.mul_le_mul_right _ ha
        _ = 2 ^ (a + e.toNat) := (Nat.pow_add ..).symm
        _ ≤ 2 ^ ((-e).toNat + 101) := Nat.pow_le_pow_right (by decide) (by omega)
    have h2 : (2 : Nat) ^ 102 = 2 * 2 ^ 101 := by decide
    have h3 : 1 ≤ 2 ^ 101 := Nat.two_pow_pos _
    rw [h2]
    generalize (2 : Nat) ^ 101 = Q at *
    omega

theorem cut_up (s : Bool) (N d q : Nat) (hd : d ≤ N.log2 + 2) (h1 : q * 2 ^ d ≤ N) (h2 : N < q * 2 ^ d + 2 ^ d) : Ieee.Toward.even.cut s N d = q + (decide (2 ^ d < 2 * (N - q * 2 ^ d)) || 2 ^ d == 2 * (N - q * 2 ^ d) && q % 2 == 1).toNat := by
  unfold Ieee.Toward.cut
  have hmin : min d (N.log2 + 2) = d := Nat.min_eq_left hd
  have hq : N / 2 ^ d = q := by
    refine Nat.div_eq_of_lt_le h1 ?_
    rw [Nat.succ_mul]; exact h2
  have hr : N % 2 ^ d = N - q * 2 ^ d := by
    rw [Nat.mod_def, hq, Nat.mul_comm]
  simp only [Nat.one_shiftLeft, hmin, hq, hr]

theorem log2_is {N k : Nat} (h1 : 2 ^ k ≤ N) (h2 : N < 2 ^ (k + 1)) : N.log2 = k := by
  have h0 : N ≠ 0 := by have := Nat.two_pow_pos k; omega
  exact (Nat.log2_eq_iff h0).2 ⟨h1, h2⟩

/-- A great number of whole places, and a half: it is rounded away. -/
theorem nearest_off (s : Bool) {m k N : Nat} (h1 : 2 ^ 52 ≤ m) (h2 : m < 2 ^ 53) (hk : 101 ≤ k) (hN : N = m * 2 ^ k + 2 ^ 52 ∨ N + 2 ^ 52 = m * 2 ^ k) :
    FloatKind.f64.format.nearest s N (-53) = FloatKind.f64.format.word s (min (((k : Int) - 53 + 1074).toNat * 2 ^ 52 + m) (2047 * 2 ^ 52)) := by
  have e1 : FloatKind.f64.format.fractionBits = 52 := rfl
  have e2 : FloatKind.f64.format.binade = 2 ^ 52 := rfl
  have e3 : FloatKind.f64.format.leastPlace = -1074 := rfl
  have e4 : FloatKind.f64.format.infRung = 2047 * 2 ^ 52 := rfl
  obtain ⟨P, hP⟩ : ∃ P, P = 2 ^ k := ⟨_, rfl⟩
  have hbig : 2 ^ 56 ≤ P := by rw [hP]; exact Nat.pow_le_pow_right (by decide) (by omega)
  have hm1 : 2 ^ 52 * P ≤ m * P := Nat.mul_le_mul_right _ h1
  have hm2 : m * P + P ≤ 2 ^ 53 * P := by rw [← Nat.succ_mul]; exact Nat.mul_le_mul_right _ h2
  have p52 : 2 ^ (52 + k) = 2 ^ 52 * P := by rw [hP, Nat.pow_add]
  have p53 : 2 ^ (53 + k) = 2 ^ 53 * P := by rw [hP, Nat.pow_add]
  rw [← hP] at hN
  have hne : N ≠ 0 := by omega
  unfold Ieee.Format.nearest
  rw [if_neg hne]
  by_cases hA : 2 ^ 52 * P ≤ N
  · have hl : N.log2 = 52 + k := log2_is (by rw [p52]; exact hA) (by rw [show 52 + k + 1 = 53 + k by omega, p53]; omega)
    have hlast : max (-53 + (N.log2 : Int) - (FloatKind.f64.format.fractionBits : Int)) FloatKind.f64.format.leastPlace = (k : Int) - 53 := by rw [hl, e1, e3]; omega
    simp only [hlast]
    have a1 : (-53 - ((k : Int) - 53)).toNat = 0 := by omega
    have a2 : ((k : Int) - 53 - -53).toNat = k := by omega
    rw [a1, a2, Nat.shiftLeft_zero, e2, e3, e4]
    have hc : Ieee.Toward.even.cut s N k = m := by
      rcases hN with hN | hN
      · rw [cut_up s N k m (by omega) (by rw [← hP]; omega) (by rw [← hP]; omega)]
        have h3 : N - m * 2 ^ k = 2 ^ 52 := by rw [← hP]; omega
        rw [h3, ← hP]
        have h4 : ¬ P < 2 * 2 ^ 52 := by omega
        have h5 : ¬ P = 2 * 2 ^ 52 := by omega
        have h6 : (P == 2 * 2 ^ 52) = false := by simpa using h5
        rw [h6]
        simp [h4]
      · have hmp : 1 ≤ m := by omega
        obtain ⟨q, rfl⟩ : ∃ q, m = q + 1 := ⟨m - 1, by omega⟩
        have hq : (q + 1) * P = q * P + P := Nat.succ_mul ..
        rw [cut_up s N k q (by omega) (by rw [← hP]; omega) (by rw [← hP]; omega)]
        have h3 : N - q * 2 ^ k = P - 2 ^ 52 := by rw [← hP]; omega
        rw [h3, ← hP]
        have h4 : P < 2 * (P - 2 ^ 52) := by omega
        simp [h4]
    rw [hc]
    rfl
  · have hN : N + 2 ^ 52 = m * P := by
      rcases hN with hN | hN
      · omega
      · exact hN
    have hm : m = 2 ^ 52 := by
      by_cases hc : 2 ^ 52 + 1 ≤ m
      · exfalso
        have := Nat.mul_le_mul_right P hc
        rw [Nat.succ_mul] at this
        omega
      · omega
    subst hm
    obtain ⟨j, rfl⟩ : ∃ j, k = j + 1 := ⟨k - 1, by omega⟩
    obtain ⟨R, hR⟩ : ∃ R, R = 2 ^ j := ⟨_, rfl⟩
    have hPR : P = 2 * R := by rw [hP, hR, Nat.pow_succ, Nat.mul_comm]
    have hl : N.log2 = 52 + j := log2_is (by rw [Nat.pow_add, ← hR]; omega) (by rw [show 52 + j + 1 = 52 + (j + 1) by omega, p52]; omega)
    have hlast : max (-53 + (N.log2 : Int) - (FloatKind.f64.format.fractionBits : Int)) FloatKind.f64.format.leastPlace = (j : Int) - 53 := by rw [hl, e1, e3]; omega
    simp only [hlast]
    have a1 : (-53 - ((j : Int) - 53)).toNat = 0 := by omega
    have a2 : ((j : Int) - 53 - -53).toNat = j := by omega
    rw [a1, a2, Nat.shiftLeft_zero, e2, e3, e4]
    have hc : Ieee.Toward.even.cut s N j = 2 ^ 53 := by
      rw [cut_up s N j (2 ^ 53 - 1) (by omega) (by rw [← hR]; omega) (by rw [← hR]; omega)]
      have h3 : N - (2 ^ 53 - 1) * 2 ^ j = R - 2 ^ 52 := by rw [← hR]; omega
      rw [h3, ← hR]
      have h4 : R < 2 * (R - 2 ^ 52) := by omega
      simp [h4]
    rw [hc]
    have h5 : ((j : Int) - 53 - -1074).toNat * 2 ^ 52 + 2 ^ 53 = (((j + 1 : Nat) : Int) - 53 + 1074).toNat * 2 ^ 52 + 2 ^ 52 := by
      have : (((j + 1 : Nat) : Int) - 53 + 1074).toNat = ((j : Int) - 53 - -1074).toNat + 1 := by omega
      rw [this]; omega
    rw [h5]

theorem add_half {x : Nat} (hx : x < 2 ^ 64) {s : Bool} {m : Nat} {e : Int} (hd : FloatKind.f64.decode x = .number s m e) (he : 48 ≤ e) : fo .add .f64 (some x) (some 4602678819172646912) = some x := by
  obtain ⟨f1, f2, f3, f4, f5⟩ := read_facts hx hd
  have hm : 2 ^ 52 ≤ m := by omega
  have hh : FloatKind.f64.format.read 4602678819172646912 = .number false (2 ^ 52) (-53) := by rfl
  unfold FloatKind.decode at hd
  have hb : min e (-53) = -53 := by omega
  obtain ⟨k, hk⟩ : ∃ k : Nat, e = (k : Int) - 53 := ⟨(e + 53).toNat, by omega⟩
  have a1 : (e - -53).toNat = k := by omega
  have a2 : ((-53 : Int) - -53).toNat = 0 := by decide
  have hbig : 2 ^ 54 ≤ 2 ^ k := Nat.pow_le_pow_right (by decide) (by omega)
  have hmp : 2 ^ 52 * 2 ^ k ≤ m * 2 ^ k := Nat.mul_le_mul_right _ hm
  have hw : FloatKind.f64.format.word s (min (((k : Int) - 53 + 1074).toNat * 2 ^ 52 + m) (2047 * 2 ^ 52)) = x := by
    rw [Nat.min_eq_left (by rw [← hk]; omega), ← hk]
    exact f4.symm
  have s2 : Ieee.signed false (2 ^ 52) 0 = ((2 ^ 52 : Nat) : Int) := rfl
  simp only [fo, Option.bind_some, floatBits, Ieee.Format.add, hd, hh, Ieee.Datum.sum, Option.map_some, hb, a1, a2, s2, Option.some.injEq, Ieee.Format.write]
  cases s with
  | false =>
    have s1 : Ieee.signed false m k = ((m * 2 ^ k : Nat) : Int) := by rw [← Nat.shiftLeft_eq]; rfl
    rw [s1]
    generalize hP : m * 2 ^ k = P at *
    have h0 : ¬ ((P : Int) + ((2 ^ 52 : Nat) : Int) = 0) := by omega
    have h1 : ¬ ((P : Int) + ((2 ^ 52 : Nat) : Int) < 0) := by omega
    have h2 : ((P : Int) + ((2 ^ 52 : Nat) : Int)).natAbs = P + 2 ^ 52 := by omega
    rw [if_neg h0, h2]
    simp only [h1, decide_false]
    rw [nearest_off (k := k) false hm f1 (by omega) (.inl (by rw [hP]))]
    exact hw
  | true =>
    have s1 : Ieee.signed true m k = -((m * 2 ^ k : Nat) : Int) := by rw [← Nat.shiftLeft_eq]; rfl
    rw [s1]
    generalize hP : m * 2 ^ k = P at *
    have h0 : ¬ (-(P : Int) + ((2 ^ 52 : Nat) : Int) = 0) := by omega
    have h1 : (-(P : Int) + ((2 ^ 52 : Nat) : Int) < 0) := by omega
    have h2 : (-(P : Int) + ((2 ^ 52 : Nat) : Int)).natAbs = P - 2 ^ 52 := by omega
    rw [if_neg h0, h2]
    simp only [h1, decide_true]
    rw [nearest_off (k := k) true hm f1 (by omega) (.inr (by rw [hP]; omega))]
    exact hw

/-- A number less what its sum with a half is as a whole number. -/
def fracO (d : Option Nat) : Option Nat := fo .sub .f64 d (floorO (fo .add .f64 d (some 4602678819172646912)))

theorem fit_frac {x : Nat} {d : Option Nat} (ix : Is .f64 x d) : Fit .f64 .f32 (fracO d) := by
  unfold fracO
  cases d with
  | none => intro y hy; cases hy
  | some z =>
    obtain rfl := ix.notNaN
    cases hd : FloatKind.f64.decode x with
    | nan s f => have := ix.dec; rw [hd] at this; cases this
    | infinity s =>
      have hw := inf_word ix.2 hd
      have hh : FloatKind.f64.format.read 4602678819172646912 = .number false (2 ^ 52) (-53) := by rfl
      have hd' := hd
      unfold FloatKind.decode at hd'
      have ha : fo .add .f64 (some x) (some 4602678819172646912) = some x := by
        simp only [fo, Option.bind_some, floatBits, Ieee.Format.add, hd', hh, Ieee.Datum.sum, Option.map_some]
        exact congrArg some hw
      have hf : floorO (some x) = some x := by
        unfold floorO
        simp only [Option.bind_some, hd]
        exact congrArg some hw
      rw [ha, hf]
      have hs : fo .sub .f64 (some x) (some x) = none := by
        simp [fo, floatBits, Ieee.Format.sub, hd', Ieee.Datum.opposite, Ieee.Datum.sum]
      rw [hs]
      intro y hy; cases hy
    | number s m e =>
      obtain ⟨f1, f2, f3, f4, f5⟩ := read_facts ix.2 hd
      by_cases he : 48 ≤ e
      · rw [add_half ix.2 hd he, floor_whole ix.2 hd (by omega) (by omega)]
        have hs : fo .sub .f64 (some x) (some x) = some 0 := by
          unfold FloatKind.decode at hd
          have h0 : Ieee.signed s m 0 + Ieee.signed (!s) m 0 = 0 := by cases s <;> simp [Ieee.signed] <;> omega
          simp [fo, floatBits, Ieee.Format.sub, hd, Ieee.Datum.opposite, Ieee.Datum.sum, h0]
          cases s <;> rfl
        rw [hs]
        exact fit_le (t := 1) (le_lit (by kernel_rfl)) (by decide)
      · have l1 : LeO .f64 (some x) 100 := fun c hc => by cases hc; exact ⟨s, m, e, hd, fun _ => ⟨53, by omega, by omega⟩⟩
        have l2 := le_add l1 (le_lit (b := 4602678819172646912) (t := 100) (by kernel_rfl)) (by decide) (by decide)
        generalize fo .add .f64 (some x) (some 4602678819172646912) = y at l2
        have l3 : LeO .f64 (floorO y) 102 := by
          cases y with
          | none => exact LeO.none
          | some y => exact le_floor l2
        exact fit_le (le_sub (l1.mono (by decide)) l3 (by decide) (by decide)) (by decide)
end Go.Proofs.Ytoomfcdaojmakaa
