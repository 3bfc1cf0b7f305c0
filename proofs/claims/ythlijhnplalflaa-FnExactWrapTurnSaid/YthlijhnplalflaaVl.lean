/-
  Single precision: what numbers are worth in units of the least one; sums and differences against a number that the format has. No condition.
-/
import Derived.Test.YthlijhnplalflaaRnd
import Derived.Test.YthlijhnplalflaaFloA
namespace Go.Proofs.Ythlijhnplalflaa
open Go.RowKit

/-- What a number is worth, in units of the least one. -/
def vl (s : Bool) (m : Nat) (e : Int) : Int := Ieee.signed s m (e + 149).toNat
/-- The powers of two as integers. -/
abbrev pw (k : Nat) : Int := ((2 ^ k : Nat) : Int)

theorem vl_pos (m : Nat) (e : Int) : vl false m e = (m : Int) * pw (e + 149).toNat := by
  unfold vl Ieee.signed pw
  rw [if_neg (by decide), Nat.shiftLeft_eq, Int.natCast_mul]
theorem vl_neg (m : Nat) (e : Int) : vl true m e = -((m : Int) * pw (e + 149).toNat) := by
  unfold vl Ieee.signed pw
  rw [if_pos rfl, Nat.shiftLeft_eq, Int.natCast_mul]
theorem vl_not (s : Bool) (m : Nat) (e : Int) : vl (!s) m e = -vl s m e := by
  cases s
  · show vl true m e = _; rw [vl_neg, vl_pos]
  · show vl false m e = _; rw [vl_neg, vl_pos, Int.neg_neg]

theorem vl_scale {s : Bool} {m : Nat} {e base : Int} (h1 : base ≤ e) (h2 : -149 ≤ base) : Ieee.signed s m (e - base).toNat * pw (base + 149).toNat = vl s m e := by
  have h : (e + 149).toNat = (e - base).toNat + (base + 149).toNat := by omega
  unfold vl Ieee.signed pw
  rw [h]
  cases s
  · rw [if_neg (by decide), if_neg (by decide), Nat.shiftLeft_eq, Nat.shiftLeft_eq, Nat.pow_add, ← Int.natCast_mul, Nat.mul_assoc]
  · rw [if_pos rfl, if_pos rfl, Nat.shiftLeft_eq, Nat.shiftLeft_eq, Nat.pow_add, Int.neg_mul, ← Int.natCast_mul, Nat.mul_assoc]

/-- A sum of what is worth Z, as it is rounded. -/
structure Near (Z : Int) (z : Nat) : Prop where
  out : ∃ neg mag place, -149 ≤ place ∧ z = FloatKind.f32.format.nearest neg mag place ∧ mag * 2 ^ (place + 149).toNat = Z.natAbs ∧ (mag ≠ 0 → neg = decide (Z < 0))

theorem near_total {s t : Bool} {m n : Nat} {e j : Int} (he : -149 ≤ e) (hj : -149 ≤ j) (b : Bool) :
    Near (vl s m e + vl t n j) (FloatKind.f32.format.nearest (if Ieee.signed s m (e - min e j).toNat + Ieee.signed t n (j - min e j).toNat = 0 then b else decide (Ieee.signed s m (e - min e j).toNat + Ieee.signed t n (j - min e j).toNat < 0)) (Ieee.signed s m (e - min e j).toNat + Ieee.signed t n (j - min e j).toNat).natAbs (min e j)) := by
  have hp : (0 : Int) < pw (min e j + 149).toNat := by unfold pw; have := Nat.two_pow_pos (min e j + 149).toNat; omega
  have hZ : (Ieee.signed s m (e - min e j).toNat + Ieee.signed t n (j - min e j).toNat) * pw (min e j + 149).toNat = vl s m e + vl t n j := by
    rw [Int.add_mul, vl_scale (by omega) (by omega), vl_scale (by omega) (by omega)]
  generalize Ieee.signed s m (e - min e j).toNat + Ieee.signed t n (j - min e j).toNat = N at *
  refine ⟨_, _, min e j, by omega, rfl, ?_, fun h => ?_⟩
  · rw [← hZ, Int.natAbs_mul]
    congr 1
  · have h0 : N ≠ 0 := fun h0 => h (by rw [h0]; rfl)
    rw [if_neg h0, ← hZ]
    refine decide_eq_decide.2 ⟨fun h => Int.mul_neg_of_neg_of_pos h hp, fun h => ?_⟩
    rcases Int.lt_or_le N 0 with h1 | h1
    · exact h1
    · have := Int.mul_nonneg h1 (Int.le_of_lt hp)
      omega

theorem add_near {x y : Nat} {s t : Bool} {m n : Nat} {e j : Int} (hx : FloatKind.f32.decode x = .number s m e) (hy : FloatKind.f32.decode y = .number t n j) (he : -149 ≤ e) (hj : -149 ≤ j) :
    ∃ z, fo .add .f32 (some x) (some y) = some z ∧ Near (vl s m e + vl t n j) z := by
  unfold FloatKind.decode at hx hy
  refine ⟨_, ?_, near_total (s := s) (t := t) (m := m) (n := n) he hj (s && t)⟩
  simp only [fo, Option.bind_some, floatBits, Ieee.Format.add, hx, hy, Ieee.Datum.sum, Option.map_some, Ieee.Format.write]

theorem sub_near {x y : Nat} {s t : Bool} {m n : Nat} {e j : Int} (hx : FloatKind.f32.decode x = .number s m e) (hy : FloatKind.f32.decode y = .number t n j) (he : -149 ≤ e) (hj : -149 ≤ j) :
    ∃ z, fo .sub .f32 (some x) (some y) = some z ∧ Near (vl s m e - vl t n j) z := by
  unfold FloatKind.decode at hx hy
  have h := near_total (s := s) (t := !t) (m := m) (n := n) he hj (s && !t)
  rw [vl_not] at h
  refine ⟨_, ?_, h⟩
  simp only [fo, Option.bind_some, floatBits, Ieee.Format.sub, hx, hy, Ieee.Datum.opposite, Ieee.Datum.sum, Option.map_some, Ieee.Format.write]

/-- The rung of a number that the format has. -/
abbrev rg (K : Nat) (L : Int) : Nat := (L + 149).toNat * 2 ^ 23 + K

/-- What is worth at most B is written at most at B's rung; of what is negative, with a sign. -/
theorem Near.hi {Z : Int} {z : Nat} (h : Near Z z) {K : Nat} {L : Int} (hK : K < 2 ^ 24) (hL : -149 ≤ L) (hc : 2 ^ 23 ≤ K ∨ L = -149) (hZ : Z.natAbs ≤ K * 2 ^ (L + 149).toNat) :
    ∃ neg r, z = FloatKind.f32.format.word neg (min r (255 * 2 ^ 23)) ∧ r ≤ rg K L ∧ (r ≠ 0 → neg = decide (Z < 0)) := by
  obtain ⟨neg, mag, place, hp, rfl, hm, hn⟩ := h.out
  by_cases h0 : mag = 0
  · subst h0
    refine ⟨neg, 0, ?_, Nat.zero_le _, fun h => absurd rfl h⟩
    unfold Ieee.Format.nearest
    simp
  · obtain ⟨r, h1, h2⟩ := near_hi neg mag K place L (-149) h0 hp hL hK hL hc (by rw [show place - -149 = place + 149 by omega, show L - -149 = L + 149 by omega, hm]; exact hZ)
    exact ⟨neg, r, h1, h2, fun _ => hn h0⟩

theorem Near.lo {Z : Int} {z : Nat} (h : Near Z z) {K : Nat} {L : Int} (hK : K < 2 ^ 24) (hL : -149 ≤ L) (hc : 2 ^ 23 ≤ K ∨ L = -149) (h0 : Z ≠ 0) (hZ : K * 2 ^ (L + 149).toNat ≤ Z.natAbs) :
    ∃ r, z = FloatKind.f32.format.word (decide (Z < 0)) (min r (255 * 2 ^ 23)) ∧ rg K L ≤ r := by
  obtain ⟨neg, mag, place, hp, rfl, hm, hn⟩ := h.out
  have hm0 : mag ≠ 0 := by
    intro hm0
    subst hm0
    rw [Nat.zero_mul] at hm
    omega
  obtain ⟨r, h1, h2⟩ := near_lo neg mag K place L (-149) hm0 hp hL hK hL hc (by rw [show place - -149 = place + 149 by omega, show L - -149 = L + 149 by omega, hm]; exact hZ)
  exact ⟨r, by rw [h1, hn hm0], h2⟩

/-- Rungs are ordered as what they are worth. -/
theorem rg_le {M K : Nat} {E L : Int} (hM : M < 2 ^ 24) (hK : K < 2 ^ 24) (hE : -149 ≤ E) (hL : -149 ≤ L) (cE : 2 ^ 23 ≤ M ∨ E = -149) (cL : 2 ^ 23 ≤ K ∨ L = -149) (h : rg M E ≤ rg K L) : M * 2 ^ (E + 149).toNat ≤ K * 2 ^ (L + 149).toNat := by
  unfold rg at h
  rcases Int.lt_trichotomy E L with hlt | rfl | hgt
  · have hk : 2 ^ 23 ≤ K := by omega
    calc M * 2 ^ (E + 149).toNat ≤ 2 ^ 24 * 2 ^ (E + 149).toNat := Nat.mul_le_mul_right _ (Nat.le_of_lt hM)
      _ = 2 ^ (24 + (E + 149).toNat) := (Nat.pow_add ..).symm
      _ ≤ 2 ^ (23 + (L + 149).toNat) := Nat.pow_le_pow_right (by decide) (by omega)
      _ = 2 ^ 23 * 2 ^ (L + 149).toNat := Nat.pow_add ..
      _ ≤ K * 2 ^ (L + 149).toNat := Nat.mul_le_mul_right _ hk
  · exact Nat.mul_le_mul_right _ (by omega)
  · exfalso
    have hk : 2 ^ 23 ≤ M := by omega
    omega

/-- A number that is widened: its word, and what is read of it. -/
theorem cv_up {h k : Nat} {t : Bool} {j : Int} (hd : FloatKind.f32.decode h = .number t k j) (hh : h < 2 ^ 32) (hk : k ≠ 0) :
    ∃ y, cv .f32 .f64 (some h) = some y ∧ y < 2 ^ 64 ∧ FloatKind.f64.decode y = .number t (k <<< (52 - k.log2)) (j - ((52 - k.log2 : Nat) : Int)) := by
  obtain ⟨f1, f2, f3, f4, f5⟩ := read_facts32 hh hd
  have hl := log2_lt_pow f1 hk
  have hw := write_exact .f64 t k j hk (by show k.log2 ≤ 52; omega) (by show (-1074 : Int) ≤ j + k.log2 - 52; omega) (by show j + (k.log2 : Int) ≤ 1023; omega)
  have e1 : FloatKind.f64.format.fractionBits = 52 := rfl
  rw [e1] at hw
  refine ⟨FloatKind.f64.encode (.number t k j), ?_, (show FloatKind.f64.format.write _ < _ from Ieee.Format.write_lt _ _), ?_⟩
  · unfold cv floatToFloatBits
    rw [Option.bind_some, if_neg (by decide), hd]
    simp only [hw]
    rfl
  · rw [hw]
    congr 1
    omega

/-- A number that is narrowed to what the format has. -/
theorem cv_down {y h M k : Nat} {t : Bool} {e j : Int} (hd : FloatKind.f64.decode y = .number t M e) (hn : FloatKind.f32.format.nearest t M e = h) (hh : FloatKind.f32.decode h = .number t k j) : cv .f64 .f32 (some y) = some h ∧ Fit .f64 .f32 (some y) := by
  have key : floatToFloatBits .f64 y .f32 = some h := by
    unfold floatToFloatBits
    rw [if_neg (by decide), hd]
    have : FloatKind.f32.encode (.number t M e) = h := hn
    simp only [this, hh]
    rfl
  exact ⟨key, fun x hx => by cases hx; rw [key]; rfl⟩

theorem write_back32 {h k : Nat} {t : Bool} {j : Int} (hd : FloatKind.f32.decode h = .number t k j) (hh : h < 2 ^ 32) : FloatKind.f32.format.nearest t k j = h := by
  have hi : Is .f32 h (some h) := ⟨by unfold nrm; rw [if_neg (by rw [hd]; simp [Ieee.Datum.isNaN])], hh⟩
  have := write_read32 hi
  unfold FloatKind.decode at hd
  rw [hd] at this
  exact this

/-- A great number is its own floor. -/
theorem floor_great {h k : Nat} {t : Bool} {j : Int} (hd : FloatKind.f32.decode h = .number t k j) (hh : h < 2 ^ 32) (hk : k ≠ 0) (hj : 0 ≤ j) :
    cv .f64 .f32 (floorO (cv .f32 .f64 (some h))) = some h ∧ Fit .f64 .f32 (floorO (cv .f32 .f64 (some h))) := by
  obtain ⟨f1, f2, f3, f4, f5⟩ := read_facts32 hh hd
  obtain ⟨y, hy, hlt, hy64⟩ := cv_up hd hh hk
  rw [hy]
  have hl := log2_lt_pow f1 hk
  have hne : k <<< (52 - k.log2) ≠ 0 := by rw [Nat.shiftLeft_eq]; exact Nat.mul_ne_zero hk (Nat.pos_iff_ne_zero.1 (Nat.two_pow_pos _))
  have hfl : floorO (some y) = some y := by
    by_cases h0 : 0 ≤ j - ((52 - k.log2 : Nat) : Int)
    · exact floor_whole hlt hy64 h0 hne
    · unfold floorO
      simp only [Option.bind_some, hy64, Ieee.Datum.integral]
      have a1 : (j - ((52 - k.log2 : Nat) : Int)).toNat = 0 := by omega
      have a2 : (-(j - ((52 - k.log2 : Nat) : Int))).toNat = 52 - k.log2 - j.toNat := by omega
      rw [a1, a2, Nat.shiftLeft_zero]
      have a3 : k <<< (52 - k.log2) = (k <<< j.toNat) <<< (52 - k.log2 - j.toNat) := by rw [← Nat.shiftLeft_add]; congr 1; omega
      have hne2 : k <<< j.toNat ≠ 0 := by rw [Nat.shiftLeft_eq]; exact Nat.mul_ne_zero hk (Nat.pos_iff_ne_zero.1 (Nat.two_pow_pos _))
      have hc : Ieee.Toward.down.cut t (k <<< (52 - k.log2)) (52 - k.log2 - j.toNat) = k <<< j.toNat := by
        rw [a3]
        generalize k <<< j.toNat = m at hne2
        generalize 52 - k.log2 - j.toNat = d
        unfold Ieee.Toward.cut
        have hs : m <<< d = m * 2 ^ d := Nat.shiftLeft_eq ..
        have hmin : min d ((m * 2 ^ d).log2 + 2) = d := by rw [← hs, log2_shift hne2]; omega
        have hq : m * 2 ^ d / 2 ^ d = m := Nat.mul_div_cancel _ (Nat.two_pow_pos _)
        have hr : m * 2 ^ d % 2 ^ d = 0 := Nat.mul_mod_left _ _
        simp only [Nat.one_shiftLeft, hs, hmin, hq, hr]
        simp
      rw [hc]
      have hw := write_shift hlt hy64 hne 0
      have : FloatKind.f64.encode (.number t (k <<< j.toNat) 0) = FloatKind.f64.encode (.number t (k <<< (52 - k.log2)) (j - ((52 - k.log2 : Nat) : Int))) := by
        show FloatKind.f64.format.nearest t (k <<< j.toNat) 0 = FloatKind.f64.format.nearest t _ _
        have hs := nearest_shift FloatKind.f64.format t (k <<< j.toNat) (52 - k.log2 - j.toNat) 0 hne2
        rw [a3, ← hs]
        congr 1
        omega
      rw [this]
      simpa using hw
  rw [hfl]
  refine cv_down hy64 ?_ hd
  rw [nearest_shift _ _ _ _ _ hk]
  exact write_back32 hd hh

theorem lt_pow2 (M : Nat) : M < 2 ^ (M.log2 + 2) := Nat.lt_of_lt_of_le (lt_pow_log2 M) (Nat.pow_le_pow_right (by decide) (by omega))

/-- Cut down: of what is not negative the greatest whole that is not greater. -/
theorem cut_false (M D : Nat) : Ieee.Toward.down.cut false M D * 2 ^ D ≤ M ∧ M < (Ieee.Toward.down.cut false M D + 1) * 2 ^ D := by
  unfold Ieee.Toward.cut
  simp only [Bool.false_and, Bool.toNat_false, Nat.add_zero, Nat.one_shiftLeft]
  rcases Nat.le_total D (M.log2 + 2) with h | h
  · rw [Nat.min_eq_left h]
    refine ⟨Nat.div_mul_le_self _ _, ?_⟩
    rw [Nat.mul_comm]
    exact Nat.lt_mul_div_succ M (Nat.two_pow_pos _)
  · rw [Nat.min_eq_right h, Nat.div_eq_of_lt (lt_pow2 M)]
    refine ⟨by omega, ?_⟩
    rw [Nat.zero_add, Nat.one_mul]
    exact Nat.lt_of_lt_of_le (lt_pow2 M) (Nat.pow_le_pow_right (by decide) h)

/-- Of what is negative, the least whole that is not less. -/
theorem cut_true (M D : Nat) (hM : M ≠ 0) : M ≤ Ieee.Toward.down.cut true M D * 2 ^ D ∧ Ieee.Toward.down.cut true M D * 2 ^ D < M + 2 ^ D := by
  unfold Ieee.Toward.cut
  simp only [Bool.true_and, Nat.one_shiftLeft]
  rcases Nat.le_total D (M.log2 + 2) with h | h
  · rw [Nat.min_eq_left h]
    have hd := Nat.div_add_mod M (2 ^ D)
    have hm := Nat.mod_lt M (Nat.two_pow_pos D)
    have hp := Nat.two_pow_pos D
    generalize 2 ^ D = G at *
    rw [Nat.mul_comm] at hd
    by_cases h0 : M % G = 0
    · rw [h0]
      simp only [bne_self_eq_false, Bool.toNat_false, Nat.add_zero]
      omega
    · have : (M % G != 0) = true := by simpa using h0
      rw [this, Bool.toNat_true, Nat.add_mul, Nat.one_mul]
      omega
  · rw [Nat.min_eq_right h, Nat.div_eq_of_lt (lt_pow2 M), Nat.mod_eq_of_lt (lt_pow2 M)]
    have : (M != 0) = true := by simpa using hM
    rw [this, Bool.toNat_true, Nat.zero_add, Nat.one_mul]
    have h2 : M < 2 ^ D := Nat.lt_of_lt_of_le (lt_pow2 M) (Nat.pow_le_pow_right (by decide) h)
    omega

/-- A whole number that is not great, written in double precision and narrowed. -/
theorem whole_down (t : Bool) (F : Nat) (hF : F < 2 ^ 24) : ∃ n, cv .f64 .f32 (some (FloatKind.f64.encode (.number t F 0))) = some n ∧ Fit .f64 .f32 (some (FloatKind.f64.encode (.number t F 0))) ∧ n < 2 ^ 32 ∧
    ∃ M E, FloatKind.f32.decode n = .number t M E ∧ -149 ≤ E ∧ vl t M E = (if t then -(F : Int) else F) * pw 149 := by
  by_cases h0 : F = 0
  · subst h0
    cases t
    · exact ⟨0, by decide, (by intro q hq; cases hq; decide), by decide, 0, -149, by decide, by decide, by decide⟩
    · exact ⟨2147483648, by decide, (by intro q hq; cases hq; decide), by decide, 0, -149, by decide, by decide, by decide⟩
  · have hl := log2_lt_pow hF h0
    have h64 := write_exact .f64 t F 0 h0 (by show F.log2 ≤ 52; omega) (by show (-1074 : Int) ≤ 0 + F.log2 - 52; omega) (by show (0 : Int) + F.log2 ≤ 1023; omega)
    have h32 := write_exact .f32 t F 0 h0 (by show F.log2 ≤ 23; omega) (by show (-149 : Int) ≤ 0 + F.log2 - 23; omega) (by show (0 : Int) + F.log2 ≤ 127; omega)
    have e1 : FloatKind.f64.format.fractionBits = 52 := rfl
    have e2 : FloatKind.f32.format.fractionBits = 23 := rfl
    rw [e1] at h64
    rw [e2] at h32
    have hn : FloatKind.f32.format.nearest t (F <<< (52 - F.log2)) (0 + (F.log2 : Int) - ((52 : Nat) : Int)) = FloatKind.f32.encode (.number t F 0) := by
      have := nearest_shift FloatKind.f32.format t F (52 - F.log2) 0 h0
      rw [show (0 : Int) + (F.log2 : Int) - ((52 : Nat) : Int) = 0 - ((52 - F.log2 : Nat) : Int) by omega, this]
      rfl
    obtain ⟨c1, c2⟩ := cv_down h64 hn h32
    refine ⟨_, c1, c2, (show FloatKind.f32.format.write _ < _ from Ieee.Format.write_lt _ _), _, _, h32, by omega, ?_⟩
    have hv : ((F <<< (23 - F.log2) : Nat) : Int) * pw (0 + (F.log2 : Int) - ((23 : Nat) : Int) + 149).toNat = (F : Int) * pw 149 := by
      unfold pw
      rw [Nat.shiftLeft_eq, ← Int.natCast_mul, ← Int.natCast_mul, Nat.mul_assoc, ← Nat.pow_add]
      congr 3
      omega
    cases t
    · rw [vl_pos, hv]; rfl
    · rw [vl_neg, hv, if_pos rfl, Int.neg_mul]

/-- The floor of a number that is not great. -/
theorem floor_small {h k : Nat} {t : Bool} {j : Int} (hd : FloatKind.f32.decode h = .number t k j) (hh : h < 2 ^ 32) (hk : k ≠ 0) (hj : j < 0) :
    ∃ (n F : Nat), cv .f64 .f32 (floorO (cv .f32 .f64 (some h))) = some n ∧ Fit .f64 .f32 (floorO (cv .f32 .f64 (some h))) ∧ n < 2 ^ 32 ∧ F ≤ 2 ^ 23 ∧
      (∃ M E, FloatKind.f32.decode n = .number t M E ∧ -149 ≤ E ∧ vl t M E = (if t then -(F : Int) else F) * pw 149) ∧
      (t = false → F * 2 ^ (-j).toNat ≤ k ∧ k < (F + 1) * 2 ^ (-j).toNat) ∧ (t = true → k ≤ F * 2 ^ (-j).toNat ∧ F * 2 ^ (-j).toNat < k + 2 ^ (-j).toNat) := by
  obtain ⟨f1, f2, f3, f4, f5⟩ := read_facts32 hh hd
  obtain ⟨y, hy, hlt, hy64⟩ := cv_up hd hh hk
  rw [hy]
  have hl := log2_lt_pow f1 hk
  have hfl : floorO (some y) = some (FloatKind.f64.encode (.number t (Ieee.Toward.down.cut t (k <<< (52 - k.log2)) ((52 - k.log2) + (-j).toNat)) 0)) := by
    unfold floorO
    simp only [Option.bind_some, hy64, Ieee.Datum.integral]
    have a1 : (j - ((52 - k.log2 : Nat) : Int)).toNat = 0 := by omega
    have a2 : (-(j - ((52 - k.log2 : Nat) : Int))).toNat = (52 - k.log2) + (-j).toNat := by omega
    rw [a1, a2, Nat.shiftLeft_zero]
  have hM : k <<< (52 - k.log2) ≠ 0 := by rw [Nat.shiftLeft_eq]; exact Nat.mul_ne_zero hk (Nat.pos_iff_ne_zero.1 (Nat.two_pow_pos _))
  have c0 := cut_false (k <<< (52 - k.log2)) ((52 - k.log2) + (-j).toNat)
  have c1 := cut_true (k <<< (52 - k.log2)) ((52 - k.log2) + (-j).toNat) hM
  rw [hfl]
  rw [Nat.shiftLeft_eq] at c0 c1 ⊢
  have hp := Nat.two_pow_pos (52 - k.log2)
  have hJ : 2 ≤ 2 ^ (-j).toNat := by
    calc 2 = 2 ^ 1 := rfl
      _ ≤ 2 ^ (-j).toNat := Nat.pow_le_pow_right (by decide) (by omega)
  rw [Nat.pow_add] at c0 c1
  generalize 2 ^ (-j).toNat = J at *
  have sc : ∀ F, F * (2 ^ (52 - k.log2) * J) = F * J * 2 ^ (52 - k.log2) := fun F => by rw [Nat.mul_comm (2 ^ _) J, Nat.mul_assoc]
  rw [sc, sc] at c0
  rw [sc, Nat.mul_comm (2 ^ (52 - k.log2)) J, ← Nat.add_mul] at c1
  have fin : ∀ F, (t = false → F * J ≤ k ∧ k < (F + 1) * J) → (t = true → k ≤ F * J ∧ F * J < k + J) → F ≤ 2 ^ 23 := fun F h0 h1 => by
    cases t
    · have := (h0 rfl).1
      have h2 : F * 2 ≤ F * J := Nat.mul_le_mul_left _ hJ
      omega
    · have := (h1 rfl).2
      rcases Nat.lt_or_ge F (2 ^ 23 + 1) with h | h
      · omega
      · have h2 : (2 ^ 23 + 1) * J ≤ F * J := Nat.mul_le_mul_right _ h
        omega
  cases t
  · have q0 : Ieee.Toward.down.cut false (k * 2 ^ (52 - k.log2)) ((52 - k.log2) + (-j).toNat) * J ≤ k := Nat.le_of_mul_le_mul_right c0.1 hp
    have q1 : k < (Ieee.Toward.down.cut false (k * 2 ^ (52 - k.log2)) ((52 - k.log2) + (-j).toNat) + 1) * J := Nat.lt_of_mul_lt_mul_right c0.2
    generalize Ieee.Toward.down.cut false (k * 2 ^ (52 - k.log2)) ((52 - k.log2) + (-j).toNat) = F at *
    have hF := fin F (fun _ => ⟨q0, q1⟩) (fun h => by cases h)
    obtain ⟨n, n1, n2, n3, n4⟩ := whole_down false F (by omega)
    exact ⟨n, F, n1, n2, n3, hF, n4, fun _ => ⟨q0, q1⟩, fun h => by cases h⟩
  · have q0 : k ≤ Ieee.Toward.down.cut true (k * 2 ^ (52 - k.log2)) ((52 - k.log2) + (-j).toNat) * J := Nat.le_of_mul_le_mul_right c1.1 hp
    have q1 : Ieee.Toward.down.cut true (k * 2 ^ (52 - k.log2)) ((52 - k.log2) + (-j).toNat) * J < k + J := Nat.lt_of_mul_lt_mul_right c1.2
    generalize Ieee.Toward.down.cut true (k * 2 ^ (52 - k.log2)) ((52 - k.log2) + (-j).toNat) = F at *
    have hF := fin F (fun h => by cases h) (fun _ => ⟨q0, q1⟩)
    obtain ⟨n, n1, n2, n3, n4⟩ := whole_down true F (by omega)
    exact ⟨n, F, n1, n2, n3, hF, n4, (fun h => by cases h), fun _ => ⟨q0, q1⟩⟩
end Go.Proofs.Ythlijhnplalflaa
