/-
  Numbers are ordered as what they are worth; a turn below minus a half, and one. No condition.
-/
import Derived.Test.YtngjpbfiijkibaaRnd
import Derived.Test.YtngjpbfiijkibaaFloA
import Derived.Test.YtngjpbfiijkibaaSFn
namespace Go.Proofs.Ytngjpbfiijkibaa
open Go.RowKit

/-- What a number is worth, in units of the least one. -/
def vl (s : Bool) (m : Nat) (e : Int) : Int := Ieee.signed s m (e + 149).toNat
/-- The powers of two as integers. -/
abbrev pw (k : Nat) : Int := ((2 ^ k : Nat) : Int)

theorem vl_pos (m : Nat) (e : Int) : vl false m e = (m : Int) * pw (e + 149).toNat := by
  unfold vl Ieee.signed pw
  rw [if_neg (by decide), Nat.shiftLeft_eq, Int.natCast_mul]
theorem vl_neg (m : Nat) (e : Int) : vl true m e = -((m : Int) * pw (e + 149).toNat) := by
  unfold vl Ieee.signed pw
  rw [if_pos rfl, Nat.shiftLeft_eq, Int.natCast_mul]
theorem vl_not (s : Bool) (m : Nat) (e : Int) : vl (!s) m e = -vl s m e := by
  cases s
  · show vl true m e = _; rw [vl_neg, vl_pos]
  · show vl false m e = _; rw [vl_neg, vl_pos, Int.neg_neg]

theorem vl_scale {s : Bool} {m : Nat} {e base : Int} (h1 : base ≤ e) (h2 : -149 ≤ base) : Ieee.signed s m (e - base).toNat * pw (base + 149).toNat = vl s m e := by
  have h : (e + 149).toNat = (e - base).toNat + (base + 149).toNat := by omega
  unfold vl Ieee.signed pw
  rw [h]
  cases s
  · rw [if_neg (by decide), if_neg (by decide), Nat.shiftLeft_eq, Nat.shiftLeft_eq, Nat.pow_add, ← Int.natCast_mul, Nat.mul_assoc]
  · rw [if_pos rfl, if_pos rfl, Nat.shiftLeft_eq, Nat.shiftLeft_eq, Nat.pow_add, Int.neg_mul, ← Int.natCast_mul, Nat.mul_assoc]

/-- A sum of what is worth Z, as it is rounded. -/
structure Near (Z : Int) (z : Nat) : Prop where
  out : ∃ neg mag place, -149 ≤ place ∧ z = FloatKind.f32.format.nearest neg mag place ∧ mag * 2 ^ (place + 149).toNat = Z.natAbs ∧ (mag ≠ 0 → neg = decide (Z < 0))

theorem near_total {s t : Bool} {m n : Nat} {e j : Int} (he : -149 ≤ e) (hj : -149 ≤ j) (b : Bool) :
    Near (vl s m e + vl t n j) (FloatKind.f32.format.nearest (if Ieee.signed s m (e - min e j).toNat + Ieee.signed t n (j - min e j).toNat = 0 then b else decide (Ieee.signed s m (e - min e j).toNat + Ieee.signed t n (j - min e j).toNat < 0)) (Ieee.signed s m (e - min e j).toNat + Ieee.signed t n (j - min e j).toNat).natAbs (min e j)) := by
  have hp : (0 : Int) < pw (min e j + 149).toNat := by unfold pw; have := Nat.two_pow_pos (min e j + 149).toNat; omega
  have hZ : (Ieee.signed s m (e - min e j).toNat + Ieee.signed t n (j - min e j).toNat) * pw (min e j + 149).toNat = vl s m e + vl t n j := by
    rw [Int.add_mul, vl_scale (by omega) (by omega), vl_scale (by omega) (by omega)]
  generalize Ieee.signed s m (e - min e j).toNat + Ieee.signed t n (j - min e j).toNat = N at *
  refine ⟨_, _, min e j, by omega, rfl, ?_, fun h => ?_⟩
  · rw [← hZ, Int.natAbs_mul]
    congr 1
  · have h0 : N ≠ 0 := fun h0 => h (by rw [h0]; rfl)
    rw [if_neg h0, ← hZ]
    refine decide_eq_decide.2 ⟨fun h => Int.mul_neg_of_neg_of_pos h hp, fun h => ?_⟩
    rcases Int.lt_or_le N 0 with h1 | h1
    · exact h1
    · have := Int.mul_nonneg h1 (Int.le_of_lt hp)
      omega

theorem add_near {x y : Nat} {s t : Bool} {m n : Nat} {e j : Int} (hx : FloatKind.f32.decode x = .number s m e) (hy : FloatKind.f32.decode y = .number t n j) (he : -149 ≤ e) (hj : -149 ≤ j) :
    ∃ z, fo .add .f32 (some x) (some y) = some z ∧ Near (vl s m e + vl t n j) z := by
  unfold FloatKind.decode at hx hy
  refine ⟨_, ?_, near_total (s := s) (t := t) (m := m) (n := n) he hj (s && t)⟩
  simp only [fo, Option.bind_some, floatBits, Ieee.Format.add, hx, hy, Ieee.Datum.sum, Option.map_some, Ieee.Format.write]

theorem sub_near {x y : Nat} {s t : Bool} {m n : Nat} {e j : Int} (hx : FloatKind.f32.decode x = .number s m e) (hy : FloatKind.f32.decode y = .number t n j) (he : -149 ≤ e) (hj : -149 ≤ j) :
    ∃ z, fo .sub .f32 (some x) (some y) = some z ∧ Near (vl s m e - vl t n j) z := by
  unfold FloatKind.decode at hx hy
  have h := near_total (s := s) (t := !t) (m := m) (n := n) he hj (s && !t)
  rw [vl_not] at h
  refine ⟨_, ?_, h⟩
  simp only [fo, Option.bind_some, floatBits, Ieee.Format.sub, hx, hy, Ieee.Datum.opposite, Ieee.Datum.sum, Option.map_some, Ieee.Format.write]

/-- The rung of a number that the format has. -/
abbrev rg (K : Nat) (L : Int) : Nat := (L + 149).toNat * 2 ^ 23 + K

/-- What is worth at most B is written at most at B's rung; of what is negative, with a sign. -/
theorem Near.hi {Z : Int} {z : Nat} (h : Near Z z) {K : Nat} {L : Int} (hK : K < 2 ^ 24) (hL : -149 ≤ L) (hc : 2 ^ 23 ≤ K ∨ L = -149) (hZ : Z.natAbs ≤ K * 2 ^ (L + 149).toNat) :
    ∃ neg r, z = FloatKind.f32.format.word neg (min r (255 * 2 ^ 23)) ∧ r ≤ rg K L ∧ (r ≠ 0 → neg = decide (Z < 0)) := by
  obtain ⟨neg, mag, place, hp, rfl, hm, hn⟩ := h.out
  by_cases h0 : mag = 0
  · subst h0
    refine ⟨neg, 0, ?_, Nat.zero_le _, fun h => absurd rfl h⟩
    unfold Ieee.Format.nearest
    simp
  · obtain ⟨r, h1, h2⟩ := near_hi neg mag K place L (-149) h0 hp hL hK hL hc (by rw [show place - -149 = place + 149 by omega, show L - -149 = L + 149 by omega, hm]; exact hZ)
    exact ⟨neg, r, h1, h2, fun _ => hn h0⟩

theorem Near.lo {Z : Int} {z : Nat} (h : Near Z z) {K : Nat} {L : Int} (hK : K < 2 ^ 24) (hL : -149 ≤ L) (hc : 2 ^ 23 ≤ K ∨ L = -149) (h0 : Z ≠ 0) (hZ : K * 2 ^ (L + 149).toNat ≤ Z.natAbs) :
    ∃ r, z = FloatKind.f32.format.word (decide (Z < 0)) (min r (255 * 2 ^ 23)) ∧ rg K L ≤ r := by
  obtain ⟨neg, mag, place, hp, rfl, hm, hn⟩ := h.out
  have hm0 : mag ≠ 0 := by
    intro hm0
    subst hm0
    rw [Nat.zero_mul] at hm
    omega
  obtain ⟨r, h1, h2⟩ := near_lo neg mag K place L (-149) hm0 hp hL hK hL hc (by rw [show place - -149 = place + 149 by omega, show L - -149 = L + 149 by omega, hm]; exact hZ)
  exact ⟨r, by rw [h1, hn hm0], h2⟩

/-- Rungs are ordered as what they are worth. -/
theorem rg_le {M K : Nat} {E L : Int} (hM : M < 2 ^ 24) (hK : K < 2 ^ 24) (hE : -149 ≤ E) (hL : -149 ≤ L) (cE : 2 ^ 23 ≤ M ∨ E = -149) (cL : 2 ^ 23 ≤ K ∨ L = -149) (h : rg M E ≤ rg K L) : M * 2 ^ (E + 149).toNat ≤ K * 2 ^ (L + 149).toNat := by
  unfold rg at h
  rcases Int.lt_trichotomy E L with hlt | rfl | hgt
  · have hk : 2 ^ 23 ≤ K := by omega
    calc M * 2 ^ (E + 149).toNat ≤ 2 ^ 24 * 2 ^ (E + 149).toNat := Nat.mul_le_mul_right _ (Nat.le_of_lt hM)
      _ = 2 ^ (24 + (E + 149).toNat) := (Nat.pow_add ..).symm
      _ ≤ 2 ^ (23 + (L + 149).toNat) := Nat.pow_le_pow_right (by decide) (by omega)
      _ = 2 ^ 23 * 2 ^ (L + 149).toNat := Nat.pow_add ..
      _ ≤ K * 2 ^ (L + 149).toNat := Nat.mul_le_mul_right _ hk
  · exact Nat.mul_le_mul_right _ (by omega)
  · exfalso
    have hk : 2 ^ 23 ≤ M := by omega
    omega

/-- A number that is widened: its word, and what is read of it. -/
theorem cv_up {h k : Nat} {t : Bool} {j : Int} (hd : FloatKind.f32.decode h = .number t k j) (hh : h < 2 ^ 32) (hk : k ≠ 0) :
    ∃ y, cv .f32 .f64 (some h) = some y ∧ y < 2 ^ 64 ∧ FloatKind.f64.decode y = .number t (k <<< (52 - k.log2)) (j - ((52 - k.log2 : Nat) : Int)) := by
  obtain ⟨f1, f2, f3, f4, f5⟩ := read_facts32 hh hd
  have hl := log2_lt_pow f1 hk
  have hw := write_exact .f64 t k j hk (by show k.log2 ≤ 52; omega) (by show (-1074 : Int) ≤ j + k.log2 - 52; omega) (by show j + (k.log2 : Int) ≤ 1023; omega)
  have e1 : FloatKind.f64.format.fractionBits = 52 := rfl
  rw [e1] at hw
  refine ⟨FloatKind.f64.encode (.number t k j), ?_, (show FloatKind.f64.format.write _ < _ from Ieee.Format.write_lt _ _), ?_⟩
  · unfold cv floatToFloatBits
    rw [Option.bind_some, if_neg (by decide), hd]
    simp only [hw]
    rfl
  · rw [hw]
    congr 1
    omega

/-- A number that is narrowed to what the format has. -/
theorem cv_down {y h M k : Nat} {t : Bool} {e j : Int} (hd : FloatKind.f64.decode y = .number t M e) (hn : FloatKind.f32.format.nearest t M e = h) (hh : FloatKind.f32.decode h = .number t k j) : cv .f64 .f32 (some y) = some h ∧ Fit .f64 .f32 (some y) := by
  have key : floatToFloatBits .f64 y .f32 = some h := by
    unfold floatToFloatBits
    rw [if_neg (by decide), hd]
    have : FloatKind.f32.encode (.number t M e) = h := hn
    simp only [this, hh]
    rfl
  exact ⟨key, fun x hx => by cases hx; rw [key]; rfl⟩

theorem write_back32 {h k : Nat} {t : Bool} {j : Int} (hd : FloatKind.f32.decode h = .number t k j) (hh : h < 2 ^ 32) : FloatKind.f32.format.nearest t k j = h := by
  have hi : Is .f32 h (some h) := ⟨by unfold nrm; rw [if_neg (by rw [hd]; simp [Ieee.Datum.isNaN])], hh⟩
  have := write_read32 hi
  unfold FloatKind.decode at hd
  rw [hd] at this
  exact this

/-- A great number is its own floor. -/
theorem floor_great {h k : Nat} {t : Bool} {j : Int} (hd : FloatKind.f32.decode h = .number t k j) (hh : h < 2 ^ 32) (hk : k ≠ 0) (hj : 0 ≤ j) :
    cv .f64 .f32 (floorO (cv .f32 .f64 (some h))) = some h ∧ Fit .f64 .f32 (floorO (cv .f32 .f64 (some h))) := by
  obtain ⟨f1, f2, f3, f4, f5⟩ := read_facts32 hh hd
  obtain ⟨y, hy, hlt, hy64⟩ := cv_up hd hh hk
  rw [hy]
  have hl := log2_lt_pow f1 hk
  have hne : k <<< (52 - k.log2) ≠ 0 := by rw [Nat.shiftLeft_eq]; exact Nat.mul_ne_zero hk (Nat.pos_iff_ne_zero.1 (Nat.two_pow_pos _))
  have hfl : floorO (some y) = some y := by
    by_cases h0 : 0 ≤ j - ((52 - k.log2 : Nat) : Int)
    · exact floor_whole hlt hy64 h0 hne
    · unfold floorO
      simp only [Option.bind_some, hy64, Ieee.Datum.integral]
      have a1 : (j - ((52 - k.log2 : Nat) : Int)).toNat = 0 := by omega
      have a2 : (-(j - ((52 - k.log2 : Nat) : Int))).toNat = 52 - k.log2 - j.toNat := by omega
      rw [a1, a2, Nat.shiftLeft_zero]
      have a3 : k <<< (52 - k.log2) = (k <<< j.toNat) <<< (52 - k.log2 - j.toNat) := by rw [← Nat.shiftLeft_add]; congr 1; omega
      have hne2 : k <<< j.toNat ≠ 0 := by rw [Nat.shiftLeft_eq]; exact Nat.mul_ne_zero hk (Nat.pos_iff_ne_zero.1 (Nat.two_pow_pos _))
      have hc : Ieee.Toward.down.cut t (k <<< (52 - k.log2)) (52 - k.log2 - j.toNat) = k <<< j.toNat := by
        rw [a3]
        generalize k <<< j.toNat = m at hne2
        generalize 52 - k.log2 - j.toNat = d
        unfold Ieee.Toward.cut
        have hs : m <<< d = m * 2 ^ d := Nat.shiftLeft_eq ..
        have hmin : min d ((m * 2 ^ d).log2 + 2) = d := by rw [← hs, log2_shift hne2]; omega
        have hq : m * 2 ^ d / 2 ^ d = m := Nat.mul_div_cancel _ (Nat.two_pow_pos _)
        have hr : m * 2 ^ d % 2 ^ d = 0 := Nat.mul_mod_left _ _
        simp only [Nat.one_shiftLeft, hs, hmin, hq, hr]
        simp
      rw [hc]
      have hw := write_shift hlt hy64 hne 0
      have : FloatKind.f64.encode (.number t (k <<< j.toNat) 0) = FloatKind.f64.encode (.number t (k <<< (52 - k.log2)) (j - ((52 - k.log2 : Nat) : Int))) := by
        show FloatKind.f64.format.nearest t (k <<< j.toNat) 0 = FloatKind.f64.format.nearest t _ _
        have hs := nearest_shift FloatKind.f64.format t (k <<< j.toNat) (52 - k.log2 - j.toNat) 0 hne2
        rw [a3, ← hs]
        congr 1
        omega
      rw [this]
      simpa using hw
  rw [hfl]
  refine cv_down hy64 ?_ hd
  rw [nearest_shift _ _ _ _ _ hk]
  exact write_back32 hd hh

theorem lt_pow2 (M : Nat) : M < 2 ^ (M.log2 + 2) := Nat.lt_of_lt_of_le (lt_pow_log2 M) (Nat.pow_le_pow_right (by decide) (by omega))

/-- Cut down: of what is not negative the greatest whole that is not greater. -/
theorem cut_false (M D : Nat) : Ieee.Toward.down.cut false M D * 2 ^ D ≤ M ∧ M < (Ieee.Toward.down.cut false M D + 1) * 2 ^ D := by
  unfold Ieee.Toward.cut
  simp only [Bool.false_and, Bool.toNat_false, Nat.add_zero, Nat.one_shiftLeft]
  rcases Nat.le_total D (M.log2 + 2) with h | h
  · rw [Nat.min_eq_left h]
    refine ⟨Nat.div_mul_le_self _ _, ?_⟩
    rw [Nat.mul_comm]
    exact Nat.lt_mul_div_succ M (Nat.two_pow_pos _)
  · rw [Nat.min_eq_right h, Nat.div_eq_of_lt (lt_pow2 M)]
    refine ⟨by omega, ?_⟩
    rw [Nat.zero_add, Nat.one_mul]
    exact Nat.lt_of_lt_of_le (lt_pow2 M) (Nat.pow_le_pow_right (by decide) h)

/-- Of what is negative, the least whole that is not less. -/
theorem cut_true (M D : Nat) (hM : M ≠ 0) : M ≤ Ieee.Toward.down.cut true M D * 2 ^ D ∧ Ieee.Toward.down.cut true M D * 2 ^ D < M + 2 ^ D := by
  unfold Ieee.Toward.cut
  simp only [Bool.true_and, Nat.one_shiftLeft]
  rcases Nat.le_total D (M.log2 + 2) with h | h
  · rw [Nat.min_eq_left h]
    have hd := Nat.div_add_mod M (2 ^ D)
    have hm := Nat.mod_lt M (Nat.two_pow_pos D)
    have hp := Nat.two_pow_pos D
    generalize 2 ^ D = G at *
    rw [Nat.mul_comm] at hd
    by_cases h0 : M % G = 0
    · rw [h0]
      simp only [bne_self_eq_false, Bool.toNat_false, Nat.add_zero]
      omega
    · have : (M % G != 0) = true := by simpa using h0
      rw [this, Bool.toNat_true, Nat.add_mul, Nat.one_mul]
      omega
  · rw [Nat.min_eq_right h, Nat.div_eq_of_lt (lt_pow2 M), Nat.mod_eq_of_lt (lt_pow2 M)]
    have : (M != 0) = true := by simpa using hM
    rw [this, Bool.toNat_true, Nat.zero_add, Nat.one_mul]
    have h2 : M < 2 ^ D := Nat.lt_of_lt_of_le (lt_pow2 M) (Nat.pow_le_pow_right (by decide) h)
    omega

/-- A whole number that is not great, written in double precision and narrowed. -/
theorem whole_down (t : Bool) (F : Nat) (hF : F < 2 ^ 24) : ∃ n, cv .f64 .f32 (some (FloatKind.f64.encode (.number t F 0))) = some n ∧ Fit .f64 .f32 (some (FloatKind.f64.encode (.number t F 0))) ∧ n < 2 ^ 32 ∧
    ∃ M E, FloatKind.f32.decode n = .number t M E ∧ -149 ≤ E ∧ vl t M E = (if t then -(F : Int) else F) * pw 149 := by
  by_cases h0 : F = 0
  · subst h0
    cases t
    · exact ⟨0, by decide, (by intro q hq; cases hq; decide), by decide, 0, -149, by decide, by decide, by decide⟩
    · exact ⟨2147483648, by decide, (by intro q hq; cases hq; decide), by decide, 0, -149, by decide, by decide, by decide⟩
  · have hl := log2_lt_pow hF h0
    have h64 := write_exact .f64 t F 0 h0 (by show F.log2 ≤ 52; omega) (by show (-1074 : Int) ≤ 0 + F.log2 - 52; omega) (by show (0 : Int) + F.log2 ≤ 1023; omega)
    have h32 := write_exact .f32 t F 0 h0 (by show F.log2 ≤ 23; omega) (by show (-149 : Int) ≤ 0 + F.log2 - 23; omega) (by show (0 : Int) + F.log2 ≤ 127; omega)
    have e1 : FloatKind.f64.format.fractionBits = 52 := rfl
    have e2 : FloatKind.f32.format.fractionBits = 23 := rfl
    rw [e1] at h64
    rw [e2] at h32
    have hn : FloatKind.f32.format.nearest t (F <<< (52 - F.log2)) (0 + (F.log2 : Int) - ((52 : Nat) : Int)) = FloatKind.f32.encode (.number t F 0) := by
      have := nearest_shift FloatKind.f32.format t F (52 - F.log2) 0 h0
      rw [show (0 : Int) + (F.log2 : Int) - ((52 : Nat) : Int) = 0 - ((52 - F.log2 : Nat) : Int) by omega, this]
      rfl
    obtain ⟨c1, c2⟩ := cv_down h64 hn h32
    refine ⟨_, c1, c2, (show FloatKind.f32.format.write _ < _ from Ieee.Format.write_lt _ _), _, _, h32, by omega, ?_⟩
    have hv : ((F <<< (23 - F.log2) : Nat) : Int) * pw (0 + (F.log2 : Int) - ((23 : Nat) : Int) + 149).toNat = (F : Int) * pw 149 := by
      unfold pw
      rw [Nat.shiftLeft_eq, ← Int.natCast_mul, ← Int.natCast_mul, Nat.mul_assoc, ← Nat.pow_add]
      congr 3
      omega
    cases t
    · rw [vl_pos, hv]; rfl
    · rw [vl_neg, hv, if_pos rfl, Int.neg_mul]

/-- The floor of a number that is not great. -/
theorem floor_small {h k : Nat} {t : Bool} {j : Int} (hd : FloatKind.f32.decode h = .number t k j) (hh : h < 2 ^ 32) (hk : k ≠ 0) (hj : j < 0) :
    ∃ (n F : Nat), cv .f64 .f32 (floorO (cv .f32 .f64 (some h))) = some n ∧ Fit .f64 .f32 (floorO (cv .f32 .f64 (some h))) ∧ n < 2 ^ 32 ∧ F ≤ 2 ^ 23 ∧
      (∃ M E, FloatKind.f32.decode n = .number t M E ∧ -149 ≤ E ∧ vl t M E = (if t then -(F : Int) else F) * pw 149) ∧
      (t = false → F * 2 ^ (-j).toNat ≤ k ∧ k < (F + 1) * 2 ^ (-j).toNat) ∧ (t = true → k ≤ F * 2 ^ (-j).toNat ∧ F * 2 ^ (-j).toNat < k + 2 ^ (-j).toNat) := by
  obtain ⟨f1, f2, f3, f4, f5⟩ := read_facts32 hh hd
  obtain ⟨y, hy, hlt, hy64⟩ := cv_up hd hh hk
  rw [hy]
  have hl := log2_lt_pow f1 hk
  have hfl : floorO (some y) = some (FloatKind.f64.encode (.number t (Ieee.Toward.down.cut t (k <<< (52 - k.log2)) ((52 - k.log2) + (-j).toNat)) 0)) := by
    unfold floorO
    simp only [Option.bind_some, hy64, Ieee.Datum.integral]
    have a1 : (j - ((52 - k.log2 : Nat) : Int)).toNat = 0 := by omega
    have a2 : (-(j - ((52 - k.log2 : Nat) : Int))).toNat = (52 - k.log2) + (-j).toNat := by omega
    rw [a1, a2, Nat.shiftLeft_zero]
  have hM : k <<< (52 - k.log2) ≠ 0 := by rw [Nat.shiftLeft_eq]; exact Nat.mul_ne_zero hk (Nat.pos_iff_ne_zero.1 (Nat.two_pow_pos _))
  have c0 := cut_false (k <<< (52 - k.log2)) ((52 - k.log2) + (-j).toNat)
  have c1 := cut_true (k <<< (52 - k.log2)) ((52 - k.log2) + (-j).toNat) hM
  rw [hfl]
  rw [Nat.shiftLeft_eq] at c0 c1 ⊢
  have hp := Nat.two_pow_pos (52 - k.log2)
  have hJ : 2 ≤ 2 ^ (-j).toNat := by
    calc 2 = 2 ^ 1 := rfl
      _ ≤ 2 ^ (-j).toNat := Nat.pow_le_pow_right (by decide) (by omega)
  rw [Nat.pow_add] at c0 c1
  generalize 2 ^ (-j).toNat = J at *
  have sc : ∀ F, F * (2 ^ (52 - k.log2) * J) = F * J * 2 ^ (52 - k.log2) := fun F => by rw [Nat.mul_comm (2 ^ _) J, Nat.mul_assoc]
  rw [sc, sc] at c0
  rw [sc, Nat.mul_comm (2 ^ (52 - k.log2)) J, ← Nat.add_mul] at c1
  have fin : ∀ F, (t = false → F * J ≤ k ∧ k < (F + 1) * J) → (t = true → k ≤ F * J ∧ F * J < k + J) → F ≤ 2 ^ 23 := fun F h0 h1 => by
    cases t
    · have := (h0 rfl).1
      have h2 : F * 2 ≤ F * J := Nat.mul_le_mul_left _ hJ
      omega
    · have := (h1 rfl).2
      rcases Nat.lt_or_ge F (2 ^ 23 + 1) with h | h
      · omega
      · have h2 : (2 ^ 23 + 1) * J ≤ F * J := Nat.mul_le_mul_right _ h
        omega
  cases t
  · have q0 : Ieee.Toward.down.cut false (k * 2 ^ (52 - k.log2)) ((52 - k.log2) + (-j).toNat) * J ≤ k := Nat.le_of_mul_le_mul_right c0.1 hp
    have q1 : k < (Ieee.Toward.down.cut false (k * 2 ^ (52 - k.log2)) ((52 - k.log2) + (-j).toNat) + 1) * J := Nat.lt_of_mul_lt_mul_right c0.2
    generalize Ieee.Toward.down.cut false (k * 2 ^ (52 - k.log2)) ((52 - k.log2) + (-j).toNat) = F at *
    have hF := fin F (fun _ => ⟨q0, q1⟩) (fun h => by cases h)
    obtain ⟨n, n1, n2, n3, n4⟩ := whole_down false F (by omega)
    exact ⟨n, F, n1, n2, n3, hF, n4, fun _ => ⟨q0, q1⟩, fun h => by cases h⟩
  · have q0 : k ≤ Ieee.Toward.down.cut true (k * 2 ^ (52 - k.log2)) ((52 - k.log2) + (-j).toNat) * J := Nat.le_of_mul_le_mul_right c1.1 hp
    have q1 : Ieee.Toward.down.cut true (k * 2 ^ (52 - k.log2)) ((52 - k.log2) + (-j).toNat) * J < k + J := Nat.lt_of_mul_lt_mul_right c1.2
    generalize Ieee.Toward.down.cut true (k * 2 ^ (52 - k.log2)) ((52 - k.log2) + (-j).toNat) = F at *
    have hF := fin F (fun h => by cases h) (fun _ => ⟨q0, q1⟩)
    obtain ⟨n, n1, n2, n3, n4⟩ := whole_down true F (by omega)
    exact ⟨n, F, n1, n2, n3, hF, n4, (fun h => by cases h), fun _ => ⟨q0, q1⟩⟩

theorem word_inj {s t : Bool} {a b : Nat} (ha : a < 2 ^ 31) (hb : b < 2 ^ 31) (h : FloatKind.f32.format.word s a = FloatKind.f32.format.word t b) : s = t ∧ a = b := by
  have e1 : FloatKind.f32.format.signWeight = 2 ^ 31 := rfl
  unfold Ieee.Format.word at h
  rw [e1] at h
  cases s <;> cases t <;> simp at h <;> (first | exact ⟨rfl, by omega⟩ | (exfalso; omega))

theorem Near.mono0 {Z : Int} {z k : Nat} {t : Bool} {j : Int} (h : Near Z z) (hz : FloatKind.f32.decode z = .number t k j) (hl : z < 2 ^ 32) {K : Nat} {L : Int} (hK : K < 2 ^ 24) (hL : -149 ≤ L) (hc : 2 ^ 23 ≤ K ∨ L = -149) (hY : vl false K L ≤ Z) : vl false K L ≤ vl t k j := by
  obtain ⟨f1, f2, f3, f4, f5⟩ := read_facts32 hl hz
  have hp : (0 : Int) ≤ (K : Int) * pw (L + 149).toNat := Int.mul_nonneg (Int.natCast_nonneg _) (Int.natCast_nonneg _)
  rw [vl_pos] at *
  by_cases h0 : Z = 0
  · obtain ⟨neg, r, h1, h2, h3⟩ := h.hi (K := 0) (L := -149) (by decide) (by decide) (.inr rfl) (by rw [h0]; decide)
    have hr : r = 0 := by simp [rg] at h2; omega
    subst hr
    rw [f4] at h1
    have := (word_inj (by omega) (by simp) h1).2
    have hk : k = 0 := by simp at this; omega
    subst hk
    have e0 : vl t 0 j = 0 := by cases t <;> simp [vl_pos, vl_neg]
    rw [e0]
    omega
  · obtain ⟨r, h1, h2⟩ := h.lo hK hL hc h0 (by
      have : ((K * 2 ^ (L + 149).toNat : Nat) : Int) = (K : Int) * pw (L + 149).toNat := by unfold pw; rw [Int.natCast_mul]
      omega)
    have hs : decide (Z < 0) = false := by simp; omega
    rw [f4, hs] at h1
    obtain ⟨rfl, hr⟩ := word_inj (by omega) (by omega) h1
    have hle : rg K L ≤ rg k j := by unfold rg at *; omega
    have := rg_le hK f1 hL f2 hc f3 hle
    rw [vl_pos]
    unfold pw
    rw [← Int.natCast_mul, ← Int.natCast_mul]
    omega

theorem Near.mono {Z : Int} {z k : Nat} {t s : Bool} {j : Int} (h : Near Z z) (hz : FloatKind.f32.decode z = .number t k j) (hl : z < 2 ^ 32) {K : Nat} {L : Int} (hK : K < 2 ^ 24) (hL : -149 ≤ L) (hc : 2 ^ 23 ≤ K ∨ L = -149) (hY : vl s K L ≤ Z) : vl s K L ≤ vl t k j := by
  cases s with
  | false => exact h.mono0 hz hl hK hL hc hY
  | true =>
    have hp : (0 : Int) ≤ (K : Int) * pw (L + 149).toNat := Int.mul_nonneg (Int.natCast_nonneg _) (Int.natCast_nonneg _)
    rw [vl_neg] at *
    by_cases h0 : 0 ≤ Z
    · have := h.mono0 hz hl (K := 0) (L := -149) (by decide) (by decide) (.inr rfl) (by rw [vl_pos]; simpa using h0)
      rw [vl_pos] at this
      simp at this
      omega
    · obtain ⟨f1, f2, f3, f4, f5⟩ := read_facts32 hl hz
      have hcast : ((K * 2 ^ (L + 149).toNat : Nat) : Int) = (K : Int) * pw (L + 149).toNat := by unfold pw; rw [Int.natCast_mul]
      obtain ⟨neg, r, h1, h2, h3⟩ := h.hi hK hL hc (by omega)
      rw [f4] at h1
      obtain ⟨rfl, hr⟩ := word_inj (by omega) (by omega) h1
      have hle : rg k j ≤ rg K L := by unfold rg at *; omega
      have hk := rg_le f1 hK f2 hL f3 hc hle
      have hcast2 : ((k * 2 ^ (j + 149).toNat : Nat) : Int) = (k : Int) * pw (j + 149).toNat := by unfold pw; rw [Int.natCast_mul]
      cases t
      · rw [vl_pos]; omega
      · rw [vl_neg]; omega

/-- What is not too great is written as a number. -/
theorem near_number {Z : Int} {z : Nat} (h : Near Z z) {B : Nat} (hB : B ≤ 250) (hZ : Z.natAbs ≤ 2 ^ 23 * 2 ^ B) :
    ∃ neg r, z = FloatKind.f32.format.word neg r ∧ r ≤ (B + 1) * 2 ^ 23 ∧ r < 255 * 2 ^ 23 ∧ (r ≠ 0 → neg = decide (Z < 0)) := by
  obtain ⟨neg, r, h1, h2, h3⟩ := h.hi (K := 2 ^ 23) (L := (B : Int) - 149) (by decide) (by omega) (.inl (Nat.le_refl _)) (by rw [show ((B : Int) - 149 + 149).toNat = B by omega]; exact hZ)
  have hr : r ≤ (B + 1) * 2 ^ 23 := by
    unfold rg at h2
    rw [show ((B : Int) - 149 + 149).toNat = B by omega] at h2
    omega
  have hlt : r < 255 * 2 ^ 23 := by
    have : (B + 1) * 2 ^ 23 ≤ 251 * 2 ^ 23 := Nat.mul_le_mul_right _ (by omega)
    omega
  have hmin : min r (255 * 2 ^ 23) = r := Nat.min_eq_left (Nat.le_of_lt hlt)
  rw [hmin] at h1
  exact ⟨neg, r, h1, hr, hlt, h3⟩

theorem word_number (neg : Bool) {r : Nat} (hr : r < 255 * 2 ^ 23) : FloatKind.f32.format.word neg r < 2 ^ 32 ∧ ∃ t k j, FloatKind.f32.decode (FloatKind.f32.format.word neg r) = .number t k j := by
  have e1 : FloatKind.f32.format.signWeight = 2 ^ 31 := rfl
  have e2 : FloatKind.f32.format.binade = 2 ^ 23 := rfl
  have e4 : FloatKind.f32.format.infRung = 255 * 2 ^ 23 := rfl
  have hm : FloatKind.f32.format.word neg r % 2 ^ 31 = r := by
    unfold Ieee.Format.word
    rw [e1]
    cases neg <;> simp <;> omega
  refine ⟨by unfold Ieee.Format.word; rw [e1]; cases neg <;> simp <;> omega, ?_⟩
  unfold FloatKind.decode Ieee.Format.read
  simp only [e1, e2, e4, hm]
  split
  · exact ⟨_, _, _, rfl⟩
  · exact ⟨_, _, _, rfl⟩

theorem vl_abs (s : Bool) (m : Nat) (e : Int) : (vl s m e).natAbs = m * 2 ^ (e + 149).toNat := by
  cases s
  · rw [vl_pos]; unfold pw; rw [← Int.natCast_mul]; rfl
  · rw [vl_neg]; unfold pw; rw [← Int.natCast_mul, Int.natAbs_neg]; rfl

/-- A difference that is not above 0, or that is clearly less than a half. -/
theorem low_end {Z : Int} {z : Nat} (h : Near Z z) (hZ : Z.natAbs ≤ 2 ^ 23 * 2 ^ 250) (hl : Z ≤ 0 ∨ Z ≤ (2 ^ 24 - 1) * pw 124) :
    ∃ neg r, z = FloatKind.f32.format.word neg r ∧ r < 255 * 2 ^ 23 ∧ (neg = true ∨ r < 126 * 2 ^ 23) := by
  by_cases h0 : Z < 0
  · obtain ⟨neg, r, h1, _, h2, h3⟩ := near_number h (Nat.le_refl _) hZ
    by_cases hr : r = 0
    · exact ⟨neg, r, h1, h2, .inr (by omega)⟩
    · exact ⟨neg, r, h1, h2, .inl (by rw [h3 hr]; simpa using h0)⟩
  · have hp : (0 : Int) ≤ pw 124 := Int.natCast_nonneg _
    have hZ2 : Z.natAbs ≤ (2 ^ 24 - 1) * 2 ^ 124 := by
      rcases hl with hl | hl
      · have : Z.natAbs = 0 := by omega
        rw [this]; exact Nat.zero_le _
      · have : (((2 ^ 24 - 1) * 2 ^ 124 : Nat) : Int) = (2 ^ 24 - 1) * pw 124 := by unfold pw; rw [Int.natCast_mul]; rfl
        omega
    obtain ⟨neg, r, h1, h2, h3⟩ := h.hi (K := 2 ^ 24 - 1) (L := -25) (by decide) (by decide) (.inl (by decide)) hZ2
    have hr : r < 126 * 2 ^ 23 := by
      unfold rg at h2
      have : ((-25 : Int) + 149).toNat = 124 := by decide
      rw [this] at h2
      omega
    have hlt : r < 255 * 2 ^ 23 := by omega
    have hmin : min r (255 * 2 ^ 23) = r := Nat.min_eq_left (Nat.le_of_lt hlt)
    rw [hmin] at h1
    exact ⟨neg, r, h1, hlt, .inr hr⟩

/-- Whole numbers that are not too great are numbers of the format. -/
theorem whole_in (s : Bool) (F : Nat) (hF : F < 2 ^ 24) : ∃ M E, M < 2 ^ 24 ∧ (-149 : Int) ≤ E ∧ (2 ^ 23 ≤ M ∨ E = -149) ∧ vl s M E = (if s then -(F : Int) else F) * pw 149 := by
  obtain ⟨n, _, _, hn, M, E, hd, _, hv⟩ := whole_down s F hF
  obtain ⟨f1, f2, f3, _, _⟩ := read_facts32 hn hd
  exact ⟨M, E, f1, f2, f3, hv⟩

theorem half_vl : vl false (2 ^ 23) (-24) = pw 148 := by rw [vl_pos]; decide

/-- The case of a floor that is not the number itself. -/
theorem below_half {h k F : Nat} {s t : Bool} {m : Nat} {e j : Int} (f1 : m < 2 ^ 24) (hn : Near (vl s m e + pw 148) h) (hd : FloatKind.f32.decode h = .number t k j) (hl : h < 2 ^ 32) (hj : j < 0) (hj2 : -149 ≤ j) (hF : F ≤ 2 ^ 23)
    (p0 : t = false → F * 2 ^ (-j).toNat ≤ k ∧ k < (F + 1) * 2 ^ (-j).toNat) (p1 : t = true → k ≤ F * 2 ^ (-j).toNat ∧ F * 2 ^ (-j).toNat < k + 2 ^ (-j).toNat) :
    vl s m e - (if t then -(F : Int) else F) * pw 149 < pw 148 := by
  have hone : pw 149 = 2 * pw 148 := by decide
  have hsplit : (2 : Nat) ^ 149 = 2 ^ (-j).toNat * 2 ^ (j + 149).toNat := by rw [← Nat.pow_add]; congr 1; omega
  apply Int.not_le.1
  intro hge
  cases t with
  | false =>
    rw [if_neg (by decide)] at hge
    obtain ⟨M, E, g1, g2, g3, g4⟩ := whole_in false (F + 1) (by omega)
    rw [if_neg (by decide)] at g4
    have e1 : ((F + 1 : Nat) : Int) * pw 149 = (F : Int) * pw 149 + pw 149 := by rw [Int.natCast_add, Int.add_mul, Int.natCast_one, Int.one_mul]
    have hle : vl false M E ≤ vl s m e + pw 148 := by
      rw [g4, e1, hone]
      rw [hone] at hge
      generalize (F : Int) * (2 * pw 148) = Q at *
      generalize pw 148 = H at *
      omega
    have hm := hn.mono hd hl (s := false) g1 g2 g3 hle
    rw [g4, vl_pos] at hm
    have hk := (p0 rfl).2
    have h3 : (F + 1) * 2 ^ 149 ≤ k * 2 ^ (j + 149).toNat := by unfold pw at hm; rw [← Int.natCast_mul, ← Int.natCast_mul] at hm; exact Int.ofNat_le.1 hm
    rw [hsplit, ← Nat.mul_assoc] at h3
    have := Nat.le_of_mul_le_mul_right h3 (Nat.two_pow_pos _)
    omega
  | true =>
    rw [if_pos rfl] at hge
    obtain ⟨hk1, hk⟩ := p1 rfl
    by_cases hF0 : F = 0
    · subst hF0
      -- k is 0
      obtain ⟨M, E, g1, g2, g3, g4⟩ := whole_in false 1 (by decide)
      rw [if_neg (by decide)] at g4
      have hle : vl false M E ≤ vl s m e + pw 148 := by
        rw [g4, hone]
        have : -((0 : Nat) : Int) * pw 149 = 0 := by simp
        rw [this] at hge
        rw [Int.natCast_one, Int.one_mul]
        generalize pw 148 = H at *
        omega
      have hm := hn.mono hd hl (s := false) g1 g2 g3 hle
      rw [g4, vl_neg] at hm
      have h0 : (0 : Int) ≤ (k : Int) * pw (j + 149).toNat := Int.mul_nonneg (Int.natCast_nonneg _) (Int.natCast_nonneg _)
      have h1 : (0 : Int) < pw 149 := by decide
      rw [Int.natCast_one, Int.one_mul] at hm
      omega
    · obtain ⟨F', rfl⟩ : ∃ F', F = F' + 1 := ⟨F - 1, by omega⟩
      obtain ⟨M, E, g1, g2, g3, g4⟩ := whole_in true F' (by omega)
      rw [if_pos rfl] at g4
      have e1 : -((F' + 1 : Nat) : Int) * pw 149 = -(F' : Int) * pw 149 - pw 149 := by rw [Int.natCast_add, Int.natCast_one, Int.neg_add, Int.add_mul, Int.neg_mul 1, Int.one_mul]; rfl
      have hle : vl true M E ≤ vl s m e + pw 148 := by
        rw [e1] at hge
        rw [g4]
        rw [hone] at hge ⊢
        generalize -(F' : Int) * (2 * pw 148) = Q at *
        generalize pw 148 = H at *
        omega
      have hm := hn.mono hd hl (s := true) g1 g2 g3 hle
      rw [g4, vl_neg, Int.neg_mul] at hm
      have h3 : k * 2 ^ (j + 149).toNat ≤ F' * 2 ^ 149 := by
        unfold pw at hm
        rw [← Int.natCast_mul, ← Int.natCast_mul] at hm
        exact Int.ofNat_le.1 (by omega)
      rw [hsplit, ← Nat.mul_assoc] at h3
      have := Nat.le_of_mul_le_mul_right h3 (Nat.two_pow_pos _)
      rw [Nat.add_mul, Nat.one_mul] at hk
      omega

/-- What is clearly less than a half. -/
theorem clear_half {s t : Bool} {m F k : Nat} {e j : Int} {h : Nat} (f1 : m < 2 ^ 24) (f2 : -149 ≤ e) (hn : Near (vl s m e + pw 148) h) (hd : FloatKind.f32.decode h = .number t k j) (hl : h < 2 ^ 32) (hk : k ≠ 0)
    (hlt : vl s m e - (if t then -(F : Int) else F) * pw 149 < pw 148) : vl s m e - (if t then -(F : Int) else F) * pw 149 ≤ (2 ^ 24 - 1) * pw 124 := by
  have h0 : (0 : Int) < pw 124 := by decide
  by_cases he : -25 ≤ e
  · have hX := vl_scale (s := s) (m := m) he (by decide : (-149 : Int) ≤ -25)
    have e1 : ((-25 : Int) + 149).toNat = 124 := by decide
    rw [e1] at hX
    have e2 : pw 149 = 2 ^ 25 * pw 124 := by decide
    have e3 : pw 148 = 2 ^ 24 * pw 124 := by decide
    generalize (if t then -(F : Int) else F) = N at *
    generalize Ieee.signed s m (e - -25).toNat = a at hX
    rw [← hX, e2, e3, ← Int.mul_assoc, ← Int.sub_mul] at hlt
    rw [← hX, e2, ← Int.mul_assoc, ← Int.sub_mul]
    have := Int.lt_of_mul_lt_mul_right hlt (Int.le_of_lt h0)
    exact Int.mul_le_mul_of_nonneg_right (by omega) (Int.le_of_lt h0)
  · have hX : (vl s m e).natAbs ≤ 2 ^ 24 * 2 ^ 123 := by
      rw [vl_abs]
      exact Nat.mul_le_mul (Nat.le_of_lt f1) (Nat.pow_le_pow_right (by decide) (by omega))
    have c1 : ((2 ^ 24 * 2 ^ 123 : Nat) : Int) ≤ (2 ^ 24 - 1) * pw 124 := by decide
    have c2 : ((2 ^ 24 * 2 ^ 123 : Nat) : Int) ≤ pw 148 := by decide
    generalize (2 ^ 24 * 2 ^ 123 : Nat) = C at *
    cases t with
    | false =>
      rw [if_neg (by decide)]
      have hN : (0 : Int) ≤ (F : Int) * pw 149 := Int.mul_nonneg (Int.natCast_nonneg _) (Int.natCast_nonneg _)
      omega
    | true =>
      exfalso
      have z0 : ((0 : Nat) : Int) * pw ((-149 : Int) + 149).toNat = 0 := by simp
      have hm := hn.mono0 hd hl (K := 0) (L := -149) (by decide) (by decide) (.inr rfl) (by rw [vl_pos, z0]; omega)
      rw [vl_pos, vl_neg, z0] at hm
      have hp : (0 : Int) < (k : Int) * pw (j + 149).toNat := Int.mul_pos (by omega) (by unfold pw; have := Nat.two_pow_pos (j + 149).toNat; omega)
      omega

theorem rung_le {a b c : Nat} (h : a * 2 ^ 23 + b = c) (hc : c ≤ (152 + 1) * 2 ^ 23) : a ≤ 153 := by omega
theorem abs_bound {X N : Int} {C1 C2 C3 : Nat} (hX : X.natAbs ≤ C1) (hN : N.natAbs ≤ C2) (c : C1 + C2 ≤ C3) : (X - N).natAbs ≤ C3 := by omega
theorem rung_zero {j : Int} (h : 2 ^ 23 ≤ 0 ∨ j = -149) : (j + 149).toNat * 2 ^ 23 + 0 = 0 := by omega
theorem le_zero_sub {a b : Int} (h : a ≤ b) : a - b ≤ 0 := by omega

/-- A turn without whole ones, ahead of the one that is put back: a number, less than a half. -/
theorem wrap_turn {x : Nat} {s : Bool} {m : Nat} {e : Int} (hx : x < 2 ^ 32) (hd : FloatKind.f32.decode x = .number s m e) :
    ∃ z neg r, fo .sub .f32 (some x) (cv .f64 .f32 (floorO (cv .f32 .f64 (fo .add .f32 (some x) (some 1056964608))))) = some z ∧ Fit .f64 .f32 (floorO (cv .f32 .f64 (fo .add .f32 (some x) (some 1056964608)))) ∧
      z = FloatKind.f32.format.word neg r ∧ r < 255 * 2 ^ 23 ∧ (neg = true ∨ r < 126 * 2 ^ 23) := by
  obtain ⟨f1, f2, f3, f4, f5⟩ := read_facts32 hx hd
  have hh : FloatKind.f32.decode 1056964608 = .number false (2 ^ 23) (-24) := by rfl
  by_cases he : 2 ≤ e
  · rw [add_half hx hd he]
    obtain ⟨n1, n2⟩ := floor_great hd hx (by omega) (by omega)
    rw [n1]
    obtain ⟨z, hz, hn⟩ := sub_near hd hd f2 f2
    rw [Int.sub_self] at hn
    obtain ⟨neg, r, q1, q2, q3⟩ := low_end hn (Nat.zero_le _) (.inl (Int.le_refl _))
    exact ⟨z, neg, r, hz, n2, q1, q2, q3⟩
  · obtain ⟨h, hh1, hn⟩ := add_near hd hh f2 (by decide)
    rw [half_vl] at hn
    have hX : (vl s m e).natAbs ≤ 2 ^ 24 * 2 ^ 150 := by
      rw [vl_abs]
      exact Nat.mul_le_mul (Nat.le_of_lt f1) (Nat.pow_le_pow_right (by decide) (by omega))
    have hb : (vl s m e + pw 148).natAbs ≤ 2 ^ 23 * 2 ^ 152 := Nat.le_trans (Int.natAbs_add_le _ _) (Nat.le_trans (Nat.add_le_add hX (by decide : (pw 148).natAbs ≤ 2 ^ 148)) (by decide))
    obtain ⟨neg, r, hw, hr, hlt, _⟩ := near_number hn (B := 152) (by decide) hb
    obtain ⟨hl, t, k, j, hd2⟩ := word_number neg hlt
    rw [← hw] at hl hd2
    obtain ⟨g1, g2, g3, g4, g5⟩ := read_facts32 hl hd2
    have hrk := (word_inj (Nat.lt_trans g5 (by decide)) (Nat.lt_trans hlt (by decide)) (g4.symm.trans hw)).2
    have hj : (j + 149).toNat ≤ 153 := rung_le hrk hr
    have hH : (vl t k j).natAbs ≤ 2 ^ 24 * 2 ^ 153 := by
      rw [vl_abs]
      exact Nat.mul_le_mul (Nat.le_of_lt g1) (Nat.pow_le_pow_right (by decide) hj)
    have hp : (0 : Int) ≤ pw 148 := Int.natCast_nonneg _
    have hmono : vl s m e ≤ vl t k j := hn.mono hd2 hl f1 f2 f3 (Int.le_add_of_nonneg_right hp)
    rw [hh1]
    have bound : ∀ N : Int, N.natAbs ≤ 2 ^ 24 * 2 ^ 153 → (vl s m e - N).natAbs ≤ 2 ^ 23 * 2 ^ 250 := fun N hN => abs_bound hX hN (by decide)
    clear hb hX hr
    by_cases hkj : k = 0 ∨ 0 ≤ j
    · have hfl : cv .f64 .f32 (floorO (cv .f32 .f64 (some h))) = some h ∧ Fit .f64 .f32 (floorO (cv .f32 .f64 (some h))) := by
        by_cases hk : k = 0
        · subst hk
          have hj0 : (j + 149).toNat * 2 ^ 23 + 0 = 0 := rung_zero g3
          rw [hj0] at g4
          subst g4
          cases t
          · exact ⟨by decide, by intro q hq; revert q; decide⟩
          · exact ⟨by decide, by intro q hq; revert q; decide⟩
        · exact floor_great hd2 hl hk (hkj.resolve_left hk)
      rw [hfl.1]
      obtain ⟨z, hz, hnz⟩ := sub_near hd hd2 f2 g2
      obtain ⟨neg, r, q1, q2, q3⟩ := low_end hnz (bound _ hH) (.inl (le_zero_sub hmono))
      exact ⟨z, neg, r, hz, hfl.2, q1, q2, q3⟩
    · have hk : k ≠ 0 := fun c => hkj (.inl c)
      have hj0 : j < 0 := Int.not_le.1 fun c => hkj (.inr c)
      obtain ⟨n, F, n1, n2, n3, hF, ⟨M, E, hdn, hE, hv⟩, p0, p1⟩ := floor_small hd2 hl hk hj0
      rw [n1]
      have hlt := below_half f1 hn hd2 hl hj0 g2 hF p0 p1
      have hc := clear_half f1 f2 hn hd2 hl hk hlt
      obtain ⟨z, hz, hnz⟩ := sub_near hd hdn f2 hE
      rw [hv] at hnz
      have hN : ((if t then -(F : Int) else F) * pw 149).natAbs ≤ 2 ^ 24 * 2 ^ 153 := by
        rw [Int.natAbs_mul]
        refine Nat.mul_le_mul (Nat.le_trans (?_ : _ ≤ F) (Nat.le_trans hF (by decide))) (by decide)
        cases t <;> simp
      obtain ⟨neg, r, q1, q2, q3⟩ := low_end hnz (bound _ hN) (.inr hc)
      exact ⟨z, neg, r, hz, n2, q1, q2, q3⟩

theorem less_vl {x y : Nat} {s t : Bool} {m n : Nat} {e j : Int} (hx : FloatKind.f32.decode x = .number s m e) (hy : FloatKind.f32.decode y = .number t n j) (he : -149 ≤ e) (hj : -149 ≤ j) (h : cmpB .lss .f32 (some x) (some y) = true) : vl s m e < vl t n j := by
  unfold FloatKind.decode at hx hy
  have h1 : compare (Ieee.signed s m (e - min e j).toNat) (Ieee.signed t n (j - min e j).toNat) = .lt := by
    simp [cmpB, ordO, Ieee.Format.order, hx, hy, Ieee.Datum.order] at h
    exact h
  have h2 : Ieee.signed s m (e - min e j).toNat < Ieee.signed t n (j - min e j).toNat := by
    rw [Int.compare_eq_lt] at h1
    exact h1
  have hp : (0 : Int) < pw (min e j + 149).toNat := by unfold pw; have := Nat.two_pow_pos (min e j + 149).toNat; omega
  rw [← vl_scale (s := s) (m := m) (show min e j ≤ e by omega) (by omega), ← vl_scale (s := t) (m := n) (show min e j ≤ j by omega) (by omega)]
  exact Int.mul_lt_mul_of_pos_right h2 hp

theorem not_below {V H : Int} {C : Nat} (h3 : V.natAbs ≤ C) (hC : (C : Int) = H) (hv : V < -H) : False := by omega
theorem abs_below {Z D : Int} {C : Nat} (h0 : ¬ Z < 0) (hc : Z ≤ D) (h5 : D ≤ (C : Int)) : Z.natAbs ≤ C := by omega

theorem plus_one {neg : Bool} {r : Nat} (hr : r < 255 * 2 ^ 23) (h : cmpB .lss .f32 (some (FloatKind.f32.format.word neg r)) (some 3204448256) = true) :
    ∃ y neg' r', fo .add .f32 (some (FloatKind.f32.format.word neg r)) (some 1065353216) = some y ∧ y = FloatKind.f32.format.word neg' r' ∧ r' < 255 * 2 ^ 23 ∧ (neg' = true ∨ r' < 126 * 2 ^ 23) := by
  obtain ⟨hl, t, k, j, hd⟩ := word_number neg hr
  obtain ⟨g1, g2, g3, g4, g5⟩ := read_facts32 hl hd
  have hh : FloatKind.f32.decode 3204448256 = .number true (2 ^ 23) (-24) := by rfl
  have h1 : FloatKind.f32.decode 1065353216 = .number false (2 ^ 23) (-23) := by rfl
  have hv := less_vl hd hh g2 (by decide) h
  have e1 : vl true (2 ^ 23) (-24) = -pw 148 := by rw [vl_neg]; decide
  have e2 : vl false (2 ^ 23) (-23) = pw 149 := by rw [vl_pos]; decide
  rw [e1] at hv
  obtain ⟨y, hy, hn⟩ := add_near hd h1 g2 (by decide)
  rw [e2] at hn
  generalize FloatKind.f32.format.word neg r = z at *
  have hp : (0 : Int) < pw 148 := by decide
  have hone : pw 149 = 2 * pw 148 := by decide
  cases t with
  | false =>
    exfalso
    rw [vl_pos] at hv
    have : (0 : Int) ≤ (k : Int) * pw (j + 149).toNat := Int.mul_nonneg (Int.natCast_nonneg _) (Int.natCast_nonneg _)
    generalize pw 148 = H at *
    omega
  | true =>
    have hV := vl_abs true k j
    by_cases h0 : vl true k j + pw 149 < 0
    · obtain ⟨neg', r', q1, q2, q3⟩ := hn.hi g1 g2 g3 (by rw [← hV]; generalize pw 149 = O at *; generalize pw 148 = H at *; omega)
      have hlt : r' < 255 * 2 ^ 23 := Nat.lt_of_le_of_lt q2 g5
      have hmin : min r' (255 * 2 ^ 23) = r' := Nat.min_eq_left (Nat.le_of_lt hlt)
      rw [hmin] at q1
      by_cases hr0 : r' = 0
      · exact ⟨y, neg', r', hy, q1, hlt, .inr (by rw [hr0]; decide)⟩
      · exact ⟨y, neg', r', hy, q1, hlt, .inl (by rw [q3 hr0]; simpa using h0)⟩
    · have hj : -24 ≤ j := by
        apply Int.not_lt.1
        intro hc
        have h3 : k * 2 ^ (j + 149).toNat ≤ 2 ^ 24 * 2 ^ 124 := Nat.mul_le_mul (Nat.le_of_lt g1) (Nat.pow_le_pow_right (by decide) (by omega))
        have h4 : ((2 ^ 24 * 2 ^ 124 : Nat) : Int) = pw 148 := by decide
        rw [← hV] at h3
        exact not_below h3 h4 hv
      have hs := vl_scale (s := true) (m := k) hj (by decide : (-149 : Int) ≤ -24)
      have e3 : ((-24 : Int) + 149).toNat = 125 := by decide
      rw [e3] at hs
      have hc : vl true k j + pw 149 ≤ (2 ^ 24 - 1) * pw 124 := by
        have p1 : pw 148 = 2 ^ 23 * pw 125 := by decide
        have p2 : pw 149 = 2 ^ 24 * pw 125 := by decide
        have p3 : (2 ^ 23 - 1) * pw 125 ≤ (2 ^ 24 - 1) * pw 124 := by decide
        have p4 : (0 : Int) < pw 125 := by decide
        refine Int.le_trans ?_ p3
        rw [← hs, p1, ← Int.neg_mul] at hv
        have := Int.lt_of_mul_lt_mul_right hv (Int.le_of_lt p4)
        rw [← hs, p2, ← Int.add_mul]
        exact Int.mul_le_mul_of_nonneg_right (by omega) (Int.le_of_lt p4)
      have hb : (vl true k j + pw 149).natAbs ≤ 2 ^ 23 * 2 ^ 250 := by
        have h5 : (2 ^ 24 - 1) * pw 124 ≤ ((2 ^ 23 * 2 ^ 250 : Nat) : Int) := by decide
        exact abs_below h0 hc h5
      obtain ⟨neg', r', q1, q2, q3⟩ := low_end hn hb (.inr hc)
      exact ⟨y, neg', r', hy, q1, q2, q3⟩

theorem word_fin (neg : Bool) {r : Nat} (hr : r < 255 * 2 ^ 23) : finS (some (FloatKind.f32.format.word neg r)) = true := by
  obtain ⟨hl, t, k, j, hd⟩ := word_number neg hr
  have hi : Is .f32 (FloatKind.f32.format.word neg r) (some (FloatKind.f32.format.word neg r)) := ⟨by unfold nrm; rw [if_neg (by rw [hd]; simp [Ieee.Datum.isNaN])], hl⟩
  rcases fin_cases hi with h | h | ⟨s, _, hs⟩
  · exact h
  · cases h
  · rw [hd] at hs; cases hs
end Go.Proofs.Ytngjpbfiijkibaa
