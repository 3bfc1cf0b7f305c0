/-
  Single precision: what is rounded lies on the same side of a number that the format has; a great number and a half. No condition.
-/
import Derived.Test.YtngjpbfiijkibaaSin0
import Derived.Test.YtngjpbfiijkibaaBound
namespace Go.Proofs.Ytngjpbfiijkibaa
open Go.RowKit

theorem cut_hi (neg : Bool) (n K d : Nat) (h : n ≤ K * 2 ^ d) : Ieee.Toward.even.cut neg n d ≤ K := by
  unfold Ieee.Toward.cut
  simp only [Nat.one_shiftLeft]
  by_cases hd : d ≤ n.log2 + 2
  · rw [Nat.min_eq_left hd]
    have hm := Nat.div_add_mod n (2 ^ d)
    have hp := Nat.two_pow_pos d
    have hq : n / 2 ^ d ≤ K := Nat.div_le_of_le_mul (by rw [Nat.mul_comm]; exact h)
    by_cases e : n / 2 ^ d = K
    · have hr : n % 2 ^ d = 0 := by
        rw [e, Nat.mul_comm] at hm
        omega
      rw [hr, e]
      have h2 : (2 ^ d == 0) = false := by rw [beq_eq_false_iff_ne]; omega
      rw [Nat.mul_zero, h2]
      simp
    · have := Bool.toNat_le (decide (2 ^ d < 2 * (n % 2 ^ d)) || 2 ^ d == 2 * (n % 2 ^ d) && n / 2 ^ d % 2 == 1)
      omega
  · rw [Nat.min_eq_right (by omega)]
    have hl := lt_pow_log2 n
    have h4 : 2 ^ (n.log2 + 2) = 2 * 2 ^ (n.log2 + 1) := by rw [Nat.pow_succ, Nat.mul_comm]
    have h0 : n / 2 ^ (n.log2 + 2) = 0 := Nat.div_eq_of_lt (by omega)
    have h1 : n % 2 ^ (n.log2 + 2) = n := Nat.mod_eq_of_lt (by omega)
    rw [h0, h1]
    have h2 : ¬ 2 ^ (n.log2 + 2) < 2 * n := by omega
    have h3 : ¬ 2 ^ (n.log2 + 2) = 2 * n := by omega
    simp [h2, h3]

theorem cut_lo (neg : Bool) (n K d : Nat) (h : K * 2 ^ d ≤ n) : K ≤ Ieee.Toward.even.cut neg n d := by
  unfold Ieee.Toward.cut
  simp only [Nat.one_shiftLeft]
  refine Nat.le_trans ?_ (Nat.le_add_right _ _)
  by_cases hd : d ≤ n.log2 + 2
  · rw [Nat.min_eq_left hd]
    exact (Nat.le_div_iff_mul_le (Nat.two_pow_pos _)).2 h
  · have hl := lt_pow_log2 n
    have h1 : 2 ^ (n.log2 + 1) ≤ 2 ^ d := Nat.pow_le_pow_right (by decide) (by omega)
    have : K = 0 := by
      rcases Nat.eq_zero_or_pos K with h0 | h0
      · exact h0
      · have := Nat.le_mul_of_pos_left (2 ^ d) h0
        omega
    subst this
    exact Nat.zero_le _

/-- What is at most a number that the format has is so when it is rounded. -/
theorem near_hi (neg : Bool) (mag K : Nat) (place L base : Int) (hm : mag ≠ 0) (h1 : base ≤ place) (h2 : base ≤ L) (hK : K < 2 ^ 24) (hL : -149 ≤ L) (hc : 2 ^ 23 ≤ K ∨ L = -149)
    (h : mag * 2 ^ (place - base).toNat ≤ K * 2 ^ (L - base).toNat) : ∃ r, FloatKind.f32.format.nearest neg mag place = FloatKind.f32.format.word neg (min r (255 * 2 ^ 23)) ∧ r ≤ (L + 149).toNat * 2 ^ 23 + K := by
  have e2 : FloatKind.f32.format.binade = 2 ^ 23 := rfl
  have e3 : FloatKind.f32.format.leastPlace = -149 := rfl
  have e4 : FloatKind.f32.format.infRung = 255 * 2 ^ 23 := rfl
  have e5 : FloatKind.f32.format.fractionBits = 23 := rfl
  unfold Ieee.Format.nearest
  rw [if_neg hm]
  simp only [e2, e3, e4, e5]
  refine ⟨_, rfl, ?_⟩
  have e6 : ((23 : Nat) : Int) = 23 := rfl
  rw [e6]
  generalize hG : max (place + (mag.log2 : Int) - 23) (-149) = last
  have a1 : (last - -149).toNat = (last + 149).toNat := by omega
  rw [a1]
  have hlo := Nat.log2_self_le hm
  have hhi := lt_pow_log2 mag
  by_cases hlt : last < L
  · have hk : Ieee.Toward.even.cut neg (mag <<< (place - last).toNat) (last - place).toNat ≤ 2 ^ 24 := by
      refine cut_hi _ _ _ _ ?_
      rw [Nat.shiftLeft_eq, ← Nat.pow_add]
      calc mag * 2 ^ (place - last).toNat ≤ 2 ^ (mag.log2 + 1) * 2 ^ (place - last).toNat := Nat.mul_le_mul_right _ (Nat.le_of_lt hhi)
        _ = 2 ^ (mag.log2 + 1 + (place - last).toNat) := (Nat.pow_add ..).symm
        _ ≤ 2 ^ (24 + (last - place).toNat) := Nat.pow_le_pow_right (by decide) (by omega)
    omega
  · have hle : last = L := by
      by_cases hgt : L < last
      · exfalso
        have hp : last = place + (mag.log2 : Int) - 23 := by omega
        have h3 : 2 ^ (mag.log2 + (place - base).toNat) ≤ mag * 2 ^ (place - base).toNat := by
          rw [Nat.pow_add]; exact Nat.mul_le_mul_right _ hlo
        have h4 : K * 2 ^ (L - base).toNat < 2 ^ (24 + (L - base).toNat) := by
          rw [Nat.pow_add]; exact Nat.mul_lt_mul_of_pos_right hK (Nat.two_pow_pos _)
        have h5 : 2 ^ (24 + (L - base).toNat) ≤ 2 ^ (mag.log2 + (place - base).toNat) := Nat.pow_le_pow_right (by decide) (by omega)
        omega
      · omega
    subst hle
    refine Nat.add_le_add_left (cut_hi _ _ _ _ ?_) _
    rw [Nat.shiftLeft_eq]
    by_cases hd : last ≤ place
    · have a2 : (last - place).toNat = 0 := by omega
      have a3 : (place - base).toNat = (place - last).toNat + (last - base).toNat := by omega
      rw [a3, Nat.pow_add, ← Nat.mul_assoc] at h
      rw [a2, Nat.pow_zero, Nat.mul_one]
      exact Nat.le_of_mul_le_mul_right h (Nat.two_pow_pos _)
    · have a2 : (place - last).toNat = 0 := by omega
      have a3 : (last - base).toNat = (last - place).toNat + (place - base).toNat := by omega
      rw [a3, Nat.pow_add, ← Nat.mul_assoc] at h
      rw [a2, Nat.pow_zero, Nat.mul_one]
      exact Nat.le_of_mul_le_mul_right h (Nat.two_pow_pos _)

/-- What is at least a number that the format has is so when it is rounded. -/
theorem near_lo (neg : Bool) (mag K : Nat) (place L base : Int) (hm : mag ≠ 0) (h1 : base ≤ place) (h2 : base ≤ L) (hK : K < 2 ^ 24) (hL : -149 ≤ L) (hc : 2 ^ 23 ≤ K ∨ L = -149)
    (h : K * 2 ^ (L - base).toNat ≤ mag * 2 ^ (place - base).toNat) : ∃ r, FloatKind.f32.format.nearest neg mag place = FloatKind.f32.format.word neg (min r (255 * 2 ^ 23)) ∧ (L + 149).toNat * 2 ^ 23 + K ≤ r := by
  have e2 : FloatKind.f32.format.binade = 2 ^ 23 := rfl
  have e3 : FloatKind.f32.format.leastPlace = -149 := rfl
  have e4 : FloatKind.f32.format.infRung = 255 * 2 ^ 23 := rfl
  have e5 : FloatKind.f32.format.fractionBits = 23 := rfl
  unfold Ieee.Format.nearest
  rw [if_neg hm]
  simp only [e2, e3, e4, e5]
  refine ⟨_, rfl, ?_⟩
  have e6 : ((23 : Nat) : Int) = 23 := rfl
  rw [e6]
  generalize hG : max (place + (mag.log2 : Int) - 23) (-149) = last
  have a1 : (last - -149).toNat = (last + 149).toNat := by omega
  rw [a1]
  have hlo := Nat.log2_self_le hm
  have hhi := lt_pow_log2 mag
  have hge : L ≤ last := by
    rcases hc with hc | hc
    · have h3 : 2 ^ (23 + (L - base).toNat) ≤ K * 2 ^ (L - base).toNat := by
        rw [Nat.pow_add]; exact Nat.mul_le_mul_right _ hc
      have h4 : mag * 2 ^ (place - base).toNat < 2 ^ (mag.log2 + 1 + (place - base).toNat) := by
        rw [Nat.pow_add]; exact Nat.mul_lt_mul_of_pos_right hhi (Nat.two_pow_pos _)
      have h5 := (Nat.pow_lt_pow_iff_right (a := 2) (by decide)).1 (Nat.lt_of_le_of_lt (Nat.le_trans h3 h) h4)
      omega
    · omega
  by_cases hgt : L < last
  · have hp : last = place + (mag.log2 : Int) - 23 := by omega
    have hk : 2 ^ 23 ≤ Ieee.Toward.even.cut neg (mag <<< (place - last).toNat) (last - place).toNat := by
      refine cut_lo _ _ _ _ ?_
      rw [Nat.shiftLeft_eq, ← Nat.pow_add]
      calc 2 ^ (23 + (last - place).toNat) ≤ 2 ^ (mag.log2 + (place - last).toNat) := Nat.pow_le_pow_right (by decide) (by omega)
        _ = 2 ^ mag.log2 * 2 ^ (place - last).toNat := Nat.pow_add ..
        _ ≤ mag * 2 ^ (place - last).toNat := Nat.mul_le_mul_right _ hlo
    omega
  · have hle : last = L := by omega
    subst hle
    refine Nat.add_le_add_left (cut_lo _ _ _ _ ?_) _
    rw [Nat.shiftLeft_eq]
    by_cases hd : last ≤ place
    · have a2 : (last - place).toNat = 0 := by omega
      have a3 : (place - base).toNat = (place - last).toNat + (last - base).toNat := by omega
      rw [a3, Nat.pow_add, ← Nat.mul_assoc] at h
      rw [a2, Nat.pow_zero, Nat.mul_one]
      exact Nat.le_of_mul_le_mul_right h (Nat.two_pow_pos _)
    · have a2 : (place - last).toNat = 0 := by omega
      have a3 : (last - base).toNat = (last - place).toNat + (place - base).toNat := by omega
      rw [a3, Nat.pow_add, ← Nat.mul_assoc] at h
      rw [a2, Nat.pow_zero, Nat.mul_one]
      exact Nat.le_of_mul_le_mul_right h (Nat.two_pow_pos _)

theorem ord_num32 {x y : Nat} {s t : Bool} {m n : Nat} {i j : Int} (hx : FloatKind.f32.decode x = .number s m i) (hy : FloatKind.f32.decode y = .number t n j) :
    ordO .f32 (some x) (some y) = some (compare (Ieee.signed s m (i - min i j).toNat) (Ieee.signed t n (j - min i j).toNat)) := by
  unfold FloatKind.decode at hx hy
  simp only [ordO, Option.bind_some, Ieee.Format.order, hx, hy, Ieee.Datum.order]

/-- What is below a half, or not positive, is found less than a half. -/
theorem lss_half (neg : Bool) {r : Nat} (h : r < 255 * 2 ^ 23) (hr : neg = true ∨ r < 126 * 2 ^ 23) : cmpB .lss .f32 (some (FloatKind.f32.format.word neg r)) (some 1056964608) = true := by
  have hh : FloatKind.f32.decode 1056964608 = .number false (2 ^ 23) (-24) := by rfl
  have e2 : FloatKind.f32.format.binade = 2 ^ 23 := rfl
  have e3 : FloatKind.f32.format.leastPlace = -149 := rfl
  have e4 : FloatKind.f32.format.infRung = 255 * 2 ^ 23 := rfl
  have hd := read_word .f32 neg r (by rw [e4]; omega)
  rw [e2, e3, e4] at hd
  obtain ⟨M, E, hrd, hM, hE, hs⟩ : ∃ M E, FloatKind.f32.decode (FloatKind.f32.format.word neg r) = .number neg M E ∧ M < 2 ^ 24 ∧ -149 ≤ E ∧ (r < 126 * 2 ^ 23 → E ≤ -25) := by
    unfold FloatKind.decode
    by_cases h1 : r < 2 ^ 23
    · rw [hd, if_pos h1]; exact ⟨_, _, rfl, by omega, by omega, fun _ => by omega⟩
    · rw [hd, if_neg h1, if_pos h]; exact ⟨_, _, rfl, by omega, by omega, fun h2 => by omega⟩
  have ho := ord_num32 hrd hh
  unfold cmpB
  simp only [ho]
  have hlt : Ieee.signed neg M (E - min E (-24)).toNat < Ieee.signed false (2 ^ 23) (-24 - min E (-24)).toNat := by
    have hp : (0 : Int) < Ieee.signed false (2 ^ 23) (-24 - min E (-24)).toNat := by
      unfold Ieee.signed
      rw [if_neg (by decide), Nat.shiftLeft_eq]
      have := Nat.mul_pos (show 0 < 2 ^ 23 by decide) (Nat.two_pow_pos (-24 - min E (-24)).toNat)
      omega
    cases neg with
    | true =>
      have : Ieee.signed true M (E - min E (-24)).toNat ≤ 0 := by
        unfold Ieee.signed
        rw [if_pos rfl]
        exact Int.neg_nonpos_of_nonneg (Int.natCast_nonneg _)
      omega
    | false =>
      rcases hr with hr | hr
      · cases hr
      · have hE2 := hs hr
        have a1 : min E (-24) = E := by omega
        rw [a1, Int.sub_self]
        unfold Ieee.signed
        rw [if_neg (by decide), if_neg (by decide)]
        simp only [Int.toNat_zero, Nat.shiftLeft_zero]
        rw [Nat.shiftLeft_eq]
        have h6 : 2 ^ 23 * 2 ^ 1 ≤ 2 ^ 23 * 2 ^ (-24 - E).toNat := Nat.mul_le_mul_left _ (Nat.pow_le_pow_right (by decide) (by omega))
        omega
  rw [Int.compare_eq_lt.2 hlt]
  rfl

theorem cut_up (s : Bool) (N d q : Nat) (hd : d ≤ N.log2 + 2) (h1 : q * 2 ^ d ≤ N) (h2 : N < q * 2 ^ d + 2 ^ d) : Ieee.Toward.even.cut s N d = q + (decide (2 ^ d < 2 * (N - q * 2 ^ d)) || 2 ^ d == 2 * (N - q * 2 ^ d) && q % 2 == 1).toNat := by
  unfold Ieee.Toward.cut
  have hmin : min d (N.log2 + 2) = d := Nat.min_eq_left hd
  have hq : N / 2 ^ d = q := by
    refine Nat.div_eq_of_lt_le h1 ?_
    rw [Nat.succ_mul]; exact h2
  have hr : N % 2 ^ d = N - q * 2 ^ d := by
    rw [Nat.mod_def, hq, Nat.mul_comm]
  simp only [Nat.one_shiftLeft, hmin, hq, hr]

theorem log2_is {N k : Nat} (h1 : 2 ^ k ≤ N) (h2 : N < 2 ^ (k + 1)) : N.log2 = k := by
  have h0 : N ≠ 0 := by have := Nat.two_pow_pos k; omega
  exact (Nat.log2_eq_iff h0).2 ⟨h1, h2⟩

/-- A great number of whole places, and a half: it is rounded away. -/
theorem nearest_off (s : Bool) {m k N : Nat} (h1 : 2 ^ 23 ≤ m) (h2 : m < 2 ^ 24) (hk : 26 ≤ k) (hN : N = m * 2 ^ k + 2 ^ 23 ∨ N + 2 ^ 23 = m * 2 ^ k) :
    FloatKind.f32.format.nearest s N (-24) = FloatKind.f32.format.word s (min (((k : Int) - 24 + 149).toNat * 2 ^ 23 + m) (255 * 2 ^ 23)) := by
  have e1 : FloatKind.f32.format.fractionBits = 23 := rfl
  have e2 : FloatKind.f32.format.binade = 2 ^ 23 := rfl
  have e3 : FloatKind.f32.format.leastPlace = -149 := rfl
  have e4 : FloatKind.f32.format.infRung = 255 * 2 ^ 23 := rfl
  obtain ⟨P, hP⟩ : ∃ P, P = 2 ^ k := ⟨_, rfl⟩
  have hbig : 2 ^ 26 ≤ P := by rw [hP]; exact Nat.pow_le_pow_right (by decide) (by omega)
  have hm1 : 2 ^ 23 * P ≤ m * P := Nat.mul_le_mul_right _ h1
  have hm2 : m * P + P ≤ 2 ^ 24 * P := by rw [← Nat.succ_mul]; exact Nat.mul_le_mul_right _ h2
  have p23 : 2 ^ (23 + k) = 2 ^ 23 * P := by rw [hP, Nat.pow_add]
  have p24 : 2 ^ (24 + k) = 2 ^ 24 * P := by rw [hP, Nat.pow_add]
  rw [← hP] at hN
  have hne : N ≠ 0 := by omega
  unfold Ieee.Format.nearest
  rw [if_neg hne]
  by_cases hA : 2 ^ 23 * P ≤ N
  · have hl : N.log2 = 23 + k := log2_is (by rw [p23]; exact hA) (by rw [show 23 + k + 1 = 24 + k by omega, p24]; omega)
    have hlast : max (-24 + (N.log2 : Int) - (FloatKind.f32.format.fractionBits : Int)) FloatKind.f32.format.leastPlace = (k : Int) - 24 := by rw [hl, e1, e3]; omega
    simp only [hlast]
    have a1 : (-24 - ((k : Int) - 24)).toNat = 0 := by omega
    have a2 : ((k : Int) - 24 - -24).toNat = k := by omega
    rw [a1, a2, Nat.shiftLeft_zero, e2, e3, e4]
    have hc : Ieee.Toward.even.cut s N k = m := by
      rcases hN with hN | hN
      · rw [cut_up s N k m (by omega) (by rw [← hP]; omega) (by rw [← hP]; omega)]
        have h3 : N - m * 2 ^ k = 2 ^ 23 := by rw [← hP]; omega
        rw [h3, ← hP]
        have h4 : ¬ P < 2 * 2 ^ 23 := by omega
        have h5 : ¬ P = 2 * 2 ^ 23 := by omega
        have h6 : (P == 2 * 2 ^ 23) = false := by simpa using h5
        rw [h6]
        simp [h4]
      · have hmp : 1 ≤ m := by omega
        obtain ⟨q, rfl⟩ : ∃ q, m = q + 1 := ⟨m - 1, by omega⟩
        have hq : (q + 1) * P = q * P + P := Nat.succ_mul ..
        rw [cut_up s N k q (by omega) (by rw [← hP]; omega) (by rw [← hP]; omega)]
        have h3 : N - q * 2 ^ k = P - 2 ^ 23 := by rw [← hP]; omega
        rw [h3, ← hP]
        have h4 : P < 2 * (P - 2 ^ 23) := by omega
        simp [h4]
    rw [hc]
    rfl
  · have hN : N + 2 ^ 23 = m * P := by
      rcases hN with hN | hN
      · omega
      · exact hN
    have hm : m = 2 ^ 23 := by
      by_cases hc : 2 ^ 23 + 1 ≤ m
      · exfalso
        have := Nat.mul_le_mul_right P hc
        rw [Nat.succ_mul] at this
        omega
      · omega
    subst hm
    obtain ⟨j, rfl⟩ : ∃ j, k = j + 1 := ⟨k - 1, by omega⟩
    obtain ⟨R, hR⟩ : ∃ R, R = 2 ^ j := ⟨_, rfl⟩
    have hPR : P = 2 * R := by rw [hP, hR, Nat.pow_succ, Nat.mul_comm]
    have hl : N.log2 = 23 + j := log2_is (by rw [Nat.pow_add, ← hR]; omega) (by rw [show 23 + j + 1 = 23 + (j + 1) by omega, p23]; omega)
    have hlast : max (-24 + (N.log2 : Int) - (FloatKind.f32.format.fractionBits : Int)) FloatKind.f32.format.leastPlace = (j : Int) - 24 := by rw [hl, e1, e3]; omega
    simp only [hlast]
    have a1 : (-24 - ((j : Int) - 24)).toNat = 0 := by omega
    have a2 : ((j : Int) - 24 - -24).toNat = j := by omega
    rw [a1, a2, Nat.shiftLeft_zero, e2, e3, e4]
    have hc : Ieee.Toward.even.cut s N j = 2 ^ 24 := by
      rw [cut_up s N j (2 ^ 24 - 1) (by omega) (by rw [← hR]; omega) (by rw [← hR]; omega)]
      have h3 : N - (2 ^ 24 - 1) * 2 ^ j = R - 2 ^ 23 := by rw [← hR]; omega
      rw [h3, ← hR]
      have h4 : R < 2 * (R - 2 ^ 23) := by omega
      simp [h4]
    rw [hc]
    have h5 : ((j : Int) - 24 - -149).toNat * 2 ^ 23 + 2 ^ 24 = (((j + 1 : Nat) : Int) - 24 + 149).toNat * 2 ^ 23 + 2 ^ 23 := by
      have : (((j + 1 : Nat) : Int) - 24 + 149).toNat = ((j : Int) - 24 - -149).toNat + 1 := by omega
      rw [this]; omega
    rw [h5]

theorem add_half {x : Nat} (hx : x < 2 ^ 32) {s : Bool} {m : Nat} {e : Int} (hd : FloatKind.f32.decode x = .number s m e) (he : 2 ≤ e) : fo .add .f32 (some x) (some 1056964608) = some x := by
  obtain ⟨f1, f2, f3, f4, f5⟩ := read_facts32 hx hd
  have hm : 2 ^ 23 ≤ m := by omega
  have hh : FloatKind.f32.format.read 1056964608 = .number false (2 ^ 23) (-24) := by rfl
  unfold FloatKind.decode at hd
  have hb : min e (-24) = -24 := by omega
  obtain ⟨k, hk⟩ : ∃ k : Nat, e = (k : Int) - 24 := ⟨(e + 24).toNat, by omega⟩
  have a1 : (e - -24).toNat = k := by omega
  have a2 : ((-24 : Int) - -24).toNat = 0 := by decide
  have hbig : 2 ^ 26 ≤ 2 ^ k := Nat.pow_le_pow_right (by decide) (by omega)
  have hmp : 2 ^ 23 * 2 ^ k ≤ m * 2 ^ k := Nat.mul_le_mul_right _ hm
  have hw : FloatKind.f32.format.word s (min (((k : Int) - 24 + 149).toNat * 2 ^ 23 + m) (255 * 2 ^ 23)) = x := by
    rw [Nat.min_eq_left (by rw [← hk]; omega), ← hk]
    exact f4.symm
  have s2 : Ieee.signed false (2 ^ 23) 0 = ((2 ^ 23 : Nat) : Int) := rfl
  simp only [fo, Option.bind_some, floatBits, Ieee.Format.add, hd, hh, Ieee.Datum.sum, Option.map_some, hb, a1, a2, s2, Option.some.injEq, Ieee.Format.write]
  cases s with
  | false =>
    have s1 : Ieee.signed false m k = ((m * 2 ^ k : Nat) : Int) := by rw [← Nat.shiftLeft_eq]; rfl
    rw [s1]
    generalize hP : m * 2 ^ k = P at *
    have h0 : ¬ ((P : Int) + ((2 ^ 23 : Nat) : Int) = 0) := by omega
    have h1 : ¬ ((P : Int) + ((2 ^ 23 : Nat) : Int) < 0) := by omega
    have h2 : ((P : Int) + ((2 ^ 23 : Nat) : Int)).natAbs = P + 2 ^ 23 := by omega
    rw [if_neg h0, h2]
    simp only [h1, decide_false]
    rw [nearest_off (k := k) false hm f1 (by omega) (.inl (by rw [hP]))]
    exact hw
  | true =>
    have s1 : Ieee.signed true m k = -((m * 2 ^ k : Nat) : Int) := by rw [← Nat.shiftLeft_eq]; rfl
    rw [s1]
    generalize hP : m * 2 ^ k = P at *
    have h0 : ¬ (-(P : Int) + ((2 ^ 23 : Nat) : Int) = 0) := by omega
    have h1 : (-(P : Int) + ((2 ^ 23 : Nat) : Int) < 0) := by omega
    have h2 : (-(P : Int) + ((2 ^ 23 : Nat) : Int)).natAbs = P - 2 ^ 23 := by omega
    rw [if_neg h0, h2]
    simp only [h1, decide_true]
    rw [nearest_off (k := k) true hm f1 (by omega) (.inr (by rw [hP]; omega))]
    exact hw
end Go.Proofs.Ytngjpbfiijkibaa
