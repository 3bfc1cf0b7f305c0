/-
  A turn without whole ones is less than a half. No condition.
-/
import Derived.Test.YthlijhnplalflaaVm
namespace Go.Proofs.Ythlijhnplalflaa
open Go.RowKit

/-- What is not too great is written as a number. -/
theorem near_number {Z : Int} {z : Nat} (h : Near Z z) {B : Nat} (hB : B ≤ 250) (hZ : Z.natAbs ≤ 2 ^ 23 * 2 ^ B) :
    ∃ neg r, z = FloatKind.f32.format.word neg r ∧ r ≤ (B + 1) * 2 ^ 23 ∧ r < 255 * 2 ^ 23 ∧ (r ≠ 0 → neg = decide (Z < 0)) := by
  obtain ⟨neg, r, h1, h2, h3⟩ := h.hi (K := 2 ^ 23) (L := (B : Int) - 149) (by decide) (by omega) (.inl (Nat.le_refl _)) (by rw [show ((B : Int) - 149 + 149).toNat = B by omega]; exact hZ)
  have hr : r ≤ (B + 1) * 2 ^ 23 := by
    unfold rg at h2
    rw [show ((B : Int) - 149 + 149).toNat = B by omega] at h2
    omega
  have hlt : r < 255 * 2 ^ 23 := by
    have : (B + 1) * 2 ^ 23 ≤ 251 * 2 ^ 23 := Nat.mul_le_mul_right _ (by omega)
    omega
  have hmin : min r (255 * 2 ^ 23) = r := Nat.min_eq_left (Nat.le_of_lt hlt)
  rw [hmin] at h1
  exact ⟨neg, r, h1, hr, hlt, h3⟩

theorem word_number (neg : Bool) {r : Nat} (hr : r < 255 * 2 ^ 23) : FloatKind.f32.format.word neg r < 2 ^ 32 ∧ ∃ t k j, FloatKind.f32.decode (FloatKind.f32.format.word neg r) = .number t k j := by
  have e1 : FloatKind.f32.format.signWeight = 2 ^ 31 := rfl
  have e2 : FloatKind.f32.format.binade = 2 ^ 23 := rfl
  have e4 : FloatKind.f32.format.infRung = 255 * 2 ^ 23 := rfl
  have hm : FloatKind.f32.format.word neg r % 2 ^ 31 = r := by
    unfold Ieee.Format.word
    rw [e1]
    cases neg <;> simp <;> omega
  refine ⟨by unfold Ieee.Format.word; rw [e1]; cases neg <;> simp <;> omega, ?_⟩
  unfold FloatKind.decode Ieee.Format.read
  simp only [e1, e2, e4, hm]
  split
  · exact ⟨_, _, _, rfl⟩
  · exact ⟨_, _, _, rfl⟩

theorem vl_abs (s : Bool) (m : Nat) (e : Int) : (vl s m e).natAbs = m * 2 ^ (e + 149).toNat := by
  cases s
  · rw [vl_pos]; unfold pw; rw [← Int.natCast_mul]; rfl
  · rw [vl_neg]; unfold pw; rw [← Int.natCast_mul, Int.natAbs_neg]; rfl

/-- A difference that is not above 0, or that is clearly less than a half. -/
theorem low_end {Z : Int} {z : Nat} (h : Near Z z) (hZ : Z.natAbs ≤ 2 ^ 23 * 2 ^ 250) (hl : Z ≤ 0 ∨ Z ≤ (2 ^ 24 - 1) * pw 124) :
    ∃ neg r, z = FloatKind.f32.format.word neg r ∧ r < 255 * 2 ^ 23 ∧ (neg = true ∨ r < 126 * 2 ^ 23) := by
  by_cases h0 : Z < 0
  · obtain ⟨neg, r, h1, _, h2, h3⟩ := near_number h (Nat.le_refl _) hZ
    by_cases hr : r = 0
    · exact ⟨neg, r, h1, h2, .inr (by omega)⟩
    · exact ⟨neg, r, h1, h2, .inl (by rw [h3 hr]; simpa using h0)⟩
  · have hp : (0 : Int) ≤ pw 124 := Int.natCast_nonneg _
    have hZ2 : Z.natAbs ≤ (2 ^ 24 - 1) * 2 ^ 124 := by
      rcases hl with hl | hl
      · have : Z.natAbs = 0 := by omega
        rw [this]; exact Nat.zero_le _
      · have : (((2 ^ 24 - 1) * 2 ^ 124 : Nat) : Int) = (2 ^ 24 - 1) * pw 124 := by unfold pw; rw [Int.natCast_mul]; rfl
        omega
    obtain ⟨neg, r, h1, h2, h3⟩ := h.hi (K := 2 ^ 24 - 1) (L := -25) (by decide) (by decide) (.inl (by decide)) hZ2
    have hr : r < 126 * 2 ^ 23 := by
      unfold rg at h2
      have : ((-25 : Int) + 149).toNat = 124 := by decide
      rw [this] at h2
      omega
    have hlt : r < 255 * 2 ^ 23 := by omega
    have hmin : min r (255 * 2 ^ 23) = r := Nat.min_eq_left (Nat.le_of_lt hlt)
    rw [hmin] at h1
    exact ⟨neg, r, h1, hlt, .inr hr⟩

/-- Whole numbers that are not too great are numbers of the format. -/
theorem whole_in (s : Bool) (F : Nat) (hF : F < 2 ^ 24) : ∃ M E, M < 2 ^ 24 ∧ (-149 : Int) ≤ E ∧ (2 ^ 23 ≤ M ∨ E = -149) ∧ vl s M E = (if s then -(F : Int) else F) * pw 149 := by
  obtain ⟨n, _, _, hn, M, E, hd, _, hv⟩ := whole_down s F hF
  obtain ⟨f1, f2, f3, _, _⟩ := read_facts32 hn hd
  exact ⟨M, E, f1, f2, f3, hv⟩

theorem half_vl : vl false (2 ^ 23) (-24) = pw 148 := by rw [vl_pos]; decide

/-- The case of a floor that is not the number itself. -/
theorem below_half {h k F : Nat} {s t : Bool} {m : Nat} {e j : Int} (f1 : m < 2 ^ 24) (hn : Near (vl s m e + pw 148) h) (hd : FloatKind.f32.decode h = .number t k j) (hl : h < 2 ^ 32) (hj : j < 0) (hj2 : -149 ≤ j) (hF : F ≤ 2 ^ 23)
    (p0 : t = false → F * 2 ^ (-j).toNat ≤ k ∧ k < (F + 1) * 2 ^ (-j).toNat) (p1 : t = true → k ≤ F * 2 ^ (-j).toNat ∧ F * 2 ^ (-j).toNat < k + 2 ^ (-j).toNat) :
    vl s m e - (if t then -(F : Int) else F) * pw 149 < pw 148 := by
  have hone : pw 149 = 2 * pw 148 := by decide
  have hsplit : (2 : Nat) ^ 149 = 2 ^ (-j).toNat * 2 ^ (j + 149).toNat := by rw [← Nat.pow_add]; congr 1; omega
  apply Int.not_le.1
  intro hge
  cases t with
  | false =>
    rw [if_neg (by decide)] at hge
    obtain ⟨M, E, g1, g2, g3, g4⟩ := whole_in false (F + 1) (by omega)
    rw [if_neg (by decide)] at g4
    have e1 : ((F + 1 : Nat) : Int) * pw 149 = (F : Int) * pw 149 + pw 149 := by rw [Int.natCast_add, Int.add_mul, Int.natCast_one, Int.one_mul]
    have hle : vl false M E ≤ vl s m e + pw 148 := by
      rw [g4, e1, hone]
      rw [hone] at hge
      generalize (F : Int) * (2 * pw 148) = Q at *
      generalize pw 148 = H at *
      omega
    have hm := hn.mono hd hl (s := false) g1 g2 g3 hle
    rw [g4, vl_pos] at hm
    have hk := (p0 rfl).2
    have h3 : (F + 1) * 2 ^ 149 ≤ k * 2 ^ (j + 149).toNat := by unfold pw at hm; rw [← Int.natCast_mul, ← Int.natCast_mul] at hm; exact Int.ofNat_le.1 hm
    rw [hsplit, ← Nat.mul_assoc] at h3
    have := Nat.le_of_mul_le_mul_right h3 (Nat.two_pow_pos _)
    omega
  | true =>
    rw [if_pos rfl] at hge
    obtain ⟨hk1, hk⟩ := p1 rfl
    by_cases hF0 : F = 0
    · subst hF0
      -- k is 0
      obtain ⟨M, E, g1, g2, g3, g4⟩ := whole_in false 1 (by decide)
      rw [if_neg (by decide)] at g4
      have hle : vl false M E ≤ vl s m e + pw 148 := by
        rw [g4, hone]
        have : -((0 : Nat) : Int) * pw 149 = 0 := by simp
        rw [this] at hge
        rw [Int.natCast_one, Int.one_mul]
        generalize pw 148 = H at *
        omega
      have hm := hn.mono hd hl (s := false) g1 g2 g3 hle
      rw [g4, vl_neg] at hm
      have h0 : (0 : Int) ≤ (k : Int) * pw (j + 149).toNat := Int.mul_nonneg (Int.natCast_nonneg _) (Int.natCast_nonneg _)
      have h1 : (0 : Int) < pw 149 := by decide
      rw [Int.natCast_one, Int.one_mul] at hm
      omega
    · obtain ⟨F', rfl⟩ : ∃ F', F = F' + 1 := ⟨F - 1, by omega⟩
      obtain ⟨M, E, g1, g2, g3, g4⟩ := whole_in true F' (by omega)
      rw [if_pos rfl] at g4
      have e1 : -((F' + 1 : Nat) : Int) * pw 149 = -(F' : Int) * pw 149 - pw 149 := by rw [Int.natCast_add, Int.natCast_one, Int.neg_add, Int.add_mul, Int.neg_mul 1, Int.one_mul]; rfl
      have hle : vl true M E ≤ vl s m e + pw 148 := by
        rw [e1] at hge
        rw [g4]
        rw [hone] at hge ⊢
        generalize -(F' : Int) * (2 * pw 148) = Q at *
        generalize pw 148 = H at *
        omega
      have hm := hn.mono hd hl (s := true) g1 g2 g3 hle
      rw [g4, vl_neg, Int.neg_mul] at hm
      have h3 : k * 2 ^ (j + 149).toNat ≤ F' * 2 ^ 149 := by
        unfold pw at hm
        rw [← Int.natCast_mul, ← Int.natCast_mul] at hm
        exact Int.ofNat_le.1 (by omega)
      rw [hsplit, ← Nat.mul_assoc] at h3
      have := Nat.le_of_mul_le_mul_right h3 (Nat.two_pow_pos _)
      rw [Nat.add_mul, Nat.one_mul] at hk
      omega

/-- What is clearly less than a half. -/
theorem clear_half {s t : Bool} {m F k : Nat} {e j : Int} {h : Nat} (f1 : m < 2 ^ 24) (f2 : -149 ≤ e) (hn : Near (vl s m e + pw 148) h) (hd : FloatKind.f32.decode h = .number t k j) (hl : h < 2 ^ 32) (hk : k ≠ 0)
    (hlt : vl s m e - (if t then -(F : Int) else F) * pw 149 < pw 148) : vl s m e - (if t then -(F : Int) else F) * pw 149 ≤ (2 ^ 24 - 1) * pw 124 := by
  have h0 : (0 : Int) < pw 124 := by decide
  by_cases he : -25 ≤ e
  · have hX := vl_scale (s := s) (m := m) he (by decide : (-149 : Int) ≤ -25)
    have e1 : ((-25 : Int) + 149).toNat = 124 := by decide
    rw [e1] at hX
    have e2 : pw 149 = 2 ^ 25 * pw 124 := by decide
    have e3 : pw 148 = 2 ^ 24 * pw 124 := by decide
    generalize (if t then -(F : Int) else F) = N at *
    generalize Ieee.signed s m (e - -25).toNat = a at hX
    rw [← hX, e2, e3, ← Int.mul_assoc, ← Int.sub_mul] at hlt
    rw [← hX, e2, ← Int.mul_assoc, ← Int.sub_mul]
    have := Int.lt_of_mul_lt_mul_right hlt (Int.le_of_lt h0)
    exact Int.mul_le_mul_of_nonneg_right (by omega) (Int.le_of_lt h0)
  · have hX : (vl s m e).natAbs ≤ 2 ^ 24 * 2 ^ 123 := by
      rw [vl_abs]
      exact Nat.mul_le_mul (Nat.le_of_lt f1) (Nat.pow_le_pow_right (by decide) (by omega))
    have c1 : ((2 ^ 24 * 2 ^ 123 : Nat) : Int) ≤ (2 ^ 24 - 1) * pw 124 := by decide
    have c2 : ((2 ^ 24 * 2 ^ 123 : Nat) : Int) ≤ pw 148 := by decide
    generalize (2 ^ 24 * 2 ^ 123 : Nat) = C at *
    cases t with
    | false =>
      rw [if_neg (by decide)]
      have hN : (0 : Int) ≤ (F : Int) * pw 149 := Int.mul_nonneg (Int.natCast_nonneg _) (Int.natCast_nonneg _)
      omega
    | true =>
      exfalso
      have z0 : ((0 : Nat) : Int) * pw ((-149 : Int) + 149).toNat = 0 := by simp
      have hm := hn.mono0 hd hl (K := 0) (L := -149) (by decide) (by decide) (.inr rfl) (by rw [vl_pos, z0]; omega)
      rw [vl_pos, vl_neg, z0] at hm
      have hp : (0 : Int) < (k : Int) * pw (j + 149).toNat := Int.mul_pos (by omega) (by unfold pw; have := Nat.two_pow_pos (j + 149).toNat; omega)
      omega

theorem rung_le {a b c : Nat} (h : a * 2 ^ 23 + b = c) (hc : c ≤ (152 + 1) * 2 ^ 23) : a ≤ 153 := by omega
theorem abs_bound {X N : Int} {C1 C2 C3 : Nat} (hX : X.natAbs ≤ C1) (hN : N.natAbs ≤ C2) (c : C1 + C2 ≤ C3) : (X - N).natAbs ≤ C3 := by omega
theorem rung_zero {j : Int} (h : 2 ^ 23 ≤ 0 ∨ j = -149) : (j + 149).toNat * 2 ^ 23 + 0 = 0 := by omega
theorem le_zero_sub {a b : Int} (h : a ≤ b) : a - b ≤ 0 := by omega

/-- A turn without whole ones, ahead of the one that is put back: a number, less than a half. -/
theorem wrap_turn {x : Nat} {s : Bool} {m : Nat} {e : Int} (hx : x < 2 ^ 32) (hd : FloatKind.f32.decode x = .number s m e) :
    ∃ z neg r, fo .sub .f32 (some x) (cv .f64 .f32 (floorO (cv .f32 .f64 (fo .add .f32 (some x) (some 1056964608))))) = some z ∧ Fit .f64 .f32 (floorO (cv .f32 .f64 (fo .add .f32 (some x) (some 1056964608)))) ∧
      z = FloatKind.f32.format.word neg r ∧ r < 255 * 2 ^ 23 ∧ (neg = true ∨ r < 126 * 2 ^ 23) := by
  obtain ⟨f1, f2, f3, f4, f5⟩ := read_facts32 hx hd
  have hh : FloatKind.f32.decode 1056964608 = .number false (2 ^ 23) (-24) := by rfl
  by_cases he : 2 ≤ e
  · rw [add_half hx hd he]
    obtain ⟨n1, n2⟩ := floor_great hd hx (by omega) (by omega)
    rw [n1]
    obtain ⟨z, hz, hn⟩ := sub_near hd hd f2 f2
    rw [Int.sub_self] at hn
    obtain ⟨neg, r, q1, q2, q3⟩ := low_end hn (Nat.zero_le _) (.inl (Int.le_refl _))
    exact ⟨z, neg, r, hz, n2, q1, q2, q3⟩
  · obtain ⟨h, hh1, hn⟩ := add_near hd hh f2 (by decide)
    rw [half_vl] at hn
    have hX : (vl s m e).natAbs ≤ 2 ^ 24 * 2 ^ 150 := by
      rw [vl_abs]
      exact Nat.mul_le_mul (Nat.le_of_lt f1) (Nat.pow_le_pow_right (by decide) (by omega))
    have hb : (vl s m e + pw 148).natAbs ≤ 2 ^ 23 * 2 ^ 152 := Nat.le_trans (Int.natAbs_add_le _ _) (Nat.le_trans (Nat.add_le_add hX (by decide : (pw 148).natAbs ≤ 2 ^ 148)) (by decide))
    obtain ⟨neg, r, hw, hr, hlt, _⟩ := near_number hn (B := 152) (by decide) hb
    obtain ⟨hl, t, k, j, hd2⟩ := word_number neg hlt
    rw [← hw] at hl hd2
    obtain ⟨g1, g2, g3, g4, g5⟩ := read_facts32 hl hd2
    have hrk := (word_inj (Nat.lt_trans g5 (by decide)) (Nat.lt_trans hlt (by decide)) (g4.symm.trans hw)).2
    have hj : (j + 149).toNat ≤ 153 := rung_le hrk hr
    have hH : (vl t k j).natAbs ≤ 2 ^ 24 * 2 ^ 153 := by
      rw [vl_abs]
      exact Nat.mul_le_mul (Nat.le_of_lt g1) (Nat.pow_le_pow_right (by decide) hj)
    have hp : (0 : Int) ≤ pw 148 := Int.natCast_nonneg _
    have hmono : vl s m e ≤ vl t k j := hn.mono hd2 hl f1 f2 f3 (Int.le_add_of_nonneg_right hp)
    rw [hh1]
    have bound : ∀ N : Int, N.natAbs ≤ 2 ^ 24 * 2 ^ 153 → (vl s m e - N).natAbs ≤ 2 ^ 23 * 2 ^ 250 := fun N hN => abs_bound hX hN (by decide)
    clear hb hX hr
    by_cases hkj : k = 0 ∨ 0 ≤ j
    · have hfl : cv .f64 .f32 (floorO (cv .f32 .f64 (some h))) = some h ∧ Fit .f64 .f32 (floorO (cv .f32 .f64 (some h))) := by
        by_cases hk : k = 0
        · subst hk
          have hj0 : (j + 149).toNat * 2 ^ 23 + 0 = 0 := rung_zero g3
          rw [hj0] at g4
          subst g4
          cases t
          · exact ⟨by decide, by intro q hq; revert q; decide⟩
          · exact ⟨by decide, by intro q hq; revert q; decide⟩
        · exact floor_great hd2 hl hk (hkj.resolve_left hk)
      rw [hfl.1]
      obtain ⟨z, hz, hnz⟩ := sub_near hd hd2 f2 g2
      obtain ⟨neg, r, q1, q2, q3⟩ := low_end hnz (bound _ hH) (.inl (le_zero_sub hmono))
      exact ⟨z, neg, r, hz, hfl.2, q1, q2, q3⟩
    · have hk : k ≠ 0 := fun c => hkj (.inl c)
      have hj0 : j < 0 := Int.not_le.1 fun c => hkj (.inr c)
      obtain ⟨n, F, n1, n2, n3, hF, ⟨M, E, hdn, hE, hv⟩, p0, p1⟩ := floor_small hd2 hl hk hj0
      rw [n1]
      have hlt := below_half f1 hn hd2 hl hj0 g2 hF p0 p1
      have hc := clear_half f1 f2 hn hd2 hl hk hlt
      obtain ⟨z, hz, hnz⟩ := sub_near hd hdn f2 hE
      rw [hv] at hnz
      have hN : ((if t then -(F : Int) else F) * pw 149).natAbs ≤ 2 ^ 24 * 2 ^ 153 := by
        rw [Int.natAbs_mul]
        refine Nat.mul_le_mul (Nat.le_trans (?_ : _ ≤ F) (Nat.le_trans hF (by decide))) (by decide)
        cases t <;> simp
      obtain ⟨neg, r, q1, q2, q3⟩ := low_end hnz (bound _ hN) (.inr hc)
      exact ⟨z, neg, r, hz, n2, q1, q2, q3⟩
end Go.Proofs.Ythlijhnplalflaa
