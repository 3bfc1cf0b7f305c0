/-
  Numbers are ordered as what they are worth; a turn below minus a half, and one. No condition.
-/
import Derived.Test.YthlijhnplalflaaVw
import Derived.Test.YthlijhnplalflaaSFn
namespace Go.Proofs.Ythlijhnplalflaa
open Go.RowKit

theorem less_vl {x y : Nat} {s t : Bool} {m n : Nat} {e j : Int} (hx : FloatKind.f32.decode x = .number s m e) (hy : FloatKind.f32.decode y = .number t n j) (he : -149 ≤ e) (hj : -149 ≤ j) (h : cmpB .lss .f32 (some x) (some y) = true) : vl s m e < vl t n j := by
  unfold FloatKind.decode at hx hy
  have h1 : compare (Ieee.signed s m (e - min e j).toNat) (Ieee.signed t n (j - min e j).toNat) = .lt := by
    simp [cmpB, ordO, Ieee.Format.order, hx, hy, Ieee.Datum.order] at h
    exact h
  have h2 : Ieee.signed s m (e - min e j).toNat < Ieee.signed t n (j - min e j).toNat := by
    rw [Int.compare_eq_lt] at h1
    exact h1
  have hp : (0 : Int) < pw (min e j + 149).toNat := by unfold pw; have := Nat.two_pow_pos (min e j + 149).toNat; omega
  rw [← vl_scale (s := s) (m := m) (show min e j ≤ e by omega) (by omega), ← vl_scale (s := t) (m := n) (show min e j ≤ j by omega) (by omega)]
  exact Int.mul_lt_mul_of_pos_right h2 hp

theorem not_below {V H : Int} {C : Nat} (h3 : V.natAbs ≤ C) (hC : (C : Int) = H) (hv : V < -H) : False := by omega
theorem abs_below {Z D : Int} {C : Nat} (h0 : ¬ Z < 0) (hc : Z ≤ D) (h5 : D ≤ (C : Int)) : Z.natAbs ≤ C := by omega

theorem plus_one {neg : Bool} {r : Nat} (hr : r < 255 * 2 ^ 23) (h : cmpB .lss .f32 (some (FloatKind.f32.format.word neg r)) (some 3204448256) = true) :
    ∃ y neg' r', fo .add .f32 (some (FloatKind.f32.format.word neg r)) (some 1065353216) = some y ∧ y = FloatKind.f32.format.word neg' r' ∧ r' < 255 * 2 ^ 23 ∧ (neg' = true ∨ r' < 126 * 2 ^ 23) := by
  obtain ⟨hl, t, k, j, hd⟩ := word_number neg hr
  obtain ⟨g1, g2, g3, g4, g5⟩ := read_facts32 hl hd
  have hh : FloatKind.f32.decode 3204448256 = .number true (2 ^ 23) (-24) := by rfl
  have h1 : FloatKind.f32.decode 1065353216 = .number false (2 ^ 23) (-23) := by rfl
  have hv := less_vl hd hh g2 (by decide) h
  have e1 : vl true (2 ^ 23) (-24) = -pw 148 := by rw [vl_neg]; decide
  have e2 : vl false (2 ^ 23) (-23) = pw 149 := by rw [vl_pos]; decide
  rw [e1] at hv
  obtain ⟨y, hy, hn⟩ := add_near hd h1 g2 (by decide)
  rw [e2] at hn
  generalize FloatKind.f32.format.word neg r = z at *
  have hp : (0 : Int) < pw 148 := by decide
  have hone : pw 149 = 2 * pw 148 := by decide
  cases t with
  | false =>
    exfalso
    rw [vl_pos] at hv
    have : (0 : Int) ≤ (k : Int) * pw (j + 149).toNat := Int.mul_nonneg (Int.natCast_nonneg _) (Int.natCast_nonneg _)
    generalize pw 148 = H at *
    omega
  | true =>
    have hV := vl_abs true k j
    by_cases h0 : vl true k j + pw 149 < 0
    · obtain ⟨neg', r', q1, q2, q3⟩ := hn.hi g1 g2 g3 (by rw [← hV]; generalize pw 149 = O at *; generalize pw 148 = H at *; omega)
      have hlt : r' < 255 * 2 ^ 23 := Nat.lt_of_le_of_lt q2 g5
      have hmin : min r' (255 * 2 ^ 23) = r' := Nat.min_eq_left (Nat.le_of_lt hlt)
      rw [hmin] at q1
      by_cases hr0 : r' = 0
      · exact ⟨y, neg', r', hy, q1, hlt, .inr (by rw [hr0]; decide)⟩
      · exact ⟨y, neg', r', hy, q1, hlt, .inl (by rw [q3 hr0]; simpa using h0)⟩
    · have hj : -24 ≤ j := by
        apply Int.not_lt.1
        intro hc
        have h3 : k * 2 ^ (j + 149).toNat ≤ 2 ^ 24 * 2 ^ 124 := Nat.mul_le_mul (Nat.le_of_lt g1) (Nat.pow_le_pow_right (by decide) (by omega))
        have h4 : ((2 ^ 24 * 2 ^ 124 : Nat) : Int) = pw 148 := by decide
        rw [← hV] at h3
        exact not_below h3 h4 hv
      have hs := vl_scale (s := true) (m := k) hj (by decide : (-149 : Int) ≤ -24)
      have e3 : ((-24 : Int) + 149).toNat = 125 := by decide
      rw [e3] at hs
      have hc : vl true k j + pw 149 ≤ (2 ^ 24 - 1) * pw 124 := by
        have p1 : pw 148 = 2 ^ 23 * pw 125 := by decide
        have p2 : pw 149 = 2 ^ 24 * pw 125 := by decide
        have p3 : (2 ^ 23 - 1) * pw 125 ≤ (2 ^ 24 - 1) * pw 124 := by decide
        have p4 : (0 : Int) < pw 125 := by decide
        refine Int.le_trans ?_ p3
        rw [← hs, p1, ← Int.neg_mul] at hv
        have := Int.lt_of_mul_lt_mul_right hv (Int.le_of_lt p4)
        rw [← hs, p2, ← Int.add_mul]
        exact Int.mul_le_mul_of_nonneg_right (by omega) (Int.le_of_lt p4)
      have hb : (vl true k j + pw 149).natAbs ≤ 2 ^ 23 * 2 ^ 250 := by
        have h5 : (2 ^ 24 - 1) * pw 124 ≤ ((2 ^ 23 * 2 ^ 250 : Nat) : Int) := by decide
        exact abs_below h0 hc h5
      obtain ⟨neg', r', q1, q2, q3⟩ := low_end hn hb (.inr hc)
      exact ⟨y, neg', r', hy, q1, q2, q3⟩

theorem word_fin (neg : Bool) {r : Nat} (hr : r < 255 * 2 ^ 23) : finS (some (FloatKind.f32.format.word neg r)) = true := by
  obtain ⟨hl, t, k, j, hd⟩ := word_number neg hr
  have hi : Is .f32 (FloatKind.f32.format.word neg r) (some (FloatKind.f32.format.word neg r)) := ⟨by unfold nrm; rw [if_neg (by rw [hd]; simp [Ieee.Datum.isNaN])], hl⟩
  rcases fin_cases hi with h | h | ⟨s, _, hs⟩
  · exact h
  · cases h
  · rw [hd] at hs; cases hs
end Go.Proofs.Ythlijhnplalflaa
