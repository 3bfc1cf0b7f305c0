/-
  Valid bodies: their numbers are finite; inner products of words with themselves. No condition.
-/
import Derived.Test.YtjljdnkedbejaaaIn0
import Derived.Test.YtjljdnkedbejaaaAreS
import Derived.Test.YtjljdnkedbejaaaClo
namespace Go.Proofs.Ytjljdnkedbejaaa
open Go.RowKit

theorem inner_nn {x0 x1 x2 : Nat} (i0 : Is .f32 x0 (some x0)) (i1 : Is .f32 x1 (some x1)) (i2 : Is .f32 x2 (some x2)) : ∃ r, innerO (some x0) (some x1) (some x2) (some x0) (some x1) (some x2) = some r ∧ NN r := by
  obtain ⟨p0, e0, n0⟩ := nn_sq i0
  obtain ⟨p1, e1, n1⟩ := nn_sq i1
  obtain ⟨p2, e2, n2⟩ := nn_sq i2
  obtain ⟨s, es, ns⟩ := nn_add n0 n1
  obtain ⟨r, er, nr⟩ := nn_add ns n2
  exact ⟨r, by unfold innerO; rw [e0, e1, e2, es, er], nr⟩

theorem okB_at {v : Nat → Option Nat} : ∀ {n k : Nat}, allB v n = true → k < n → okB v k = true
  | 0, _, _, h => by omega
  | n + 1, k, h, hk => by
    have h' : (allB v n && okB v n) = true := h
    simp only [Bool.and_eq_true] at h'
    by_cases e : k = n
    · subst e; exact h'.2
    · exact okB_at h'.1 (by omega)

theorem fin_at {v : Nat → Option Nat} {n k : Nat} (h : areB v n = true) (hk : k < n) : finS (v (7 * k)) = true ∧ finS (v (7 * k + 1)) = true ∧ finS (v (7 * k + 2)) = true ∧ finS (v (7 * k + 3)) = true ∧ finS (v (7 * k + 4)) = true ∧ finS (v (7 * k + 5)) = true ∧ finS (v (7 * k + 6)) = true := by
  have ha : allB v n = true := by unfold areB at h; simp only [Bool.and_eq_true] at h; exact h.2
  have := okB_at ha hk
  unfold okB ok7 finV leastB at this
  simp only [Bool.and_eq_true] at this
  obtain ⟨⟨⟨⟨a0, a1⟩, a2⟩, ⟨a3, a4⟩, a5⟩, a6, _⟩ := this
  exact ⟨a0, a1, a2, a3, a4, a5, a6⟩

end Go.Proofs.Ytjljdnkedbejaaa
