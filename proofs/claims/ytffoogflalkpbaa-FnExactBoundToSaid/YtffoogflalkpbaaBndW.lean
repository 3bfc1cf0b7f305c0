/-
  Whether a body is bound to another one: the words that its operations give. No condition.
-/
import Derived.Test.YtffoogflalkpbaaBndV
import Derived.Test.YtffoogflalkpbaaClo
namespace Go.Proofs.Ytffoogflalkpbaa
open Go.RowKit

theorem inner_nn {x0 x1 x2 : Nat} (i0 : Is .f32 x0 (some x0)) (i1 : Is .f32 x1 (some x1)) (i2 : Is .f32 x2 (some x2)) : ∃ r, innerO (some x0) (some x1) (some x2) (some x0) (some x1) (some x2) = some r ∧ NN r := by
  obtain ⟨p0, e0, n0⟩ := nn_sq i0
  obtain ⟨p1, e1, n1⟩ := nn_sq i1
  obtain ⟨p2, e2, n2⟩ := nn_sq i2
  obtain ⟨s, es, ns⟩ := nn_add n0 n1
  obtain ⟨r, er, nr⟩ := nn_add ns n2
  exact ⟨r, by unfold innerO; rw [e0, e1, e2, es, er], nr⟩

theorem okB_at {v : Nat → Option Nat} : ∀ {n k : Nat}, allB v n = true → k < n → okB v k = true
  | 0, _, _, h => by omega
  | n + 1, k, h, hk => by
    have h' : (allB v n && okB v n) = true := h
    simp only [Bool.and_eq_true] at h'
    by_cases e : k = n
    · subst e; exact h'.2
    · exact okB_at h'.1 (by omega)

theorem fin_at {v : Nat → Option Nat} {n k : Nat} (h : areB v n = true) (hk : k < n) : finS (v (7 * k)) = true ∧ finS (v (7 * k + 1)) = true ∧ finS (v (7 * k + 2)) = true ∧ finS (v (7 * k + 3)) = true ∧ finS (v (7 * k + 4)) = true ∧ finS (v (7 * k + 5)) = true ∧ finS (v (7 * k + 6)) = true := by
  have ha : allB v n = true := by unfold areB at h; simp only [Bool.and_eq_true] at h; exact h.2
  have := okB_at ha hk
  unfold okB ok7 finV leastB at this
  simp only [Bool.and_eq_true] at this
  obtain ⟨⟨⟨⟨a0, a1⟩, a2⟩, ⟨a3, a4⟩, a5⟩, a6, _⟩ := this
  exact ⟨a0, a1, a2, a3, a4, a5, a6⟩

theorem bnd_words {v : Nat → Option Nat} {f : Nat → Nat} {n i k : Nat} (hA : areB v n = true) (hi : i < n) (hk : k < n) (hv : ∀ j, j < 7 * n → Is .f32 (f j) (v j)) :
    ∃ rI rM rA rS, innerO (fo .sub .f32 (v (7 * k + 3)) (v (7 * i + 3))) (fo .sub .f32 (v (7 * k + 4)) (v (7 * i + 4))) (fo .sub .f32 (v (7 * k + 5)) (v (7 * i + 5))) (fo .sub .f32 (v (7 * k + 3)) (v (7 * i + 3))) (fo .sub .f32 (v (7 * k + 4)) (v (7 * i + 4))) (fo .sub .f32 (v (7 * k + 5)) (v (7 * i + 5))) = some rI ∧ fo .mul .f32 (some 1056964608) (some rI) = some rM ∧ Is .f32 rM (some rM) ∧ fo .add .f32 (some (f (7 * i + 6))) (some (f (7 * k + 6))) = some rA ∧ Is .f32 rA (some rA) ∧ rootO (innerO (fo .sub .f32 (v (7 * k)) (v (7 * i))) (fo .sub .f32 (v (7 * k + 1)) (v (7 * i + 1))) (fo .sub .f32 (v (7 * k + 2)) (v (7 * i + 2))) (fo .sub .f32 (v (7 * k)) (v (7 * i))) (fo .sub .f32 (v (7 * k + 1)) (v (7 * i + 1))) (fo .sub .f32 (v (7 * k + 2)) (v (7 * i + 2)))) = some rS ∧ Is .f32 rS (some rS) ∧ bndE v i k = fo .sub .f32 (some rM) (fo .quo .f32 (some rA) (some rS)) := by
  obtain ⟨a0, a1, a2, a3, a4, a5, a6⟩ := fin_at hA hi
  obtain ⟨b0, b1, b2, b3, b4, b5, b6⟩ := fin_at hA hk
  have I := fun j (hj : j < 7) => hv (7 * i + j) (by omega)
  have K := fun j (hj : j < 7) => hv (7 * k + j) (by omega)
  obtain ⟨x0, e0, i0⟩ := sub_fin (K 0 (by decide)) (I 0 (by decide)) b0 a0
  obtain ⟨x1, e1, i1⟩ := sub_fin (K 1 (by decide)) (I 1 (by decide)) b1 a1
  obtain ⟨x2, e2, i2⟩ := sub_fin (K 2 (by decide)) (I 2 (by decide)) b2 a2
  obtain ⟨x3, e3, i3⟩ := sub_fin (K 3 (by decide)) (I 3 (by decide)) b3 a3
  obtain ⟨x4, e4, i4⟩ := sub_fin (K 4 (by decide)) (I 4 (by decide)) b4 a4
  obtain ⟨x5, e5, i5⟩ := sub_fin (K 5 (by decide)) (I 5 (by decide)) b5 a5
  rw [Nat.add_zero, Nat.add_zero] at e0
  obtain ⟨rA, eA, iA⟩ := add_fin (I 6 (by decide)) (K 6 (by decide)) a6 b6
  obtain ⟨hi6, -⟩ := fin_num32 (I 6 (by decide)) a6
  obtain ⟨hk6, -⟩ := fin_num32 (K 6 (by decide)) b6
  obtain ⟨rI, eI, nI⟩ := inner_nn i3 i4 i5
  obtain ⟨rD, eD, nD⟩ := inner_nn i0 i1 i2
  obtain ⟨rM, eM, nM⟩ := nn_half nI
  obtain ⟨rS, eS, iS⟩ := root_nn nD
  refine ⟨rI, rM, rA, rS, by rw [e3, e4, e5]; exact eI, eM, nn_is nM, by rw [← hi6, ← hk6]; exact eA, iA, by rw [e0, e1, e2, eD]; exact eS, iS, ?_⟩
  unfold bndE
  rw [e0, e1, e2, e3, e4, e5, eI, eM, eA, eD, eS]
end Go.Proofs.Ytffoogflalkpbaa
