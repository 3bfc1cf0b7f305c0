/-
  The energy of bodies: values, and the words that its operations give. No condition.
-/
import Derived.Test.YtcpdfibanknhhaaNumB
import Derived.Test.YtcpdfibanknhhaaNea
namespace Go.Proofs.Ytcpdfibanknhhaa
open Go.RowKit

/-- The part of one body in what moves. -/
def kinO (v : Nat → Option Nat) (k : Nat) : Option Nat := fo .mul .f32 (fo .mul .f32 (some 1056964608) (v (7 * k + 6))) (innerO (v (7 * k + 3)) (v (7 * k + 4)) (v (7 * k + 5)) (v (7 * k + 3)) (v (7 * k + 4)) (v (7 * k + 5)))
def kinS (v : Nat → Option Nat) : Nat → Option Nat
  | 0 => some 0
  | k + 1 => fo .add .f32 (kinS v k) (kinO v k)
theorem kinS_succ (v : Nat → Option Nat) (k : Nat) : kinS v (k + 1) = fo .add .f32 (kinS v k) (kinO v k) := rfl
/-- The square of the distance of two bodies, and of the core. -/
def sqD (v : Nat → Option Nat) (c : Option Nat) (i k : Nat) : Option Nat :=
  fo .add .f32 (innerO (fo .sub .f32 (v (7 * k)) (v (7 * i))) (fo .sub .f32 (v (7 * k + 1)) (v (7 * i + 1))) (fo .sub .f32 (v (7 * k + 2)) (v (7 * i + 2))) (fo .sub .f32 (v (7 * k)) (v (7 * i))) (fo .sub .f32 (v (7 * k + 1)) (v (7 * i + 1))) (fo .sub .f32 (v (7 * k + 2)) (v (7 * i + 2)))) (fo .mul .f32 c c)
def potO (v : Nat → Option Nat) (c : Option Nat) (i k : Nat) : Option Nat := fo .quo .f32 (fo .mul .f32 (v (7 * i + 6)) (v (7 * k + 6))) (rootO (sqD v c i k))
def enI (v : Nat → Option Nat) (c : Option Nat) (i : Nat) (s : Option Nat) : Nat → Option Nat
  | 0 => s
  | j + 1 => if cmpB .gtr .f32 (sqD v c i (i + 1 + j)) (some 0) then fo .sub .f32 (enI v c i s j) (potO v c i (i + 1 + j)) else enI v c i s j
def enO (v : Nat → Option Nat) (c : Option Nat) (n : Nat) : Nat → Option Nat
  | 0 => kinS v n
  | i + 1 => enI v c i (enO v c n i) (n - (i + 1))
def enOk (v : Nat → Option Nat) (c : Option Nat) (n : Nat) : Bool := areB v n && (leastB c && finS (enO v c n n))
def enN (v : Nat → Option Nat) (c : Option Nat) (n : Nat) : Option Nat := if areB v n && leastB c then finN (enO v c n n) else some 0

theorem mul_fin {a b : Nat} {u v : Option Nat} (ia : Is .f32 a u) (ib : Is .f32 b v) (ha : finS u = true) (hb : finS v = true) : ∃ r, fo .mul .f32 u v = some r ∧ Is .f32 r (some r) := by
  obtain ⟨rfl, s, m, i, h1⟩ := fin_num32 ia ha
  obtain ⟨rfl, t, n, j, h2⟩ := fin_num32 ib hb
  have h : ∃ r, fo .mul .f32 (some a) (some b) = some r := by
    simp [fo, floatBits, Ieee.Format.mul, h1, h2, Ieee.Datum.product]
  obtain ⟨r, hr⟩ := h
  exact ⟨r, hr, is_fo32 hr⟩

section
variable {f : Nat → Nat} {v : Nat → Option Nat} {n i k : Nat}
/-- The words of what moves. -/
theorem kin_words (hA : areB v n = true) (hk : k < n) (hv : ∀ j, j < 7 * n → Is .f32 (f j) (v j)) : ∃ rM rI, fo .mul .f32 (some 1056964608) (some (f (7 * k + 6))) = some rM ∧ Is .f32 rM (some rM) ∧
    innerO (v (7 * k + 3)) (v (7 * k + 4)) (v (7 * k + 5)) (v (7 * k + 3)) (v (7 * k + 4)) (v (7 * k + 5)) = some rI ∧ Is .f32 rI (some rI) ∧ kinO v k = fo .mul .f32 (some rM) (some rI) := by
  obtain ⟨b0, b1, b2, b3, b4, b5, b6⟩ := fin_at hA hk
  have K := fun j (hj : j < 7) => hv (7 * k + j) (by omega)
  obtain ⟨h6, -⟩ := fin_num32 (K 6 (by decide)) b6
  obtain ⟨h3, -⟩ := fin_num32 (K 3 (by decide)) b3
  obtain ⟨h4, -⟩ := fin_num32 (K 4 (by decide)) b4
  obtain ⟨h5, -⟩ := fin_num32 (K 5 (by decide)) b5
  have hH : finS (some 1056964608) = true := by decide
  obtain ⟨rM, eM, iM⟩ := mul_fin (is_lit32 1056964608 (by decide)) (K 6 (by decide)) hH b6
  obtain ⟨rI, eI, nI⟩ := inner_nn (h3 ▸ K 3 (by decide)) (h4 ▸ K 4 (by decide)) (h5 ▸ K 5 (by decide))
  rw [← h3, ← h4, ← h5] at eI
  refine ⟨rM, rI, by rw [← h6]; exact eM, iM, eI, nn_is nI, ?_⟩
  unfold kinO
  rw [eM, eI]

/-- The words of a pair. -/
theorem pot_words {x : Nat} {c : Option Nat} (hA : areB v n = true) (hi : i < n) (hk : k < n) (hv : ∀ j, j < 7 * n → Is .f32 (f j) (v j)) (ic : Is .f32 x c) (hc : leastB c = true) :
    ∃ x0 x1 x2 rI rC rQ rM rR, (fo .sub .f32 (v (7 * k)) (v (7 * i)) = some x0 ∧ fo .sub .f32 (v (7 * k + 1)) (v (7 * i + 1)) = some x1 ∧ fo .sub .f32 (v (7 * k + 2)) (v (7 * i + 2)) = some x2) ∧ (Is .f32 x0 (some x0) ∧ Is .f32 x1 (some x1) ∧ Is .f32 x2 (some x2)) ∧
      innerO (some x0) (some x1) (some x2) (some x0) (some x1) (some x2) = some rI ∧ fo .mul .f32 (some x) (some x) = some rC ∧ fo .add .f32 (some rI) (some rC) = some rQ ∧ NN rQ ∧ sqD v c i k = some rQ ∧ rootO (some rQ) = some rR ∧ NN rR ∧
      fo .mul .f32 (some (f (7 * i + 6))) (some (f (7 * k + 6))) = some rM ∧ Is .f32 rM (some rM) ∧ potO v c i k = fo .quo .f32 (some rM) (some rR) := by
  obtain ⟨a0, a1, a2, a3, a4, a5, a6⟩ := fin_at hA hi
  obtain ⟨b0, b1, b2, b3, b4, b5, b6⟩ := fin_at hA hk
  have I := fun j (hj : j < 7) => hv (7 * i + j) (by omega)
  have K := fun j (hj : j < 7) => hv (7 * k + j) (by omega)
  obtain ⟨x0, e0, i0⟩ := sub_fin (K 0 (by decide)) (I 0 (by decide)) b0 a0
  obtain ⟨x1, e1, i1⟩ := sub_fin (K 1 (by decide)) (I 1 (by decide)) b1 a1
  obtain ⟨x2, e2, i2⟩ := sub_fin (K 2 (by decide)) (I 2 (by decide)) b2 a2
  rw [Nat.add_zero, Nat.add_zero] at e0
  have hcf : finS c = true := by unfold leastB at hc; simp only [Bool.and_eq_true] at hc; exact hc.1
  obtain ⟨hcx, -⟩ := fin_num32 ic hcf
  obtain ⟨rI, eI, nI⟩ := inner_nn i0 i1 i2
  obtain ⟨rC, eC, nC⟩ := nn_sq (hcx ▸ ic)
  obtain ⟨rQ, eQ, nQ⟩ := nn_add nI nC
  obtain ⟨rR, eR, nR⟩ := nn_root nQ
  obtain ⟨hi6, -⟩ := fin_num32 (I 6 (by decide)) a6
  obtain ⟨hk6, -⟩ := fin_num32 (K 6 (by decide)) b6
  obtain ⟨rM, eM, iM⟩ := mul_fin (I 6 (by decide)) (K 6 (by decide)) a6 b6
  have hS : sqD v c i k = some rQ := by unfold sqD; rw [e0, e1, e2, eI, hcx, eC, eQ]
  refine ⟨x0, x1, x2, rI, rC, rQ, rM, rR, ⟨e0, e1, e2⟩, ⟨i0, i1, i2⟩, eI, eC, eQ, nQ, hS, eR, nR, by rw [← hi6, ← hk6]; exact eM, iM, ?_⟩
  unfold potO
  rw [hS, eR, eM]
end
end Go.Proofs.Ytcpdfibanknhhaa
