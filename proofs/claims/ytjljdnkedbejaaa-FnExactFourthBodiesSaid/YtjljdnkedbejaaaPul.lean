/-
  Pulls of bodies at a place: values; that the program's sum, which adds +0 where there is no pull, is the model's, which adds nothing there. No condition.
-/
import Derived.Test.YtjljdnkedbejaaaAddZ
import Derived.Test.YtjljdnkedbejaaaNea
namespace Go.Proofs.Ytjljdnkedbejaaa
open Go.RowKit

/-- The square of the distance of a body from a place A, and of the core. -/
def pq (v A : Nat → Option Nat) (c : Option Nat) (k : Nat) : Option Nat :=
  fo .add .f32 (innerO (fo .sub .f32 (v (7 * k)) (A 0)) (fo .sub .f32 (v (7 * k + 1)) (A 1)) (fo .sub .f32 (v (7 * k + 2)) (A 2)) (fo .sub .f32 (v (7 * k)) (A 0)) (fo .sub .f32 (v (7 * k + 1)) (A 1)) (fo .sub .f32 (v (7 * k + 2)) (A 2))) (fo .mul .f32 c c)
/-- What the difference is taken times. -/
def ps (v A : Nat → Option Nat) (c : Option Nat) (k : Nat) : Option Nat := fo .quo .f32 (v (7 * k + 6)) (fo .mul .f32 (pq v A c k) (rootO (pq v A c k)))
def pullJ (v A : Nat → Option Nat) (c : Option Nat) (j k : Nat) : Option Nat := fo .mul .f32 (fo .sub .f32 (v (7 * k + j)) (A j)) (ps v A c k)
/-- The sum of the first k of some numbers. -/
def sumP (p : Nat → Option Nat) : Nat → Option Nat
  | 0 => some 0
  | k + 1 => fo .add .f32 (sumP p k) (p k)
theorem sumP_succ (p : Nat → Option Nat) (k : Nat) : sumP p (k + 1) = fo .add .f32 (sumP p k) (p k) := rfl
/-- Whether a body pulls. -/
def pullsB (v A : Nat → Option Nat) (c : Option Nat) (k : Nat) : Bool := cmpB .gtr .f32 (pq v A c k) (some 0)
/-- The sum of the first k bodies, as the model makes it. -/
def pullS (v A : Nat → Option Nat) (c : Option Nat) (j : Nat) : Nat → Option Nat
  | 0 => some 0
  | k + 1 => if pullsB v A c k then fo .add .f32 (pullS v A c j k) (pullJ v A c j k) else pullS v A c j k
/-- As the program makes it. -/
def pullI (v A : Nat → Option Nat) (c : Option Nat) (j k : Nat) : Option Nat := if pullsB v A c k then pullJ v A c j k else some 0
def pullT (v A : Nat → Option Nat) (c : Option Nat) (j : Nat) : Nat → Option Nat
  | 0 => some 0
  | k + 1 => fo .add .f32 (pullT v A c j k) (pullI v A c j k)

theorem is_fo32x {op : BinOp} (a b : Option Nat) : ∃ y, Is .f32 y (fo op .f32 a b) := by
  cases h : fo op .f32 a b with
  | none => exact ⟨2143289344, by decide, by decide⟩
  | some r => exact ⟨r, is_fo32 h⟩

theorem pull_same (v A : Nat → Option Nat) (c : Option Nat) (j : Nat) : ∀ k, pullT v A c j k = pullS v A c j k ∧ NZ (pullS v A c j k) ∧ ∃ r, Is .f32 r (pullS v A c j k)
  | 0 => ⟨rfl, by unfold NZ pullS; decide, 0, is_lit32 0 (by decide)⟩
  | k + 1 => by
    obtain ⟨h1, h2, r, hr⟩ := pull_same v A c j k
    show fo .add .f32 (pullT v A c j k) (pullI v A c j k) = (if pullsB v A c k then fo .add .f32 (pullS v A c j k) (pullJ v A c j k) else pullS v A c j k) ∧ NZ (if pullsB v A c k then fo .add .f32 (pullS v A c j k) (pullJ v A c j k) else pullS v A c j k) ∧ ∃ r, Is .f32 r (if pullsB v A c k then fo .add .f32 (pullS v A c j k) (pullJ v A c j k) else pullS v A c j k)
    rw [h1]
    unfold pullI
    cases hb : pullsB v A c k with
    | true =>
      simp only [if_true]
      obtain ⟨y, hy⟩ : ∃ y, Is .f32 y (pullJ v A c j k) := is_fo32x _ _
      exact ⟨by first | trivial | rfl, nz_add hr hy h2, is_fo32x _ _⟩
    | false =>
      simp only [Bool.false_eq_true, if_false]
      exact ⟨add_z hr h2, h2, r, hr⟩
end Go.Proofs.Ytjljdnkedbejaaa
