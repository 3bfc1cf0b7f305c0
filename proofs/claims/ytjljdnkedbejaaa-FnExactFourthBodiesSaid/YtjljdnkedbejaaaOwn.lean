/-
  A block that the call owns, up to some cell: plain facts. No condition.
-/
import Derived.Test.YtjljdnkedbejaaaAreS
namespace Go.Proofs.Ytjljdnkedbejaaa
open Go.RowKit

/-- The first m cells of the block b hold these values, and nothing of it is frozen. -/
def Own (w : World) (b m : Nat) (f : Nat → Value) : Prop := b < w.heap.size ∧ (∀ i, i < m → w.cell? ⟨b, i, none⟩ = some (f i)) ∧ ∀ i, w.frozen? ⟨b, i, none⟩ = false

theorem Own.of_row {w : World} {b m : Nat} {t : TypeId} {f : Nat → Value} (h : w.rowIs b t m f) : Own w b m f := ⟨h.lt, fun _ hi => h.cell hi, h.frozen⟩
theorem Own.below {w W : World} {B b m : Nat} {f : Nat → Value} (h : Own w b m f) (hb : Below B w W) (hB : b < B) : Own W b m f :=
  ⟨Nat.lt_of_lt_of_le h.1 hb.size, fun i hi => (hb.cell (p := ⟨b, i, none⟩) hB).trans (h.2.1 i hi), fun i => (hb.frozen (p := ⟨b, i, none⟩) hB).trans (h.2.2 i)⟩
theorem Own.step {w W : World} {b m : Nat} {f : Nat → Value} (h : Own w b m f) (hb : Below w.heap.size w W) : Own W b m f := h.below hb h.1
theorem Own.heap {w W : World} {b m : Nat} {f : Nat → Value} (h : Own w b m f) (e : W.heap = w.heap) : Own W b m f := by
  obtain ⟨h0, h1, h2⟩ := h
  exact ⟨by rw [e]; exact h0, fun i hi => by rw [← h1 i hi]; simp [World.cell?, e], fun i => by rw [← h2 i]; simp [World.frozen?, e]⟩
theorem Own.alloc {w : World} {b m : Nat} {f : Nat → Value} (h : Own w b m f) (o : Obj) : Own (w.alloc o) b m f := h.step ((Below.refl _ _).alloc (Nat.le_refl _) _)
theorem Own.set {w : World} {b m : Nat} {f : Nat → Value} (h : Own w b m f) {i : Nat} (hi : i < m) (v : Value) : Own (w.setCell ⟨b, i, none⟩ v) b m (fun j => if j = i then v else f j) := by
  refine ⟨by simpa using h.1, fun j hj => ?_, fun j => by rw [World.frozen?_setCell]; exact h.2.2 j⟩
  by_cases e : j = i
  · subst e
    show _ = some (if j = j then v else f j)
    rw [if_pos rfl]
    exact World.cell?_setCell_same _ _ _ (h.2.1 j hj)
  · show _ = some (if j = i then v else f j)
    rw [if_neg e, World.cell?_setCell_other _ _ _ _ (by intro hq; apply e; cases hq; rfl)]
    exact h.2.1 j hj
theorem Own.congr {w : World} {b m : Nat} {f g : Nat → Value} (h : Own w b m f) (e : ∀ i, i < m → f i = g i) : Own w b m g := ⟨h.1, fun i hi => by rw [h.2.1 i hi, e i hi], h.2.2⟩
theorem Own.setOther {w : World} {b m : Nat} {f : Nat → Value} (h : Own w b m f) {a : Addr} (ha : b ≠ a.block) (v : Value) : Own (w.setCell a v) b m f :=
  ⟨by simpa using h.1, fun i hi => by rw [World.cell?_setCell_other _ _ _ _ (by intro e; exact ha (by rw [e]))]; exact h.2.1 i hi, fun i => by rw [World.frozen?_setCell]; exact h.2.2 i⟩

theorem own7 {w : World} {b n : Nat} {f : Nat → Value} (h : Own w b (7 * n) f) {k : Nat} (hk : k < n) :
    w.cell? ⟨b, k * 7, none⟩ = some (f (7 * k)) ∧ w.cell? ⟨b, k * 7 + 1, none⟩ = some (f (7 * k + 1)) ∧ w.cell? ⟨b, k * 7 + 2, none⟩ = some (f (7 * k + 2)) ∧ w.cell? ⟨b, k * 7 + 3, none⟩ = some (f (7 * k + 3)) ∧ w.cell? ⟨b, k * 7 + 4, none⟩ = some (f (7 * k + 4)) ∧ w.cell? ⟨b, k * 7 + 5, none⟩ = some (f (7 * k + 5)) ∧ w.cell? ⟨b, k * 7 + 6, none⟩ = some (f (7 * k + 6)) := by
  refine ⟨?_, ?_, ?_, ?_, ?_, ?_, ?_⟩ <;> rw [h.2.1 _ (by omega)] <;> congr 1 <;> congr 1 <;> omega

theorem ownCells {w : World} {b n : Nat} {f : Nat → Nat} (h : Own w b n (wordV f)) : ∀ i, i < n → w.cell? ⟨b, 0 + i, none⟩ = some (.float .f32 (f i)) := fun i hi => by rw [Nat.zero_add]; exact h.2.1 i hi

theorem oset7 {w : World} {b n : Nat} {g g' : Nat → Value} (h : Own w b (7 * n) g) {k : Nat} (hk : k < n) {v0 v1 v2 v3 v4 v5 v6 : Value} (e0 : g' (7 * k) = v0) (e1 : g' (7 * k + 1) = v1) (e2 : g' (7 * k + 2) = v2) (e3 : g' (7 * k + 3) = v3) (e4 : g' (7 * k + 4) = v4) (e5 : g' (7 * k + 5) = v5) (e6 : g' (7 * k + 6) = v6) (ho : ∀ j, j < 7 * n → (j < 7 * k ∨ 7 * k + 7 ≤ j) → g' j = g j) :
    Own (((((((w.setCell ⟨b, k * 7, none⟩ v0).setCell ⟨b, k * 7 + 1, none⟩ v1).setCell ⟨b, k * 7 + 2, none⟩ v2).setCell ⟨b, k * 7 + 3, none⟩ v3).setCell ⟨b, k * 7 + 4, none⟩ v4).setCell ⟨b, k * 7 + 5, none⟩ v5).setCell ⟨b, k * 7 + 6, none⟩ v6) b (7 * n) g' := by
  refine (((((((h.set (by omega) v0).set (by omega) v1).set (by omega) v2).set (by omega) v3).set (by omega) v4).set (by omega) v5).set (by omega) v6).congr fun j hj => ?_
  have hc : j < 7 * k ∨ j = 7 * k ∨ j = 7 * k + 1 ∨ j = 7 * k + 2 ∨ j = 7 * k + 3 ∨ j = 7 * k + 4 ∨ j = 7 * k + 5 ∨ j = 7 * k + 6 ∨ 7 * k + 7 ≤ j := by omega
  rcases hc with hc | rfl | rfl | rfl | rfl | rfl | rfl | rfl | hc
  · rw [ho j hj (.inl hc), if_neg (by omega), if_neg (by omega), if_neg (by omega), if_neg (by omega), if_neg (by omega), if_neg (by omega), if_neg (by omega)]
  · rw [e0, if_neg (by omega), if_neg (by omega), if_neg (by omega), if_neg (by omega), if_neg (by omega), if_neg (by omega), if_pos (by omega)]
  · rw [e1, if_neg (by omega), if_neg (by omega), if_neg (by omega), if_neg (by omega), if_neg (by omega), if_pos (by omega)]
  · rw [e2, if_neg (by omega), if_neg (by omega), if_neg (by omega), if_neg (by omega), if_pos (by omega)]
  · rw [e3, if_neg (by omega), if_neg (by omega), if_neg (by omega), if_pos (by omega)]
  · rw [e4, if_neg (by omega), if_neg (by omega), if_pos (by omega)]
  · rw [e5, if_neg (by omega), if_pos (by omega)]
  · rw [e6, if_pos (by omega)]
  · rw [ho j hj (.inr hc), if_neg (by omega), if_neg (by omega), if_neg (by omega), if_neg (by omega), if_neg (by omega), if_neg (by omega), if_neg (by omega)]
end Go.Proofs.Ytjljdnkedbejaaa
