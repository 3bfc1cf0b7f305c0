/-
  Bodies behind three parts of a step, of the program and of the model. No condition.
-/
import Derived.Test.YtjljdnkedbejaaaFov
namespace Go.Proofs.Ytjljdnkedbejaaa
open Go.RowKit

/-- A list of m bodies, wherever it lies. -/
def ListIs (W : World) (l : Value) (m : Nat) (u : Nat → Option Nat) : Prop :=
  ∃ (g o c : Nat) (r : Nat → Nat), l = .slice (some ⟨g, o, none⟩) m c ∧ m ≤ c ∧ c ≤ maxLen ∧ g < W.heap.size ∧ (∀ i, i < 7 * m → W.cell? ⟨g, o + i, none⟩ = some (.float .f32 (r i))) ∧ (∀ i, i < 7 * m → Is .f32 (r i) (u i))
theorem RowC.is {lo : Nat} {W : World} {l : Value} {m : Nat} {u : Nat → Option Nat} (h : RowC lo W l m u) : ListIs W l m u := by
  obtain ⟨g, o, c, r, h1, h2, h3, h4, h5, h6, -⟩ := h.cells
  exact ⟨g, o, c, r, h1, h2, h3, h4, h5, h6⟩
/-- The same without room behind it. -/
def ListJs (W : World) (l : Value) (m : Nat) (u : Nat → Option Nat) : Prop :=
  ∃ (g o c : Nat) (r : Nat → Nat), l = .slice (some ⟨g, o, none⟩) m c ∧ g < W.heap.size ∧ (∀ i, i < 7 * m → W.cell? ⟨g, o + i, none⟩ = some (.float .f32 (r i))) ∧ (∀ i, i < 7 * m → Is .f32 (r i) (u i))
theorem RowD.is {lo : Nat} {W : World} {l : Value} {m : Nat} {u : Nat → Option Nat} (h : RowD lo W l m u) : ListJs W l m u := by
  obtain ⟨g, o, c, r, h1, h4, h5, h6, -⟩ := h.cells
  exact ⟨g, o, c, r, h1, h4, h5, h6⟩

set_option maxHeartbeats 3200000 in
theorem iFourth (b off n cap : Nat) (f : Nat → Nat) (v : Nat → Option Nat) (hc : n ≤ cap) (hc2 : cap ≤ maxLen) {x y : Nat} {c t : Option Nat} (ix : Is .f32 x c) (iy : Is .f32 y t) (w : World) (hn : n ≤ 1048576) (hb : b < w.heap.size) (hr : ∀ i, i < 7 * n → w.cell? ⟨b, off + i, none⟩ = some (.float .f32 (f i))) (hv : ∀ i, i < 7 * n → Is .f32 (f i) (v i)) :
    Calls Try.prog 9 #[.slice (some ⟨b, off, none⟩) n cap, .float .f32 x, .float .f32 y] w (RetC (fouV v c t n 3) n (fouB v c t n 3) w) := by
  have ST := fun (k g o cf : Nat) (r : Nat → Nat) (h1 : n ≤ cf) (h2 : cf ≤ maxLen) (z : Nat) (iz : Is .f32 z (tkT t k)) (W : World) (hg : g < W.heap.size) hr hv => iStepBodies g o n cf r (fouV v c t n k) h1 h2 ix iz W hn hg hr hv
  have HL0 := Lib.hid (show ListIs w (.slice (some ⟨b, off, none⟩) n cap) n (fouV v c t n 0) from ⟨b, off, cap, f, rfl, hc, hc2, hb, hr, hv⟩)
  clear hr hv hc hc2
  have ix0 : ∀ w : World, (Instr.index 47 (Value.agg #[.float .f32 1068299356, .float .f32 3218729143, .float .f32 1068299356]) (.int .i64 0)).run Try.prog w = .ok (.float .f32 1068299356) w := fun _ => by kernel_rfl
  have ix1 : ∀ w : World, (Instr.index 47 (Value.agg #[.float .f32 1068299356, .float .f32 3218729143, .float .f32 1068299356]) (.int .i64 1)).run Try.prog w = .ok (.float .f32 3218729143) w := fun _ => by kernel_rfl
  have ix2 : ∀ w : World, (Instr.index 47 (Value.agg #[.float .f32 1068299356, .float .f32 3218729143, .float .f32 1068299356]) (.int .i64 2)).run Try.prog w = .ok (.float .f32 1068299356) w := fun _ => by kernel_rfl
  go_enter Try.func9, Try.ntmps9
  go_wp2
  go_loopw [14, 8] (fun i l wr => ∃ k : Nat, k ≤ 3 ∧ i = .int .i64 (k : Nat) ∧ ListIs wr l n (fouV v c t n k) ∧ (0 < k → RowC w.heap.size wr l n (fouV v c t n k)) ∧ fouB v c t n k = true ∧ Below w.heap.size w wr) (fun i _ _ => 3 - (intOf i).toNat)
  case atStart => exact ⟨0, Nat.zero_le _, rfl, HL0.out, fun h => absurd h (Nat.lt_irrefl 0), rfl, Below.refl _ _⟩
  case round =>
    clear HL0
    obtain ⟨k, hk, rfl, hl, hrow, hB, hbel⟩ := hrel
    have hz := hbel.size
    obtain ⟨X, rfl⟩ : ∃ X, X = wr := ⟨wr, rfl⟩
    by_cases hlt : k < 3
    · obtain ⟨g, o, cf, r, rfl, h1, h2, hg, hcl, his⟩ := hl
      have STk := fun (z : Nat) (iz : Is .f32 z (tkT t k)) (W : World) (hW : Below X.heap.size X W) => ST k g o cf r h1 h2 z iz W (Nat.lt_of_lt_of_le hg hW.size) (fun i hi => (hW.cell (p := ⟨g, o + i, none⟩) hg).trans (hcl i hi)) his
      have HN := Lib.hid (show ∀ bb, stepB (fouV v c t n k) c (tkT t k) n = bb → fouB v c t n (k + 1) = bb ∧ (bb = false → fouB v c t n 3 = false) from fun bb h => ⟨by simp [fouB, hB, h], fun h' => fouB_no (by rw [h, h']) hlt⟩)
      have HV := Lib.hid (show fouV v c t n (k + 1) = stepV (fouV v c t n k) c (tkT t k) n from rfl)
      clear ST hrow hB hcl his
      cases hS : stepB (fouV v c t n k) c (tkT t k) n with
      | false =>
        have HF := Lib.hid ((HN.out _ hS).2 rfl)
        rw [hS] at STk
        clear HN hS
        have hk3 : k = 0 ∨ k = 1 ∨ k = 2 := by omega
        rcases hk3 with rfl | rfl | rfl <;>
          (go_wp2_with (apply wpList_arith; rfl; simp [Arith]; rfl; rfl; (first | assumption | exact is_lit64 _ (by decide) | exact is_lit32 _ (by decide)); (first | assumption | exact is_lit64 _ (by decide) | exact is_lit32 _ (by decide)); intro Kq hKq rq nq hq; go_simp)
           (go_at_call 21; refine (STk rq hq _ (below_drewN (Below.refl _ _) _)).mono ?_; rintro _ W2 ⟨⟨s, rfl, -, -⟩, b2⟩)
           go_wp2_with fail
           go_ret2
           rw [HF.out]
           exact RetC.no (hbel.trans (((below_drewN (Below.refl _ _) nq).trans (b2.mono (by simp))).mono hz)))
      | true =>
        have HT := Lib.hid (HN.out _ hS).1
        rw [hS] at STk
        clear HN hS
        have hk3 : k = 0 ∨ k = 1 ∨ k = 2 := by omega
        rcases hk3 with rfl | rfl | rfl <;>
          (go_wp2_with (apply wpList_arith; rfl; simp [Arith]; rfl; rfl; (first | assumption | exact is_lit64 _ (by decide) | exact is_lit32 _ (by decide)); (first | assumption | exact is_lit64 _ (by decide) | exact is_lit32 _ (by decide)); intro Kq hKq rq nq hq; go_simp)
           (go_at_call 21; refine (STk rq hq _ (below_drewN (Below.refl _ _) _)).mono ?_; rintro _ W2 ⟨⟨s, rfl, hs, -⟩, b2⟩)
           have hrw := (hs (by first | rfl | trivial)).lo (lo := w.heap.size) (by simpa using hz)
           have b2w : Below w.heap.size w W2 := hbel.trans (((below_drewN (Below.refl _ _) nq).trans (b2.mono (by simp))).mono hz)
           go_wp2_with fail
           go_roundw
           case rel => exact ⟨_, by decide, rfl, by rw [HV.out]; exact hrw.is, fun _ => by rw [HV.out]; exact hrw, HT.out, b2w⟩
           case measure => decide)
    · obtain rfl : k = 3 := by omega
      have hrw := Lib.hid (hrow (by decide))
      have HB := Lib.hid hB
      clear hl hrow hB
      go_wp2_with fail
      go_ret2
      rw [HB.out]
      exact ⟨⟨_, rfl, fun _ => hrw.out, fun h => by cases h⟩, hbel⟩
end Go.Proofs.Ytjljdnkedbejaaa
