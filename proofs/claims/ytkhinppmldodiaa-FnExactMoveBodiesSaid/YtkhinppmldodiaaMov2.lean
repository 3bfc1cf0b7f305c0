/-
  Lists of moved bodies, of the program. No condition.
-/
import Derived.Test.YtkhinppmldodiaaMov
namespace Go.Proofs.Ytkhinppmldodiaa
open Go.RowKit

/-- Whether moved bodies are handed back. -/
def movOk (v y s : Nat → Option Nat) (n : Nat) : Bool := finV (y 0) (y 1) (y 2) && finV (s 0) (s 1) (s 2) && (areB v n && areB (movV v y s) n)

theorem RetList.mono {u : Nat → Option Nat} {n : Nat} {ok : Bool} {w X W : World} {e : Ending} (h : RetList u n ok X e W) (hb : Below w.heap.size w X) : RetList u n ok w e W := by
  obtain ⟨⟨v, he, hr⟩, hB⟩ := h
  refine ⟨⟨v, he, ?_⟩, hb.trans (hB.mono hb.size)⟩
  rcases hr with h | ⟨g, c, r, e', hl, hh, ho, hi⟩
  · exact .inl h
  · exact .inr ⟨g, c, r, e', Nat.le_trans hb.size hl, hh, ho, hi⟩

set_option maxHeartbeats 1600000 in
theorem iMove (b off n cap : Nat) (f : Nat → Nat) (v y s : Nat → Option Nat) {b0 b1 b2 c0 c1 c2 : Nat} (g0 : Is .f32 b0 (y 0)) (g1 : Is .f32 b1 (y 1)) (g2 : Is .f32 b2 (y 2)) (k0 : Is .f32 c0 (s 0)) (k1 : Is .f32 c1 (s 1)) (k2 : Is .f32 c2 (s 2)) (w : World) (hn : n ≤ 1048576) (hb : b < w.heap.size) (hr : ∀ i, i < 7 * n → w.cell? ⟨b, off + i, none⟩ = some (.float .f32 (f i))) (hv : ∀ i, i < 7 * n → Is .f32 (f i) (v i)) :
    Calls Try.prog 15 #[.slice (some ⟨b, off, none⟩) n cap, vecV b0 b1 b2, vecV c0 c1 c2] w (RetList (movV v y s) n (movOk v y s n) w) := by
  have HR := Lib.hid hr
  have HV := Lib.hid hv
  clear hr hv
  unfold movOk
  have FA := iFinV g0 g1 g2
  have FB := iFinV k0 k1 k2
  cases hA : finV (y 0) (y 1) (y 2) with
  | false =>
    rw [hA] at FA
    go_enter Try.func15, Try.ntmps15
    go_wp2_with fail
    refine (FA _).mono ?_
    rintro _ W1 ⟨rfl, bl1⟩
    go_wp2_with fail
    go_ret2
    exact RetList.no (by repeat' (first | with_reducible exact Below.refl _ _ | with_reducible assumption | (with_reducible refine Below.setCell ?_ (by first | omega | (simp; done) | (simp; omega)) _) | (with_reducible refine Below.alloc ?_ (by first | omega | (simp; done) | (simp; omega)) _) | (with_reducible refine below_drewN ?_ _) | (with_reducible refine Below.drew ?_) | (with_reducible refine Below.trans ?_ (Below.mono (by first | (with_reducible assumption) | exact Grow.below (by assumption)) (by first | omega | (simp; done) | (simp; omega))))))
  | true =>
    rw [hA] at FA
    cases hB : finV (s 0) (s 1) (s 2) with
    | false =>
      rw [hB] at FB
      go_enter Try.func15, Try.ntmps15
      go_wp2_with fail
      refine (FA _).mono ?_
      rintro _ W1 ⟨rfl, bl1⟩
      obtain ⟨hc, hf⟩ := bcell bl1.1
      have z1 := bl1.2
      simp at z1
      go_wp2_with fail
      refine (FB _).mono ?_
      rintro _ W2 ⟨rfl, bl2⟩
      go_wp2_with fail
      go_ret2
      exact RetList.no (by repeat' (first | with_reducible exact Below.refl _ _ | with_reducible assumption | (with_reducible refine Below.setCell ?_ (by first | omega | (simp; done) | (simp; omega)) _) | (with_reducible refine Below.alloc ?_ (by first | omega | (simp; done) | (simp; omega)) _) | (with_reducible refine below_drewN ?_ _) | (with_reducible refine Below.drew ?_) | (with_reducible refine Below.trans ?_ (Below.mono (by first | (with_reducible assumption) | exact Grow.below (by assumption)) (by first | omega | (simp; done) | (simp; omega))))))
    | true =>
      rw [hB] at FB
      rw [show (true && true && (areB v n && areB (movV v y s) n)) = (areB v n && areB (movV v y s) n) from rfl]
      go_enter Try.func15, Try.ntmps15
      go_wp2_with fail
      refine (FA _).mono ?_
      rintro _ W1 ⟨rfl, bl1⟩
      obtain ⟨hc, hf⟩ := bcell bl1.1
      have z1 := bl1.2
      simp at z1
      go_wp2_with fail
      refine (FB _).mono ?_
      rintro _ W2 ⟨rfl, bl2⟩
      have z2 := bl2.2
      have BW : Below w.heap.size w W2 := by repeat' (first | with_reducible exact Below.refl _ _ | with_reducible assumption | (with_reducible refine Below.setCell ?_ (by first | omega | (simp; done) | (simp; omega)) _) | (with_reducible refine Below.alloc ?_ (by first | omega | (simp; done) | (simp; omega)) _) | (with_reducible refine below_drewN ?_ _) | (with_reducible refine Below.drew ?_) | (with_reducible refine Below.trans ?_ (Below.mono (by first | (with_reducible assumption) | exact Grow.below (by assumption)) (by first | omega | (simp; done) | (simp; omega)))))
      have B2 : Below (w.heap.size + 2) ((w.alloc (.cells #[.float .f32 b0, .float .f32 b1, .float .f32 b2] 33)).alloc (.cells #[.float .f32 c0, .float .f32 c1, .float .f32 c2] 33)) W2 := (bl1.1.mono (by simp)).trans (bl2.1.mono (by omega))
      have zB := BW.size
      have d0 : W2.cell? ⟨w.heap.size, 0, none⟩ = some (.float .f32 b0) := by rw [B2.cell (by simp)]; simp
      have d1 : W2.cell? ⟨w.heap.size, 1, none⟩ = some (.float .f32 b1) := by rw [B2.cell (by simp)]; simp
      have d2 : W2.cell? ⟨w.heap.size, 2, none⟩ = some (.float .f32 b2) := by rw [B2.cell (by simp)]; simp
      have e0 : W2.cell? ⟨w.heap.size + 1, 0, none⟩ = some (.float .f32 c0) := by rw [B2.cell (by simp)]; simp
      have e1 : W2.cell? ⟨w.heap.size + 1, 1, none⟩ = some (.float .f32 c1) := by rw [B2.cell (by simp)]; simp
      have e2 : W2.cell? ⟨w.heap.size + 1, 2, none⟩ = some (.float .f32 c2) := by rw [B2.cell (by simp)]; simp
      have l0 : w.heap.size < W2.heap.size := by omega
      have l1 : w.heap.size + 1 < W2.heap.size := by omega
      have HC := iChangedC 36 #[.pointer (some ⟨w.heap.size, 0, none⟩), .pointer (some ⟨w.heap.size + 1, 0, none⟩)] b off n cap f v (movV v y s) W2 hn (Nat.lt_of_lt_of_le hb zB) (fun i hi => (BW.cell (p := ⟨b, off + i, none⟩) hb).trans (HR.out i hi)) HV.out (enters_of Try.func36 (by kernel_rfl) rfl) (fun k hk W hW => (iMovF (HV.out (7 * k) (by omega)) (HV.out (7 * k + 1) (by omega)) (HV.out (7 * k + 2) (by omega)) (HV.out (7 * k + 3) (by omega)) (HV.out (7 * k + 4) (by omega)) (HV.out (7 * k + 5) (by omega)) g0 g1 g2 k0 k1 k2 w.heap.size (w.heap.size + 1) W (Nat.lt_of_lt_of_le l0 hW.size) (Nat.lt_of_lt_of_le l1 hW.size) ((hW.cell (p := ⟨w.heap.size, 0, none⟩) l0).trans d0) ((hW.cell (p := ⟨w.heap.size, 1, none⟩) l0).trans d1) ((hW.cell (p := ⟨w.heap.size, 2, none⟩) l0).trans d2) ((hW.cell (p := ⟨w.heap.size + 1, 0, none⟩) l1).trans e0) ((hW.cell (p := ⟨w.heap.size + 1, 1, none⟩) l1).trans e1) ((hW.cell (p := ⟨w.heap.size + 1, 2, none⟩) l1).trans e2)).mono fun e w' ⟨⟨r0, r1, r2, r3, r4, r5, he, i0, i1, i2, i3, i4, i5⟩, hb⟩ => ⟨⟨_, _, _, _, _, _, _, he, by rw [movV_0]; exact i0, by rw [movV_1]; exact i1, by rw [movV_2]; exact i2, by rw [movV_3]; exact i3, by rw [movV_4]; exact i4, by rw [movV_5]; exact i5, by rw [movV_6]; exact HV.out _ (by omega)⟩, hb⟩)
      clear hc hf
      go_wp2_with (go_at_call 35; refine HC.mono ?_; rintro _ W3 ⟨⟨v1, rfl, h1⟩, b3⟩)
      go_ret2
      exact RetList.mono ⟨⟨_, rfl, h1⟩, b3⟩ BW
end Go.Proofs.Ytkhinppmldodiaa
