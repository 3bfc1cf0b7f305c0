/-
  For every list the law's text on bodies behind three parts of a step returns true, and writes nothing that was there. No condition.
-/
import Derived.Test.YtjljdnkedbejaaaFom
import Derived.Test.YtjljdnkedbejaaaGood
namespace Go.Proofs.Ytjljdnkedbejaaa
open Go.RowKit

set_option maxHeartbeats 6400000 in
theorem walk_FnExactFourthBodies (a : Option Addr) (n cap : Nat) (f : Nat → Nat) (x y : Nat) (w : World) (hg : GoodBd w a n f) (hx : x < 2 ^ 32) (hy : y < 2 ^ 32) :
    Calls Try.prog 3 #[.slice a n cap, .float .f32 x, .float .f32 y] w fun e w' => e = .returned (.bool true) ∧ Below w.heap.size w w' := by
  obtain ⟨hw, hm, h⟩ := hg
  have ix := Is.self (k := .f32) hx
  have iy := Is.self (k := .f32) hy
  by_cases hn : n ≤ 1048576
  · have hl : decide (1048576 - (n : Int) < 0) = false := by simp; omega
    have hl1 : decide (1 + 7 * (n : Int) < 0) = false := by simp; omega
    have hi : ∀ i, i < 7 * n → Is .f32 (f i) (nrm .f32 (f i)) := fun i h => Is.self (hw i h)
    have H := Lib.hid h
    have HI := Lib.hid hi
    clear h hi hw
    go_enter Try.func3, Try.ntmps3
    go_wp2_with (go_at_call 6; refine (szB _ _ _ _ hn).mono ?_; rintro eq wq ⟨rfl, rfl⟩)
    have b0 := Below.refl wq.heap.size wq
    (go_at_call 8; refine Calls.mono (toB_any _ hn (H.out.below b0)) ?_; rintro _ W1 ⟨rfl, b1, r1⟩)
    go_wp2_with fail
    (go_at_call 7; refine (sFouL _ 0 n n f _ (Nat.le_refl n) hm ix iy W1 hn r1.lt (rowCells r1) HI.out).mono ?_; rintro _ W2 ⟨⟨vw, rfl, hw⟩, b2⟩)
    replace b2 := bt b1 b2
    have hS2 := b2.size
    go_wp2_with fail
    (go_at_call 8; refine Calls.mono (toB_any _ hn (H.out.below b2)) ?_; rintro _ W3 ⟨rfl, b3, r3⟩)
    replace hw := hw.step b3
    replace b3 := bt b2 b3
    have hl3 := r3.lt
    go_wp2_with fail
    (go_at_call 9; refine (iFouL _ 0 n n f _ (Nat.le_refl n) hm ix iy W3 hn r3.lt (rowCells r3) HI.out).mono ?_; rintro _ W4 ⟨⟨vg, rfl, hg⟩, b4⟩)
    replace hw := hw.step b4
    replace r3 := rt r3 b4
    have hS4 := b4.size
    replace b4 := bt b3 b4
    have hM : (if fouB (fun i => nrm FloatKind.f32 (f i)) (nrm FloatKind.f32 x) (nrm FloatKind.f32 y) n 3 then n else 0) ≤ 1048576 := by split <;> omega
    generalize hMe : (if fouB (fun i => nrm FloatKind.f32 (f i)) (nrm FloatKind.f32 x) (nrm FloatKind.f32 y) n 3 then n else 0) = M at hw hg hM
    have hl2 : decide (1 + 7 * (M : Int) < 0) = false := by simp; omega
    go_wp2_with fail
    (go_at_call 10; refine (eqOk hM hg hw).mono ?_; rintro _ W5 ⟨rfl, b5⟩)
    replace hw := hw.step b5
    replace hg := hg.step b5
    replace r3 := rt r3 b5
    replace b5 := bt b4 b5
    go_wp2_with fail
    (go_at_call 8; refine Calls.mono (toB_any _ hn (H.out.below b5)) ?_; rintro _ W6 ⟨rfl, b6, r6⟩)
    replace hw := hw.step b6
    replace hg := hg.step b6
    replace r3 := rt r3 b6
    replace b6 := bt b5 b6
    go_wp2_with fail
    (go_at_call 10; refine (eqRow hn r3 r6 HI.out HI.out).mono ?_; rintro _ W7 ⟨rfl, b7⟩)
    replace hw := hw.step b7
    replace hg := hg.step b7
    replace r3 := rt r3 b7
    replace b7 := bt b6 b7
    go_wp2_with fail
    (go_at_call 11; refine (markB _ n n _ W7 hn (Own.of_row r3)).mono ?_; rintro _ W8 ⟨rfl, ho8, ht8⟩)
    replace hw := hw.touch ht8 (.inr (Nat.le_refl _))
    replace hg := hg.touch ht8 (.inl hl3)
    have b8 : Below wq.heap.size wq W8 := b7.trans (ht8.below hS2)
    clear r3 r6 ho8 ht8
    go_wp2_with fail
    (go_at_call 10; refine (eqOk hM hg hw).mono ?_; rintro _ W9 ⟨rfl, b9⟩)
    replace hw := hw.step b9
    replace hg := hg.step b9
    replace b9 := bt b8 b9
    go_wp2_with fail
    (go_at_call 11; refine (markOk hM hS4 hg).mono ?_; rintro _ W10 ⟨rfl, hk, bb, hbb, ht⟩)
    replace hw := hw.touch ht (.inr (by omega))
    have b10 : Below wq.heap.size wq W10 := b9.trans (ht.below (by omega))
    clear ht
    go_wp2_with (go_at_call 12; refine (heldOk hM hk).mono ?_; rintro _ _ ⟨n1, rfl, rfl⟩)
    replace hw := hw.heap (W := W10.drewN n1) rfl
    replace hk := hk.heap (W := W10.drewN n1) rfl
    replace b10 := below_drewN b10 n1
    (go_at_call 8; refine Calls.mono (toB_any _ hn (H.out.below b10)) ?_; rintro _ W11 ⟨rfl, b11, r11⟩)
    replace hw := hw.step b11
    replace hk := hk.step b11
    replace b11 := bt b10 b11
    go_wp2_with fail
    (go_at_call 9; refine (iFouL _ 0 n n f _ (Nat.le_refl n) hm ix iy W11 hn r11.lt (rowCells r11) HI.out).mono ?_; rintro _ W12 ⟨⟨vh, rfl, hh⟩, b12⟩)
    replace hw := hw.step b12
    replace hk := hk.step b12
    replace b12 := bt b11 b12
    rw [hMe] at hh
    go_wp2_with fail
    (go_at_call 10; refine (eqOk hM hh hw).mono ?_; rintro _ W13 ⟨rfl, b13⟩)
    replace hk := hk.step b13
    replace b13 := bt b12 b13
    go_wp2_with (go_at_call 12; refine (heldOk hM hk).mono ?_; rintro _ _ ⟨n2, rfl, rfl⟩)
    go_ret
    exact ⟨rfl, below_drewN b13 n2⟩
  · have hl : 1048576 < n := by omega
    clear h hw
    go_enter Try.func3, Try.ntmps3
    go_wp2_with (go_at_call 6; refine (szB_out _ _ _ _ hl hm).mono ?_; rintro eq wq ⟨rfl, rfl⟩)
    go_ret
    exact ⟨rfl, Below.refl _ _⟩
end Go.Proofs.Ytjljdnkedbejaaa
