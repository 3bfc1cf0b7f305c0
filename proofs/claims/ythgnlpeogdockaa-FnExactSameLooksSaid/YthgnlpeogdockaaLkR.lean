/-
  Whether two lists of looks are the same: for every two lists the law's text returns true, and writes nothing that was there. No condition.
-/
import Derived.Test.YthgnlpeogdockaaLkQ
namespace Go.Proofs.Ythgnlpeogdockaa
open Go.RowKit

set_option maxHeartbeats 1600000 in
theorem walk_FnExactSameLooks (a : Option Addr) (n cap : Nat) (f : Nat → Nat) (a' : Option Addr) (m cap' : Nat) (g : Nat → Nat) (w : World) (hg : GoodLk w a n f) (hg' : GoodLk w a' m g) :
    Calls Try.prog 4 #[.slice a n cap, .slice a' m cap'] w fun e w' => e = .returned (.bool true) ∧ Below w.heap.size w w' := by
  obtain ⟨hw, hm, h⟩ := hg
  obtain ⟨hw', hm', h'⟩ := hg'
  by_cases hn : n ≤ 1048576
  · have hl : decide (1048576 - (n : Int) < 0) = false := by simp; omega
    by_cases hn' : m ≤ 1048576 - n
    · have hl' : decide (1048576 - (n : Int) - (m : Int) < 0) = false := by simp; omega
      have hn2 : m ≤ 1048576 := by omega
      have hi : ∀ i, i < 5 * n → Is .f32 (f i) (nrm .f32 (f i)) := fun i h => Is.self (hw i h)
      have hi' : ∀ i, i < 5 * m → Is .f32 (g i) (nrm .f32 (g i)) := fun i h => Is.self (hw' i h)
      have H := Lib.hid h
      have H' := Lib.hid h'
      have HI := Lib.hid hi
      have HI' := Lib.hid hi'
      clear h h' hi hi' hw hw'
      go_enter Try.func4, Try.ntmps4
      go_wp2_with fail
      (go_at_call 10; refine (szK _ _ _ _ _ (by omega) (by omega)).mono ?_; rintro eq wq ⟨rfl, rfl⟩)
      go_wp2_with fail
      (go_at_call 10; refine (szK _ _ _ _ _ (by omega) (by omega)).mono ?_; rintro eq wq ⟨rfl, rfl⟩)
      have b0 := Below.refl wq.heap.size wq
      go_wp2_with fail
      (go_at_call 12; refine Calls.mono (toK_any _ hn (H.out.below b0)) ?_; rintro _ W1 ⟨rfl, b1, r1⟩)
      go_wp2_with fail
      (go_at_call 12; refine Calls.mono (toK_any _ hn2 (H'.out.below b1)) ?_; rintro _ W2 ⟨rfl, b2, r2⟩)
      replace r1 := rt r1 b2
      replace b2 := bt b1 b2
      go_wp2_with fail
      (go_at_call 15; refine (sSameLK _ 0 _ 0 n m n m f g _ _ W2 hn hn2 r1.lt r2.lt (rowCells r1) (rowCells r2) HI.out HI'.out).mono ?_; rintro _ W3 ⟨rfl, b3⟩)
      replace b3 := bt b2 b3
      clear r1 r2
      go_wp2_with fail
      (go_at_call 12; refine Calls.mono (toK_any _ hn (H.out.below b3)) ?_; rintro _ W4 ⟨rfl, b4, r4⟩)
      replace b4 := bt b3 b4
      go_wp2_with fail
      (go_at_call 12; refine Calls.mono (toK_any _ hn2 (H'.out.below b4)) ?_; rintro _ W5 ⟨rfl, b5, r5⟩)
      replace r4 := rt r4 b5
      replace b5 := bt b4 b5
      go_wp2_with fail
      (go_at_call 16; refine (iSameLK _ 0 _ 0 n m n m f g _ _ W5 hn hn2 r4.lt r5.lt (rowCells r4) (rowCells r5) HI.out HI'.out).mono ?_; rintro _ W6 ⟨rfl, b6⟩)
      replace r4 := rt r4 b6
      replace r5 := rt r5 b6
      replace b6 := bt b5 b6
      go_wp2_with fail
      (go_at_call 12; refine Calls.mono (toK_any _ hn (H.out.below b6)) ?_; rintro _ W7 ⟨rfl, b7, r7⟩)
      replace r4 := rt r4 b7
      replace r5 := rt r5 b7
      replace b7 := bt b6 b7
      go_wp2_with fail
      (go_at_call 14; refine (eqRowK hn r4 r7 HI.out HI.out).mono ?_; rintro _ W8 ⟨rfl, b8⟩)
      replace r5 := rt r5 b8
      replace b8 := bt b7 b8
      go_wp2_with fail
      (go_at_call 12; refine Calls.mono (toK_any _ hn2 (H'.out.below b8)) ?_; rintro _ W9 ⟨rfl, b9, r9⟩)
      replace r5 := rt r5 b9
      replace b9 := bt b8 b9
      go_wp2_with fail
      (go_at_call 14; refine (eqRowK hn2 r5 r9 HI'.out HI'.out).mono ?_; rintro _ Wa ⟨rfl, ba⟩)
      replace ba := bt b9 ba
      go_wp2_with fail
      go_ret
      exact ⟨rfl, ba⟩
    · clear h h' hw hw'
      go_enter Try.func4, Try.ntmps4
      go_wp2_with fail
      (go_at_call 10; refine (szK _ _ _ _ _ (by omega) (by omega)).mono ?_; rintro eq wq ⟨rfl, rfl⟩)
      go_wp2_with fail
      (go_at_call 10; refine (szK_out _ _ _ _ _ (by omega) (by omega) hm').mono ?_; rintro eq wq ⟨rfl, rfl⟩)
      go_wp2_with fail
      go_ret
      exact ⟨rfl, Below.refl _ _⟩
  · have hl : 1048576 < n := by omega
    clear h h' hw hw'
    go_enter Try.func4, Try.ntmps4
    go_wp2_with (go_at_call 10; refine (szK_out _ _ _ _ _ (by omega) (by omega) hm).mono ?_; rintro eq wq ⟨rfl, rfl⟩)
    go_ret
    exact ⟨rfl, Below.refl _ _⟩
end Go.Proofs.Ythgnlpeogdockaa
