/-
  For every list and every two numbers the law's text on bodies that are bound returns true, and writes nothing that was there. No condition.
-/
import Derived.Test.YtffoogflalkpbaaBnd
import Derived.Test.YtffoogflalkpbaaBndS
import Derived.Test.YtffoogflalkpbaaGood
namespace Go.Proofs.Ytffoogflalkpbaa
open Go.RowKit

set_option maxHeartbeats 1600000 in
theorem walk_FnExactBoundTo (a : Option Addr) (n cap : Nat) (f : Nat → Nat) (i k : Int) (w : World) (hg : GoodBd w a n f) (_wi : (Lit.int .i64 i).wf = true) (_wk : (Lit.int .i64 k).wf = true) :
    Calls Try.prog 3 #[.slice a n cap, .int .i64 i, .int .i64 k] w fun e w' => e = .returned (.bool true) ∧ Below w.heap.size w w' := by
  obtain ⟨hw, hm, h⟩ := hg
  by_cases hn : n ≤ 1048576
  · have hl : decide (1048576 - (n : Int) < 0) = false := by simp; omega
    have hi : ∀ i, i < 7 * n → Is .f32 (f i) (nrm .f32 (f i)) := fun i h => Is.self (hw i h)
    have H := Lib.hid h
    have HI := Lib.hid hi
    clear h hi hw
    go_enter Try.func3, Try.ntmps3
    go_wp2_with (go_at_call 4; refine (szB _ _ _ _ hn).mono ?_; rintro eq wq ⟨rfl, rfl⟩)
    have b0 := Below.refl wq.heap.size wq
    (go_at_call 6; refine Calls.mono (toB_any _ hn (H.out.below b0)) ?_; rintro _ W1 ⟨rfl, b1, r1⟩)
    go_wp2_with fail
    (go_at_call 5; refine (sBnd _ 0 n n f _ i k W1 hn r1.lt (rowCells r1) HI.out).mono ?_; rintro _ W2 ⟨rfl, b2⟩)
    replace b2 := bt b1 b2
    go_wp2_with fail
    (go_at_call 6; refine Calls.mono (toB_any _ hn (H.out.below b2)) ?_; rintro _ W3 ⟨rfl, b3, r3⟩)
    replace b3 := bt b2 b3
    go_wp2_with fail
    (go_at_call 7; refine (iBnd _ 0 n n f _ i k W3 hn r3.lt (rowCells r3) HI.out).mono ?_; rintro _ W4 ⟨rfl, b4⟩)
    replace r3 := rt r3 b4
    replace b4 := bt b3 b4
    go_wp2_with fail
    (go_at_call 6; refine Calls.mono (toB_any _ hn (H.out.below b4)) ?_; rintro _ W5 ⟨rfl, b5, r5⟩)
    replace r3 := rt r3 b5
    replace b5 := bt b4 b5
    go_wp2_with fail
    (go_at_call 8; refine (eqRow hn r3 r5 HI.out HI.out).mono ?_; rintro _ W6 ⟨rfl, b6⟩)
    replace b6 := bt b5 b6
    go_wp2_with fail
    go_ret
    exact ⟨rfl, b6⟩
  · have hl : 1048576 < n := by omega
    clear h hw
    go_enter Try.func3, Try.ntmps3
    go_wp2_with (go_at_call 4; refine (szB_out _ _ _ _ hl hm).mono ?_; rintro eq wq ⟨rfl, rfl⟩)
    go_ret
    exact ⟨rfl, Below.refl _ _⟩
end Go.Proofs.Ytffoogflalkpbaa
