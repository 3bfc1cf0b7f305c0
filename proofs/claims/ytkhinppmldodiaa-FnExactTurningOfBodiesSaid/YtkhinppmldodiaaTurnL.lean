/-
  For every list the law's text on the turning momentum returns true, and writes nothing that was there. No condition.
-/
import Derived.Test.YtkhinppmldodiaaTurn
import Derived.Test.YtkhinppmldodiaaGood
namespace Go.Proofs.Ytkhinppmldodiaa
open Go.RowKit

set_option maxHeartbeats 1600000 in
theorem walk_FnExactTurningOfBodies (a : Option Addr) (n cap : Nat) (f : Nat → Nat) (w : World) (hg : GoodBd w a n f) :
    Calls Try.prog 5 #[.slice a n cap] w fun e w' => e = .returned (.bool true) ∧ Below w.heap.size w w' := by
  obtain ⟨hw, hm, h⟩ := hg
  by_cases hn : n ≤ 1048576
  · have hl : decide (1048576 - (n : Int) < 0) = false := by simp; omega
    have hi : ∀ i, i < 7 * n → Is .f32 (f i) (nrm .f32 (f i)) := fun i h => Is.self (hw i h)
    have H := Lib.hid h
    have HI := Lib.hid hi
    clear h hi hw
    have hst := run_store_float Try.prog
    go_enter Try.func5, Try.ntmps5
    go_wp2_with (go_at_call 8; refine (szB _ _ _ _ hn).mono ?_; rintro eq wq ⟨rfl, rfl⟩)
    have b0 := Below.refl wq.heap.size wq
    (go_at_call 10; refine Calls.mono (toB_any _ hn (H.out.below b0)) ?_; rintro _ W1 ⟨rfl, b1, r1⟩)
    go_wp2_with fail
    (go_at_call 18; refine (specTurn _ 0 n n f _ W1 hn r1.lt (rowCells r1) HI.out).mono ?_; rintro _ W2 ⟨⟨p0, p1, p2, rfl, i0, i1, i2⟩, b2⟩)
    have v0 := alloc3 W2 p0 p1 p2 33
    replace b2 := (bt b1 b2).alloc (bt b1 b2).size (.cells #[.float .f32 p0, .float .f32 p1, .float .f32 p2] 33)
    go_wp2_with fail
    (go_at_call 10; refine Calls.mono (toB_any _ hn (H.out.below b2)) ?_; rintro _ W3 ⟨rfl, b3, r3⟩)
    rw [show (W2.alloc (.cells #[.float .f32 p0, .float .f32 p1, .float .f32 p2] 33)).heap.size = W2.heap.size + 1 by simp] at r3
    replace v0 := rt v0 b3
    replace b3 := bt b2 b3
    go_wp2_with fail
    (go_at_call 19; refine (iTurn _ 0 n n f _ W3 hn r3.lt (rowCells r3) HI.out).mono ?_; rintro _ W4 ⟨⟨q0, q1, q2, rfl, j0, j1, j2⟩, b4⟩)
    have v1 := alloc3 W4 q0 q1 q2 33
    replace r3 := (rt r3 b4).alloc (.cells #[.float .f32 q0, .float .f32 q1, .float .f32 q2] 33)
    replace v0 := (rt v0 b4).alloc (.cells #[.float .f32 q0, .float .f32 q1, .float .f32 q2] 33)
    replace b4 := (bt b3 b4).alloc (bt b3 b4).size (.cells #[.float .f32 q0, .float .f32 q1, .float .f32 q2] 33)
    obtain ⟨c0, c1, c2⟩ := row3 v0
    obtain ⟨d0, d1, d2⟩ := row3 v1
    clear v0 v1
    go_wp2_with (go_at_call 20; refine (eqV_any j0 j1 j2 i0 i1 i2 _).mono ?_; rintro _ W5 ⟨rfl, b5⟩)
    replace r3 := rt r3 b5.1
    replace b5 := bt b4 b5.1
    (go_at_call 10; refine Calls.mono (toB_any _ hn (H.out.below b5)) ?_; rintro _ W6 ⟨rfl, b6, r6⟩)
    replace r3 := rt r3 b6
    replace b6 := bt b5 b6
    go_wp2_with fail
    (go_at_call 12; refine (eqRow hn r3 r6 HI.out HI.out).mono ?_; rintro _ W7 ⟨rfl, b7⟩)
    replace b7 := bt b6 b7
    go_wp2_with fail
    go_ret
    exact ⟨rfl, b7⟩
  · have hl : 1048576 < n := by omega
    clear h hw
    go_enter Try.func5, Try.ntmps5
    go_wp2_with (go_at_call 8; refine (szB_out _ _ _ _ hl hm).mono ?_; rintro eq wq ⟨rfl, rfl⟩)
    go_ret
    exact ⟨rfl, Below.refl _ _⟩
end Go.Proofs.Ytkhinppmldodiaa
