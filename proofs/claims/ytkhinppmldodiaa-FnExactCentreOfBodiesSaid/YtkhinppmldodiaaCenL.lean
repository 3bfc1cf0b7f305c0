/-
  For every list the law's text on the centre returns true, and writes nothing that was there. No condition.
-/
import Derived.Test.YtkhinppmldodiaaCenS
import Derived.Test.YtkhinppmldodiaaGood
namespace Go.Proofs.Ytkhinppmldodiaa
open Go.RowKit

set_option maxHeartbeats 3200000 in
theorem walk_FnExactCentreOfBodies (a : Option Addr) (n cap : Nat) (f : Nat → Nat) (w : World) (hg : GoodBd w a n f) :
    Calls Try.prog 6 #[.slice a n cap] w fun e w' => e = .returned (.bool true) ∧ Below w.heap.size w w' := by
  obtain ⟨hw, hm, h⟩ := hg
  by_cases hn : n ≤ 1048576
  · have hl : decide (1048576 - (n : Int) < 0) = false := by simp; omega
    have hi : ∀ i, i < 7 * n → Is .f32 (f i) (nrm .f32 (f i)) := fun i h => Is.self (hw i h)
    have H := Lib.hid h
    have HI := Lib.hid hi
    clear h hi hw
    have hst := run_store_float Try.prog
    go_enter Try.func6, Try.ntmps6
    go_wp2_with (go_at_call 8; refine (szB _ _ _ _ hn).mono ?_; rintro eq wq ⟨rfl, rfl⟩)
    have b0 := Below.refl wq.heap.size wq
    (go_at_call 10; refine Calls.mono (toB_any _ hn (H.out.below b0)) ?_; rintro _ W1 ⟨rfl, b1, r1⟩)
    go_wp2_with fail
    (go_at_call 21; refine (specCen _ 0 n n f _ W1 hn r1.lt (rowCells r1) HI.out).mono ?_; rintro _ W2 ⟨⟨p0, p1, p2, p3, p4, p5, rfl, i0, i1, i2, i3, i4, i5⟩, b2⟩)
    have v0 := (alloc3 W2 p0 p1 p2 33).alloc (.cells #[.float .f32 p3, .float .f32 p4, .float .f32 p5] 33)
    have v3 := alloc3 (W2.alloc (.cells #[.float .f32 p0, .float .f32 p1, .float .f32 p2] 33)) p3 p4 p5 33
    rw [show (W2.alloc (.cells #[.float .f32 p0, .float .f32 p1, .float .f32 p2] 33)).heap.size = W2.heap.size + 1 by simp] at v3
    replace b2 : Below wq.heap.size wq ((W2.alloc (.cells #[.float .f32 p0, .float .f32 p1, .float .f32 p2] 33)).alloc (.cells #[.float .f32 p3, .float .f32 p4, .float .f32 p5] 33)) := by
      have h := bt b1 b2
      have hz := h.size
      exact (h.alloc hz _).alloc (by simp; omega) _
    go_wp2_with fail
    generalize (W2.alloc (.cells #[.float .f32 p0, .float .f32 p1, .float .f32 p2] 33)).alloc (.cells #[.float .f32 p3, .float .f32 p4, .float .f32 p5] 33) = X2 at v0 v3 b2 ⊢
    (go_at_call 10; refine Calls.mono (toB_any _ hn (H.out.below b2)) ?_; rintro _ W3 ⟨rfl, b3, r3⟩)
    replace v0 := rt v0 b3
    replace v3 := rt v3 b3
    replace b3 := bt b2 b3
    go_wp2_with fail
    (go_at_call 22; refine (iCen _ 0 n n f _ W3 hn r3.lt (rowCells r3) HI.out).mono ?_; rintro _ W4 ⟨⟨q0, q1, q2, q3, q4, q5, rfl, j0, j1, j2, j3, j4, j5⟩, b4⟩)
    have u0 := (alloc3 W4 q0 q1 q2 33).alloc (.cells #[.float .f32 q3, .float .f32 q4, .float .f32 q5] 33)
    have u3 := alloc3 (W4.alloc (.cells #[.float .f32 q0, .float .f32 q1, .float .f32 q2] 33)) q3 q4 q5 33
    rw [show (W4.alloc (.cells #[.float .f32 q0, .float .f32 q1, .float .f32 q2] 33)).heap.size = W4.heap.size + 1 by simp] at u3
    replace r3 := ((rt r3 b4).alloc (.cells #[.float .f32 q0, .float .f32 q1, .float .f32 q2] 33)).alloc (.cells #[.float .f32 q3, .float .f32 q4, .float .f32 q5] 33)
    replace v0 := ((rt v0 b4).alloc (.cells #[.float .f32 q0, .float .f32 q1, .float .f32 q2] 33)).alloc (.cells #[.float .f32 q3, .float .f32 q4, .float .f32 q5] 33)
    replace v3 := ((rt v3 b4).alloc (.cells #[.float .f32 q0, .float .f32 q1, .float .f32 q2] 33)).alloc (.cells #[.float .f32 q3, .float .f32 q4, .float .f32 q5] 33)
    replace b4 : Below wq.heap.size wq ((W4.alloc (.cells #[.float .f32 q0, .float .f32 q1, .float .f32 q2] 33)).alloc (.cells #[.float .f32 q3, .float .f32 q4, .float .f32 q5] 33)) := by
      have h := bt b3 b4
      have hz := h.size
      exact (h.alloc hz _).alloc (by simp; omega) _
    obtain ⟨c0, c1, c2⟩ := row3 v0
    obtain ⟨c3, c4, c5⟩ := row3 v3
    obtain ⟨d0, d1, d2⟩ := row3 u0
    obtain ⟨d3, d4, d5⟩ := row3 u3
    go_wp2_with fail
    generalize (W4.alloc (.cells #[.float .f32 q0, .float .f32 q1, .float .f32 q2] 33)).alloc (.cells #[.float .f32 q3, .float .f32 q4, .float .f32 q5] 33) = X4 at c0 c1 c2 c3 c4 c5 d0 d1 d2 d3 d4 d5 v0 v3 u0 u3 r3 b4 ⊢
    refine (eqV_any j0 j1 j2 i0 i1 i2 _).mono ?_
    rintro _ W5 ⟨rfl, b5⟩
    replace v3 := rt v3 b5.1
    replace u3 := rt u3 b5.1
    replace r3 := rt r3 b5.1
    replace b5 := bt b4 b5.1
    clear c0 c1 c2 c3 c4 c5 d0 d1 d2 d3 d4 d5 v0 u0
    obtain ⟨c3, c4, c5⟩ := row3 v3
    obtain ⟨d3, d4, d5⟩ := row3 u3
    go_wp2_with fail
    refine (eqV_any j3 j4 j5 i3 i4 i5 _).mono ?_
    rintro _ W6 ⟨rfl, b6⟩
    replace r3 := rt r3 b6.1
    replace b6 := bt b5 b6.1
    clear c3 c4 c5 d3 d4 d5 v3 u3
    go_wp2_with fail
    (go_at_call 10; refine Calls.mono (toB_any _ hn (H.out.below b6)) ?_; rintro _ W7 ⟨rfl, b7, r7⟩)
    replace r3 := rt r3 b7
    replace b7 := bt b6 b7
    go_wp2_with fail
    (go_at_call 12; refine (eqRow hn r3 r7 HI.out HI.out).mono ?_; rintro _ W8 ⟨rfl, b8⟩)
    replace b8 := bt b7 b8
    go_wp2_with fail
    go_ret
    exact ⟨rfl, b8⟩
  · have hl : 1048576 < n := by omega
    clear h hw
    go_enter Try.func6, Try.ntmps6
    go_wp2_with (go_at_call 8; refine (szB_out _ _ _ _ hl hm).mono ?_; rintro eq wq ⟨rfl, rfl⟩)
    go_ret
    exact ⟨rfl, Below.refl _ _⟩
end Go.Proofs.Ytkhinppmldodiaa
