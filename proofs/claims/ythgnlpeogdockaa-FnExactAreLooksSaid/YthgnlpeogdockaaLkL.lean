/-
  For every list the law's text on what a list of looks is returns true, and writes nothing that was there. No condition.
-/
import Derived.Test.YthgnlpeogdockaaLkA
namespace Go.Proofs.Ythgnlpeogdockaa
open Go.RowKit

theorem specAreK (b off n cap : Nat) (f : Nat → Nat) (v : Nat → Option Nat) (w : World) (hn : n ≤ 1048576) (hb : b < w.heap.size) (hr : ∀ i, i < 5 * n → w.cell? ⟨b, off + i, none⟩ = some (.float .f32 (f i))) (hv : ∀ i, i < 5 * n → Is .f32 (f i) (v i)) :
    Calls Try.prog 11 #[.slice (some ⟨b, off, none⟩) n cap] w fun e w' => e = .returned (.bool (areK v n)) ∧ Below w.heap.size w w' := by
  have HC := sAreK b off n cap f v w hn hb hr hv
  clear hr hv
  go_enter Try.func11, Try.ntmps11
  go_wp2_with (go_at_call 34; refine HC.mono ?_; rintro eq wq ⟨rfl, hb⟩)
  go_ret
  exact ⟨rfl, hb⟩

set_option maxHeartbeats 1600000 in
theorem walk_FnExactAreLooks (a : Option Addr) (n cap : Nat) (f : Nat → Nat) (w : World) (hg : GoodLk w a n f) :
    Calls Try.prog 3 #[.slice a n cap] w fun e w' => e = .returned (.bool true) ∧ Below w.heap.size w w' := by
  obtain ⟨hw, hm, h⟩ := hg
  by_cases hn : n ≤ 1048576
  · have hl : decide (1048576 - (n : Int) < 0) = false := by simp; omega
    have hi : ∀ i, i < 5 * n → Is .f32 (f i) (nrm .f32 (f i)) := fun i h => Is.self (hw i h)
    have H := Lib.hid h
    have HI := Lib.hid hi
    clear h hi hw
    go_enter Try.func3, Try.ntmps3
    go_wp2_with (go_at_call 10; refine (szK _ _ _ _ _ (by omega) (by omega)).mono ?_; rintro eq wq ⟨rfl, rfl⟩)
    have b0 := Below.refl wq.heap.size wq
    (go_at_call 12; refine Calls.mono (toK_any _ hn (H.out.below b0)) ?_; rintro _ W1 ⟨rfl, b1, r1⟩)
    go_wp2_with fail
    (go_at_call 11; refine (specAreK _ 0 n n f _ W1 hn r1.lt (rowCells r1) HI.out).mono ?_; rintro _ W2 ⟨rfl, b2⟩)
    replace b2 := bt b1 b2
    go_wp2_with fail
    (go_at_call 12; refine Calls.mono (toK_any _ hn (H.out.below b2)) ?_; rintro _ W3 ⟨rfl, b3, r3⟩)
    replace b3 := bt b2 b3
    go_wp2_with fail
    (go_at_call 13; refine (iAreK _ 0 n n f _ W3 hn r3.lt (rowCells r3) HI.out).mono ?_; rintro _ W4 ⟨rfl, b4⟩)
    replace r3 := rt r3 b4
    replace b4 := bt b3 b4
    go_wp2_with fail
    (go_at_call 12; refine Calls.mono (toK_any _ hn (H.out.below b4)) ?_; rintro _ W5 ⟨rfl, b5, r5⟩)
    replace r3 := rt r3 b5
    replace b5 := bt b4 b5
    go_wp2_with fail
    (go_at_call 14; refine (eqRowK hn r3 r5 HI.out HI.out).mono ?_; rintro _ W6 ⟨rfl, b6⟩)
    replace b6 := bt b5 b6
    go_wp2_with fail
    go_ret
    exact ⟨rfl, b6⟩
  · have hl : 1048576 < n := by omega
    clear h hw
    go_enter Try.func3, Try.ntmps3
    go_wp2_with (go_at_call 10; refine (szK_out _ _ _ _ _ (by omega) (by omega) hm).mono ?_; rintro eq wq ⟨rfl, rfl⟩)
    go_ret
    exact ⟨rfl, Below.refl _ _⟩
end Go.Proofs.Ythgnlpeogdockaa
