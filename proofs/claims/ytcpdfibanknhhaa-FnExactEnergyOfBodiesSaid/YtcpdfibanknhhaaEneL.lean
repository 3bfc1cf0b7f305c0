/-
  The energy of bodies: for every list and every number the law's text returns true, and writes nothing that was there. No condition.
-/
import Derived.Test.YtcpdfibanknhhaaEneI
import Derived.Test.YtcpdfibanknhhaaEneS
import Derived.Test.YtcpdfibanknhhaaGood
namespace Go.Proofs.Ytcpdfibanknhhaa
open Go.RowKit

set_option maxHeartbeats 1600000 in
theorem walk_FnExactEnergyOfBodies (a : Option Addr) (n cap : Nat) (f : Nat → Nat) (x : Nat) (w : World) (hg : GoodBd w a n f) (hx : x < 2 ^ 32) :
    Calls Try.prog 3 #[.slice a n cap, .float .f32 x] w fun e w' => e = .returned (.bool true) ∧ Below w.heap.size w w' := by
  obtain ⟨hw, hm, h⟩ := hg
  have ix := Is.self (k := .f32) hx
  by_cases hn : n ≤ 1048576
  · have hl : decide (1048576 - (n : Int) < 0) = false := by simp; omega
    have hi : ∀ i, i < 7 * n → Is .f32 (f i) (nrm .f32 (f i)) := fun i h => Is.self (hw i h)
    have H := Lib.hid h
    have HI := Lib.hid hi
    clear h hi hw
    go_enter Try.func3, Try.ntmps3
    go_wp2_with (go_at_call 5; refine (szB _ _ _ _ hn).mono ?_; rintro eq wq ⟨rfl, rfl⟩)
    have b0 := Below.refl wq.heap.size wq
    (go_at_call 7; refine Calls.mono (toB_any _ hn (H.out.below b0)) ?_; rintro _ W1 ⟨rfl, b1, r1⟩)
    go_wp2_with fail
    (go_at_call 6; refine (sEne _ 0 n x f (fun i => nrm .f32 (f i)) _ W1 hn r1.lt (rowCells r1) HI.out ix).mono ?_; rintro _ W2 ⟨⟨s1, rfl, hs1⟩, b2⟩)
    replace b2 := bt b1 b2
    go_wp2_with fail
    (go_at_call 7; refine Calls.mono (toB_any _ hn (H.out.below b2)) ?_; rintro _ W3 ⟨rfl, b3, r3⟩)
    replace b3 := bt b2 b3
    go_wp2_with fail
    (go_at_call 8; refine (iEne _ 0 n x f (fun i => nrm .f32 (f i)) _ W3 hn r3.lt (rowCells r3) HI.out ix).mono ?_; rintro _ W4 ⟨⟨s2, rfl, hs2⟩, b4⟩)
    replace r3 := rt r3 b4
    replace b4 := bt b3 b4
    generalize enN (fun i => nrm .f32 (f i)) (nrm .f32 x) n = N at *
    generalize enOk (fun i => nrm .f32 (f i)) (nrm .f32 x) n = K at *
    have b4' : ∀ q, Below wq.heap.size wq (W4.drewN q) := fun q => below_drewN b4 q
    have r3' := fun q => rt r3 (below_drewN (Below.refl W4.heap.size W4) q)
    have B4 := Lib.hid b4'
    have R3 := Lib.hid r3'
    clear b4' r3' r3 b4
    go_wp2_with (first | (apply wpList_wide und32 Try.underlying30; rfl; rfl; (first | assumption | exact is_lit64 _ (by decide) | exact is_lit32 _ (by decide)); intro Kq hKq rq nq hq; go_simp) | (go_at_call 9; refine (sameFloat_any (by assumption) (by assumption) _).mono ?_; rintro eq wq ⟨nq, rfl, rfl⟩))
    (go_at_call 7; refine Calls.mono (toB_any _ hn (H.out.below (B4.out _))) ?_; rintro _ W5 ⟨rfl, b5, r5⟩)
    have r3 := rt (R3.out _) b5
    replace b5 := bt (B4.out _) b5
    go_wp2_with fail
    (go_at_call 10; refine (eqRow hn r3 r5 HI.out HI.out).mono ?_; rintro _ W6 ⟨rfl, b6⟩)
    replace b6 := bt b5 b6
    go_wp2_with fail
    go_ret
    exact ⟨rfl, b6⟩
  · have hl : 1048576 < n := by omega
    clear h hw
    go_enter Try.func3, Try.ntmps3
    go_wp2_with (go_at_call 5; refine (szB_out _ _ _ _ hl hm).mono ?_; rintro eq wq ⟨rfl, rfl⟩)
    go_ret
    exact ⟨rfl, Below.refl _ _⟩
end Go.Proofs.Ytcpdfibanknhhaa
