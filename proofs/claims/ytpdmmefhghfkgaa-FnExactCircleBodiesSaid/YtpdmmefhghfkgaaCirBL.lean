/-
  For every three numbers the law's text on two bodies that go in circles returns true, and writes nothing that was there. No condition.
-/
import Derived.Test.YtpdmmefhghfkgaaCirB
import Derived.Test.YtpdmmefhghfkgaaGood
namespace Go.Proofs.Ytpdmmefhghfkgaa
open Go.RowKit

set_option maxHeartbeats 1600000 in
theorem walk_FnExactCircleBodies (a b c : Nat) (w : World) (ka : a < 2 ^ 32) (kb : b < 2 ^ 32) (kc : c < 2 ^ 32) :
    Calls Try.prog 3 #[.float .f32 a, .float .f32 b, .float .f32 c] w fun e w' => e = .returned (.bool true) ∧ Below w.heap.size w w' := by
  have ia := Is.self (k := .f32) ka
  have ib := Is.self (k := .f32) kb
  have ic := Is.self (k := .f32) kc
  have SP := fun W => sCirB ia ib ic W
  have IM := fun W => iCirB ia ib ic W
  clear ia ib ic
  generalize cbV (nrm .f32 a) (nrm .f32 b) (nrm .f32 c) = u at SP IM
  generalize cbOk (nrm .f32 a) (nrm .f32 b) (nrm .f32 c) = ok at SP IM
  go_enter Try.func3, Try.ntmps3
  go_wp2_with (go_at_call 5; refine (SP _).mono ?_; rintro _ W2 ⟨⟨vw, rfl, hw⟩, b2⟩)
  have hS2 := b2.size
  go_wp2_with fail
  (go_at_call 6; refine (IM _).mono ?_; rintro _ W4 ⟨⟨vg, rfl, hg⟩, b4⟩)
  replace hw := hw.step b4
  have hS4 := b4.size
  replace b4 := bt b2 b4
  have hM : (if ok then 2 else 0) ≤ 1048576 := by split <;> decide
  generalize hMe : (if ok then 2 else 0) = M at hw hg hM
  have hl2 : decide (1 + 7 * (M : Int) < 0) = false := by simp; omega
  go_wp2_with fail
  (go_at_call 7; refine (eqOk hM hg hw).mono ?_; rintro _ W5 ⟨rfl, b5⟩)
  replace hw := hw.step b5
  replace hg := hg.step b5
  replace b5 := bt b4 b5
  go_wp2_with fail
  (go_at_call 8; refine (markOk hM hS4 hg).mono ?_; rintro _ W10 ⟨rfl, hk, bb, hbb, ht⟩)
  replace hw := hw.touch ht (.inr (by omega))
  have b10 : Below w.heap.size w W10 := b5.trans (ht.below (by omega))
  clear ht
  go_wp2_with (go_at_call 9; refine (heldOk hM hk).mono ?_; rintro _ _ ⟨n1, rfl, rfl⟩)
  replace hw := hw.heap (W := W10.drewN n1) rfl
  replace hk := hk.heap (W := W10.drewN n1) rfl
  replace b10 := below_drewN b10 n1
  go_wp2_with fail
  (go_at_call 6; refine (IM _).mono ?_; rintro _ W12 ⟨⟨vh, rfl, hh⟩, b12⟩)
  replace hw := hw.step b12
  replace hk := hk.step b12
  replace b12 := bt b10 b12
  rw [hMe] at hh
  go_wp2_with fail
  (go_at_call 7; refine (eqOk hM hh hw).mono ?_; rintro _ W13 ⟨rfl, b13⟩)
  replace hk := hk.step b13
  replace b13 := bt b12 b13
  go_wp2_with (go_at_call 9; refine (heldOk hM hk).mono ?_; rintro _ _ ⟨n2, rfl, rfl⟩)
  go_ret
  exact ⟨rfl, below_drewN b13 n2⟩
end Go.Proofs.Ytpdmmefhghfkgaa
