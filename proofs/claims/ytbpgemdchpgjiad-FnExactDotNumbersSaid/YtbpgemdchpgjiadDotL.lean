/-
  For every two lists of numbers the law's text on sums of products returns true, and writes nothing that was there. No condition.
-/
import Derived.Test.YtbpgemdchpgjiadDot
namespace Go.Proofs.Ytbpgemdchpgjiad
open Go.RowKit

set_option maxHeartbeats 3200000 in
theorem walk_ok (a : Option Addr) (n cap : Nat) (f : Nat → Nat) (a' : Option Addr) (cap' : Nat) (f' : Nat → Nat) (w : World) (hn : n ≤ 1048576) (h2 : n ≤ 256) (hw : ∀ i, i < n → f i < 2 ^ 32) (h : RowF w a n f) (hw' : ∀ i, i < n → f' i < 2 ^ 32) (h' : RowF w a' n f') :
    Calls Try.prog 4 #[.slice a n cap, .slice a' n cap'] w fun e w' => e = .returned (.bool true) ∧ Below w.heap.size w w' := by
  have hd : decide (1048576 < ((n : Nat) : Int)) = false := by simp; omega
  have hrow := arrK_row f n
  have hrow' := arrK_row f' n
  go_enter Try.func4, Try.ntmps4
  go_wp2_with (first | (go_at_call_of 6 cap; refine Calls.mono (toF_any cap hn (h.below ?_)) ?_; (· repeat' (first | exact Below.refl _ _ | refine below_drewN ?_ _ | refine Below.trans ?_ (Below.mono (Grow.below (by assumption)) (by first | (simp; done) | (simp [*]; done) | (simp [*]; omega) | omega)) | refine Below.setCell ?_ (by first | (simp; done) | (simp [*]; done) | (simp [*]; omega) | omega) _ | refine Below.alloc ?_ (by first | (simp; done) | (simp [*]; done) | (simp [*]; omega) | omega) _)); rintro eq wq ⟨rfl, rfl⟩) | (go_at_call_of 6 cap'; refine Calls.mono (toF_any cap' hn (h'.below ?_)) ?_; (· repeat' (first | exact Below.refl _ _ | refine below_drewN ?_ _ | refine Below.trans ?_ (Below.mono (Grow.below (by assumption)) (by first | (simp; done) | (simp [*]; done) | (simp [*]; omega) | omega)) | refine Below.setCell ?_ (by first | (simp; done) | (simp [*]; done) | (simp [*]; omega) | omega) _ | refine Below.alloc ?_ (by first | (simp; done) | (simp [*]; done) | (simp [*]; omega) | omega) _)); rintro eq wq ⟨rfl, rfl⟩) | (apply wpList_wide und32 Try.underlying28; rfl; rfl; (first | assumption | exact is_lit64 _ (by decide) | exact is_lit32 _ (by decide)); intro Kq hKq rq nq hq; go_simp) | (go_at_call 10; refine Calls.mono (specDotN _ _ n _ _ n n f f' _ h2 hw hw' ?_ ?_) ?_; (· (intro i hi; go_simp)); (· (intro i hi; go_simp)); rintro eq wq ⟨rq, nq, rfl, hq, rfl⟩) | (go_at_call 11; refine Calls.mono (implDotN _ _ n _ _ n n f f' _ h2 hw hw' ?_ ?_) ?_; (· (intro i hi; go_simp)); (· (intro i hi; go_simp)); rintro eq wq ⟨rq, nq, rfl, hq, rfl⟩) | (go_at_call 8; refine (sameFloat_any (by assumption) (by assumption) _).mono ?_; rintro eq wq ⟨nq, rfl, rfl⟩) | (go_at_call 9; refine Calls.mono (eqF _ _ n _ _ n n f _ hn hw ?_ ?_) ?_; (· (intro i hi; go_simp; done)); (· (intro i hi; go_simp; done)); rintro eq wq ⟨nq, rfl, rfl⟩) | (go_at_call 9; refine Calls.mono (eqF _ _ n _ _ n n f' _ hn hw' ?_ ?_) ?_; (· (intro i hi; go_simp; done)); (· (intro i hi; go_simp; done)); rintro eq wq ⟨nq, rfl, rfl⟩))
  go_ret
  refine ⟨rfl, ?_⟩
  repeat' (first | exact Below.refl _ _ | refine below_drewN ?_ _ | refine Below.trans ?_ (Below.mono (Grow.below (by assumption)) (by first | (simp; done) | (simp [*]; done) | (simp [*]; omega) | omega)) | refine Below.setCell ?_ (by first | (simp; done) | (simp [*]; done) | (simp [*]; omega) | omega) _ | refine Below.alloc ?_ (by first | (simp; done) | (simp [*]; done) | (simp [*]; omega) | omega) _)

set_option maxHeartbeats 3200000 in
theorem walk_no (a : Option Addr) (n cap : Nat) (f : Nat → Nat) (a' : Option Addr) (n' cap' : Nat) (f' : Nat → Nat) (w : World) (hn : n ≤ 1048576) (hn' : n' ≤ 1048576) (h2 : 256 < n ∨ n ≠ n') (hw : ∀ i, i < n → f i < 2 ^ 32) (h : RowF w a n f) (hw' : ∀ i, i < n' → f' i < 2 ^ 32) (h' : RowF w a' n' f') :
    Calls Try.prog 4 #[.slice a n cap, .slice a' n' cap'] w fun e w' => e = .returned (.bool true) ∧ Below w.heap.size w w' := by
  have hd : decide (1048576 < ((n : Nat) : Int)) = false := by simp; omega
  have hd' : decide (1048576 < ((n' : Nat) : Int)) = false := by simp; omega
  have hrow := arrK_row f n
  have hrow' := arrK_row f' n'
  go_enter Try.func4, Try.ntmps4
  go_wp2_with (first | (go_at_call_of 6 cap; refine Calls.mono (toF_any cap hn (h.below ?_)) ?_; (· repeat' (first | exact Below.refl _ _ | refine below_drewN ?_ _ | refine Below.trans ?_ (Below.mono (Grow.below (by assumption)) (by first | (simp; done) | (simp [*]; done) | (simp [*]; omega) | omega)) | refine Below.setCell ?_ (by first | (simp; done) | (simp [*]; done) | (simp [*]; omega) | omega) _ | refine Below.alloc ?_ (by first | (simp; done) | (simp [*]; done) | (simp [*]; omega) | omega) _)); rintro eq wq ⟨rfl, rfl⟩) | (go_at_call_of 6 cap'; refine Calls.mono (toF_any cap' hn' (h'.below ?_)) ?_; (· repeat' (first | exact Below.refl _ _ | refine below_drewN ?_ _ | refine Below.trans ?_ (Below.mono (Grow.below (by assumption)) (by first | (simp; done) | (simp [*]; done) | (simp [*]; omega) | omega)) | refine Below.setCell ?_ (by first | (simp; done) | (simp [*]; done) | (simp [*]; omega) | omega) _ | refine Below.alloc ?_ (by first | (simp; done) | (simp [*]; done) | (simp [*]; omega) | omega) _)); rintro eq wq ⟨rfl, rfl⟩) | (apply wpList_wide und32 Try.underlying28; rfl; rfl; (first | assumption | exact is_lit64 _ (by decide) | exact is_lit32 _ (by decide)); intro Kq hKq rq nq hq; go_simp) | (go_at_call 10; refine (specDotN_out _ _ _ _ _ _ _ _ _ h2).mono ?_; rintro eq wq ⟨rfl, rfl⟩) | (go_at_call 11; refine (implDotN_out _ _ _ _ _ _ _ _ _ h2).mono ?_; rintro eq wq ⟨rfl, rfl⟩) | (go_at_call 8; refine (sameFloat_any (by assumption) (by assumption) _).mono ?_; rintro eq wq ⟨nq, rfl, rfl⟩) | (go_at_call_of 9 n'; refine Calls.mono (eqF _ _ n' _ _ n' n' f' _ hn' hw' ?_ ?_) ?_; (· (intro i hi; go_simp; done)); (· (intro i hi; go_simp; done)); rintro eq wq ⟨nq, rfl, rfl⟩) | (go_at_call 9; refine Calls.mono (eqF _ _ n _ _ n n f _ hn hw ?_ ?_) ?_; (· (intro i hi; go_simp; done)); (· (intro i hi; go_simp; done)); rintro eq wq ⟨nq, rfl, rfl⟩))
  go_ret
  refine ⟨rfl, ?_⟩
  repeat' (first | exact Below.refl _ _ | refine below_drewN ?_ _ | refine Below.trans ?_ (Below.mono (Grow.below (by assumption)) (by first | (simp; done) | (simp [*]; done) | (simp [*]; omega) | omega)) | refine Below.setCell ?_ (by first | (simp; done) | (simp [*]; done) | (simp [*]; omega) | omega) _ | refine Below.alloc ?_ (by first | (simp; done) | (simp [*]; done) | (simp [*]; omega) | omega) _)

theorem walk_FnExactDotNumbers (a : Option Addr) (n cap : Nat) (f : Nat → Nat) (a' : Option Addr) (n' cap' : Nat) (f' : Nat → Nat) (w : World) (hw : ∀ i, i < n → f i < 2 ^ 32) (h : RowF w a n f) (hw' : ∀ i, i < n' → f' i < 2 ^ 32) (h' : RowF w a' n' f') :
    Calls Try.prog 4 #[.slice a n cap, .slice a' n' cap'] w fun e w' => e = .returned (.bool true) ∧ Below w.heap.size w w' := by
  by_cases hn : n ≤ 1048576
  · by_cases hn' : n' ≤ 1048576
    · by_cases h2 : 256 < n ∨ n ≠ n'
      · exact walk_no a n cap f a' n' cap' f' w hn hn' h2 hw h hw' h'
      · obtain rfl : n = n' := by omega
        exact walk_ok a n cap f a' cap' f' w hn (by omega) hw h hw' h'
    · have hd : decide (1048576 < ((n : Nat) : Int)) = false := by simp; omega
      have hd' : decide (1048576 < ((n' : Nat) : Int)) = true := by simp; omega
      go_enter Try.func4, Try.ntmps4
      go_wp2_with fail
      go_ret
      exact ⟨rfl, Below.refl _ _⟩
  · have hd : decide (1048576 < ((n : Nat) : Int)) = true := by simp; omega
    go_enter Try.func4, Try.ntmps4
    go_wp2_with fail
    go_ret
    exact ⟨rfl, Below.refl _ _⟩
end Go.Proofs.Ytbpgemdchpgjiad

