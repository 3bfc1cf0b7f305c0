/-
  For every list of numbers the law's text on sums returns true, and writes nothing that was there. No condition.
-/
import Derived.Test.YtbpgemdchpgjiadEqF
namespace Go.Proofs.Ytbpgemdchpgjiad
open Go.RowKit

theorem RowF.below {w W : World} {a : Option Addr} {n : Nat} {f : Nat → Nat} (h : RowF w a n f) (hb : Below w.heap.size w W) : RowF W a n f := by
  rcases h with h | ⟨b, off, rfl, hlt, hr⟩
  · exact .inl h
  · exact .inr ⟨b, off, rfl, Nat.lt_of_lt_of_le hlt hb.size, fun i hi => (hb.cell (p := ⟨b, off + i, none⟩) hlt).trans (hr i hi)⟩

theorem arrK_row (f : Nat → Nat) (n i : Nat) (h : i < n) : (arrK f n n)[i]? = some (.float .f32 (f i)) := by rw [arrK_get f n n i h, if_pos h]

set_option maxHeartbeats 1600000 in
theorem walk_FnExactSumNumbers (a : Option Addr) (n cap : Nat) (f : Nat → Nat) (w : World) (hw : ∀ i, i < n → f i < 2 ^ 32) (h : RowF w a n f) :
    Calls Try.prog 3 #[.slice a n cap] w fun e w' => e = .returned (.bool true) ∧ Below w.heap.size w w' := by
  by_cases hn : n ≤ 1048576
  · have hn' : decide (1048576 < ((n : Nat) : Int)) = false := by simp; omega
    have hrow := arrK_row f n
    by_cases h2 : n ≤ 256
    · go_enter Try.func3, Try.ntmps3
      go_wp2_with (first | (apply wpList_wide und32 Try.underlying28; rfl; rfl; (first | assumption | exact is_lit64 _ (by decide) | exact is_lit32 _ (by decide)); intro Kq hKq rq nq hq; go_simp) | (go_at_call 6; refine Calls.mono (toF_any cap hn (h.below ?_)) ?_; (· repeat' (first | exact Below.refl _ _ | refine below_drewN ?_ _ | refine Below.trans ?_ (Below.mono (Grow.below (by assumption)) (by first | (simp; done) | (simp [*]; done) | (simp [*]; omega) | omega)) | refine Below.setCell ?_ (by first | (simp; done) | (simp [*]; done) | (simp [*]; omega) | omega) _ | refine Below.alloc ?_ (by first | (simp; done) | (simp [*]; done) | (simp [*]; omega) | omega) _)); rintro eq wq ⟨rfl, rfl⟩) | (go_at_call 5; refine Calls.mono (specSumN _ _ n n f _ h2 hw ?_) ?_; (· (intro i hi; go_simp)); rintro eq wq ⟨rq, nq, rfl, hq, rfl⟩) | (go_at_call 7; refine Calls.mono (implSumN _ _ n n f _ h2 hw ?_) ?_; (· (intro i hi; go_simp)); rintro eq wq ⟨rq, nq, rfl, hq, rfl⟩) | (go_at_call 8; refine (sameFloat_any (by assumption) (by assumption) _).mono ?_; rintro eq wq ⟨nq, rfl, rfl⟩) | (go_at_call 9; refine Calls.mono (eqF _ _ n _ _ n n f _ hn hw ?_ ?_) ?_; (· (intro i hi; go_simp)); (· (intro i hi; go_simp)); rintro eq wq ⟨nq, rfl, rfl⟩))

      go_ret
      refine ⟨rfl, ?_⟩
      repeat' (first | exact Below.refl _ _ | refine below_drewN ?_ _ | refine Below.trans ?_ (Below.mono (Grow.below (by assumption)) (by first | (simp; done) | (simp [*]; done) | (simp [*]; omega) | omega)) | refine Below.setCell ?_ (by first | (simp; done) | (simp [*]; done) | (simp [*]; omega) | omega) _ | refine Below.alloc ?_ (by first | (simp; done) | (simp [*]; done) | (simp [*]; omega) | omega) _)
    · have h2' : 256 < n := by omega
      go_enter Try.func3, Try.ntmps3
      go_wp2_with (first | (apply wpList_wide und32 Try.underlying28; rfl; rfl; (first | assumption | exact is_lit64 _ (by decide) | exact is_lit32 _ (by decide)); intro Kq hKq rq nq hq; go_simp) | (go_at_call 6; refine Calls.mono (toF_any cap hn (h.below ?_)) ?_; (· repeat' (first | exact Below.refl _ _ | refine below_drewN ?_ _ | refine Below.trans ?_ (Below.mono (Grow.below (by assumption)) (by first | (simp; done) | (simp [*]; done) | (simp [*]; omega) | omega)) | refine Below.setCell ?_ (by first | (simp; done) | (simp [*]; done) | (simp [*]; omega) | omega) _ | refine Below.alloc ?_ (by first | (simp; done) | (simp [*]; done) | (simp [*]; omega) | omega) _)); rintro eq wq ⟨rfl, rfl⟩) | (go_at_call 5; refine (specSumN_out _ _ _ _ _ h2').mono ?_; rintro eq wq ⟨rfl, rfl⟩) | (go_at_call 7; refine (implSumN_out _ _ _ _ _ h2').mono ?_; rintro eq wq ⟨rfl, rfl⟩) | (go_at_call 8; refine (sameFloat_any (by assumption) (by assumption) _).mono ?_; rintro eq wq ⟨nq, rfl, rfl⟩) | (go_at_call 9; refine Calls.mono (eqF _ _ n _ _ n n f _ hn hw ?_ ?_) ?_; (· (intro i hi; go_simp)); (· (intro i hi; go_simp)); rintro eq wq ⟨nq, rfl, rfl⟩))
      go_ret
      refine ⟨rfl, ?_⟩
      repeat' (first | exact Below.refl _ _ | refine below_drewN ?_ _ | refine Below.trans ?_ (Below.mono (Grow.below (by assumption)) (by first | (simp; done) | (simp [*]; done) | (simp [*]; omega) | omega)) | refine Below.setCell ?_ (by first | (simp; done) | (simp [*]; done) | (simp [*]; omega) | omega) _ | refine Below.alloc ?_ (by first | (simp; done) | (simp [*]; done) | (simp [*]; omega) | omega) _)
  · have hn' : decide (1048576 < ((n : Nat) : Int)) = true := by simp; omega
    go_enter Try.func3, Try.ntmps3
    go_wp2_with fail
    go_ret
    exact ⟨rfl, Below.refl _ _⟩
end Go.Proofs.Ytbpgemdchpgjiad
