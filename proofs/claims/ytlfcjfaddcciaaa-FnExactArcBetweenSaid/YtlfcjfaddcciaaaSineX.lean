/-
  The sine of a number of turns, the walks of the program and of the model. No condition.
-/
import Derived.Test.YtlfcjfaddcciaaaSineF
import Derived.Test.YtlfcjfaddcciaaaSame
namespace Go.Proofs.Ytlfcjfaddcciaaa
open Go.RowKit

theorem one_is : Is .f64 4607182418800017408 (some 4607182418800017408) := is_lit64 _ (by decide)
theorem q_is : Is .f64 4598175219545276416 (some 4598175219545276416) := is_lit64 _ (by decide)
theorem h_is : Is .f64 4602678819172646912 (some 4602678819172646912) := is_lit64 _ (by decide)
theorem nan_is (w : World) : Calls Try.prog 102 #[] w (RetF .f64 none w) := by
  have hf := f64from
  go_enter Try.func102, Try.ntmps102
  go_wp2
  go_ret
  exact ⟨_, 0, rfl, ⟨by decide, by decide⟩, rfl⟩

theorem part_any {x : Nat} {v : Option Nat} (ix : Is .f64 x v) (w : World) :
    Calls Try.prog 100 #[.float .f64 x] w (RetF .f64 (up1 (partO v)) w) := by
  have h1 := one_is
  cases hn : cmpB .neq .f64 (truncO v) (some 0) with
  | false =>
    have e : partO v = v := by unfold partO; rw [hn]; simp
    rw [e]
    clear e
    cases hl : cmpB .lss .f64 v (some 0) with
    | false =>
      have e : up1 v = v := by unfold up1; rw [hl]; simp
      rw [e]
      clear e
      go_enter Try.func100, Try.ntmps100
      go_wp2_with (first | (apply wpList_cmp; rfl; simp [Cmp]; rfl; rfl; (first | assumption | exact is_lit64 _ (by decide) | exact is_lit32 _ (by decide)); (first | assumption | exact is_lit64 _ (by decide) | exact is_lit32 _ (by decide)); intro Kq hKq; go_simp) | (apply wpList_arith; rfl; simp [Arith]; rfl; rfl; (first | assumption | exact is_lit64 _ (by decide) | exact is_lit32 _ (by decide)); (first | assumption | exact is_lit64 _ (by decide) | exact is_lit32 _ (by decide)); intro Kq hKq rq nq hq; go_simp) | (go_at_call 127; refine (trunc_any ix _).mono ?_; rintro eq wq ⟨rq, nq, rfl, hq, rfl⟩))
      go_ret
      exact ⟨_, _, rfl, by assumption, rfl⟩
    | true =>
      have e : up1 v = fo .add .f64 v (some 4607182418800017408) := by unfold up1; rw [hl]; simp
      rw [e]
      clear e
      go_enter Try.func100, Try.ntmps100
      go_wp2_with (first | (apply wpList_cmp; rfl; simp [Cmp]; rfl; rfl; (first | assumption | exact is_lit64 _ (by decide) | exact is_lit32 _ (by decide)); (first | assumption | exact is_lit64 _ (by decide) | exact is_lit32 _ (by decide)); intro Kq hKq; go_simp) | (apply wpList_arith; rfl; simp [Arith]; rfl; rfl; (first | assumption | exact is_lit64 _ (by decide) | exact is_lit32 _ (by decide)); (first | assumption | exact is_lit64 _ (by decide) | exact is_lit32 _ (by decide)); intro Kq hKq rq nq hq; go_simp) | (go_at_call 127; refine (trunc_any ix _).mono ?_; rintro eq wq ⟨rq, nq, rfl, hq, rfl⟩))
      go_ret
      exact ⟨_, _, rfl, by assumption, rfl⟩
  | true =>
    have e : partO v = fo .sub .f64 v (truncO v) := by unfold partO; rw [hn]; simp
    rw [e]
    clear e
    cases hl : cmpB .lss .f64 (fo .sub .f64 v (truncO v)) (some 0) with
    | false =>
      have e : up1 (fo .sub .f64 v (truncO v)) = fo .sub .f64 v (truncO v) := by unfold up1; rw [hl]; simp
      rw [e]
      clear e
      go_enter Try.func100, Try.ntmps100
      go_wp2_with (first | (apply wpList_cmp; rfl; simp [Cmp]; rfl; rfl; (first | assumption | exact is_lit64 _ (by decide) | exact is_lit32 _ (by decide)); (first | assumption | exact is_lit64 _ (by decide) | exact is_lit32 _ (by decide)); intro Kq hKq; go_simp) | (apply wpList_arith; rfl; simp [Arith]; rfl; rfl; (first | assumption | exact is_lit64 _ (by decide) | exact is_lit32 _ (by decide)); (first | assumption | exact is_lit64 _ (by decide) | exact is_lit32 _ (by decide)); intro Kq hKq rq nq hq; go_simp) | (go_at_call 127; refine (trunc_any ix _).mono ?_; rintro eq wq ⟨rq, nq, rfl, hq, rfl⟩))
      go_ret
      exact ⟨_, _, rfl, by assumption, rfl⟩
    | true =>
      have e : up1 (fo .sub .f64 v (truncO v)) = fo .add .f64 (fo .sub .f64 v (truncO v)) (some 4607182418800017408) := by unfold up1; rw [hl]; simp
      rw [e]
      clear e
      go_enter Try.func100, Try.ntmps100
      go_wp2_with (first | (apply wpList_cmp; rfl; simp [Cmp]; rfl; rfl; (first | assumption | exact is_lit64 _ (by decide) | exact is_lit32 _ (by decide)); (first | assumption | exact is_lit64 _ (by decide) | exact is_lit32 _ (by decide)); intro Kq hKq; go_simp) | (apply wpList_arith; rfl; simp [Arith]; rfl; rfl; (first | assumption | exact is_lit64 _ (by decide) | exact is_lit32 _ (by decide)); (first | assumption | exact is_lit64 _ (by decide) | exact is_lit32 _ (by decide)); intro Kq hKq rq nq hq; go_simp) | (go_at_call 127; refine (trunc_any ix _).mono ?_; rintro eq wq ⟨rq, nq, rfl, hq, rfl⟩))
      go_ret
      exact ⟨_, _, rfl, by assumption, rfl⟩

theorem wrap_ser : ∀ k : Nat, k < 8 → wrap64 (2 * (8 - (k : Int)) * (2 * (8 - (k : Int)) + 1)) = 2 * (8 - (k : Int)) * (2 * (8 - (k : Int)) + 1) := by decide +kernel

set_option maxRecDepth 100000 in
set_option maxHeartbeats 3200000 in
theorem sineOf_any {x : Nat} {v : Option Nat} (ix : Is .f64 x v) (w : World) :
    Calls Try.prog 82 #[.float .f64 x] w (RetF .f64 (sinF (partO v)) w) := by
  have h1 := one_is
  have h2 := q_is
  have h3 := h_is
  have HC := fun w => part_any ix w
  unfold sinF sinR
  generalize up1 (partO v) = f at HC ⊢
  obtain ⟨z, hz⟩ : ∃ z, z = fo .mul .f64 (low4 (low2 f)) (some 4618760256179416344) := ⟨_, rfl⟩
  rw [← hz]
  cases ht : turnB f <;> cases hq : cmpB .gtr .f64 (low2 f) (some 4598175219545276416)
  all_goals
    have ht' := ht
    unfold turnB at ht'
    have L2 : low2 f = if turnB f then fo .sub .f64 f (some 4602678819172646912) else f := rfl
    rw [ht] at L2
    have L4 : low4 (low2 f) = if cmpB .gtr .f64 (low2 f) (some 4598175219545276416) then fo .sub .f64 (some 4602678819172646912) (low2 f) else low2 f := rfl
    rw [hq, L2] at L4
    rw [L2] at hq
    simp only [if_true, Bool.false_eq_true, if_false] at L2 L4 hq
    rw [L2, L4] at hz
    have HZ := Lib.hid hz
    clear L2 L4 hz
    go_enter Try.func82, Try.ntmps82
    go_wp2_with (first | (apply wpList_cmp; rfl; simp [Cmp]; rfl; rfl; (first | assumption | exact is_lit64 _ (by decide) | exact is_lit32 _ (by decide)); (first | assumption | exact is_lit64 _ (by decide) | exact is_lit32 _ (by decide)); intro Kq hKq; go_simp) | (apply wpList_arith; rfl; simp [Arith]; rfl; rfl; (first | assumption | exact is_lit64 _ (by decide) | exact is_lit32 _ (by decide)); (first | assumption | exact is_lit64 _ (by decide) | exact is_lit32 _ (by decide)); intro Kq hKq rq nq hq; go_simp) | (go_at_call 100; refine (HC _).mono ?_; rintro eq wq ⟨rq, nq, rfl, hq', rfl⟩) | (go_at_call 101; go_in))
    rename_i hz2 _ _
    rw [← HZ.out] at hz2 hq
    go_loopw [7, 8] (fun t i wr => ∃ k r m : Nat, k ≤ 8 ∧ i = .int .i64 (8 - (k : Int)) ∧ t = .float .f64 r ∧ Is .f64 r (serS (fo .mul .f64 z z) k) ∧ wr = w.drewN m) (fun _ i _ => (intOf i).toNat)
    case atStart => exact ⟨0, _, _, Nat.zero_le _, rfl, rfl, h1, rfl⟩
    case round =>
      obtain ⟨k, r, m, hk, rfl, rfl, hs, rfl⟩ := hrel
      by_cases hlt : k < 8
      · have hwk := wrap_ser k hlt
        go_wp2_with (first | (apply wpList_arith; rfl; simp [Arith]; rfl; rfl; (first | assumption | exact is_lit64 _ (by decide) | exact is_lit32 _ (by decide)); (first | assumption | exact is_lit64 _ (by decide) | exact is_lit32 _ (by decide)); intro Kq hKq rq nq hq; go_simp) | (apply wpList_itof; exact Try.underlying2; exact Try.underlying42; rfl; rfl; intro Kq hKq rq hq; rw [hwk] at hq; go_simp))
        go_roundw
        case rel => exact ⟨k + 1, _, _, by omega, by go_num, rfl, by assumption, rfl⟩
        case measure => simp [intOf]; omega
      · have hkn : k = 8 := by omega
        subst hkn
        go_wp2_with (first | (apply wpList_cmp; rfl; simp [Cmp]; rfl; rfl; (first | assumption | exact is_lit64 _ (by decide) | exact is_lit32 _ (by decide)); (first | assumption | exact is_lit64 _ (by decide) | exact is_lit32 _ (by decide)); intro Kq hKq; go_simp) | (apply wpList_arith; rfl; simp [Arith]; rfl; rfl; (first | assumption | exact is_lit64 _ (by decide) | exact is_lit32 _ (by decide)); (first | assumption | exact is_lit64 _ (by decide) | exact is_lit32 _ (by decide)); intro Kq hKq rq nq hq; go_simp) | (apply wpList_neg; rfl; rfl; (first | assumption | exact is_lit64 _ (by decide) | exact is_lit32 _ (by decide)); intro Kq hKq rq hq; go_simp))
        go_ret
        exact ⟨_, _, rfl, by assumption, rfl⟩
end Go.Proofs.Ytlfcjfaddcciaaa
