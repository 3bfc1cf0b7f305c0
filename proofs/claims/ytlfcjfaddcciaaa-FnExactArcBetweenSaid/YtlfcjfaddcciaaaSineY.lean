/-
  The sine of a number of turns, the walk of the model, and the law: for every number its text returns true, and writes nothing that was there. No condition.
-/
import Derived.Test.YtlfcjfaddcciaaaSineX
namespace Go.Proofs.Ytlfcjfaddcciaaa
open Go.RowKit

set_option maxRecDepth 100000 in
set_option maxHeartbeats 6400000 in
theorem specMainS {y : Nat} {n : Int} (iy : Is .f64 y (some y)) (hn : (FloatKind.f64.decode y).toInt .zero = some n) (hr : n.natAbs < 2 ^ 63)
    (n1 : cmpB .neq .f64 (fo .sub .f64 (some y) (some y)) (some 0) = false) (g1 : cmpB .geq .f64 (some y) (some 4841369599423283200) = false) (l1 : cmpB .leq .f64 (some y) (some 14064741636278059008) = false) (w : World) :
    Calls Try.prog 96 #[.float .f64 y] w (RetF .f64 (sinF (fo .sub .f64 (some y) (ifO n))) w) := by
  have h1 := one_is
  have h2 := q_is
  have h3 := h_is
  unfold sinF sinR
  obtain ⟨f, hf⟩ : ∃ f, f = up1 (fo .sub .f64 (some y) (ifO n)) := ⟨_, rfl⟩
  rw [← hf]
  obtain ⟨z, hz⟩ : ∃ z, z = fo .mul .f64 (low4 (low2 f)) (some 4618760256179416344) := ⟨_, rfl⟩
  rw [← hz]
  cases hl : cmpB .lss .f64 (fo .sub .f64 (some y) (ifO n)) (some 0) <;> cases ht : turnB f <;> cases hq : cmpB .gtr .f64 (low2 f) (some 4598175219545276416)
  all_goals
    have ht' := ht
    unfold turnB at ht'
    have L2 : low2 f = if turnB f then fo .sub .f64 f (some 4602678819172646912) else f := rfl
    rw [ht] at L2
    have L4 : low4 (low2 f) = if cmpB .gtr .f64 (low2 f) (some 4598175219545276416) then fo .sub .f64 (some 4602678819172646912) (low2 f) else low2 f := rfl
    rw [hq, L2] at L4
    rw [L2] at hq
    simp only [if_true, Bool.false_eq_true, if_false] at L2 L4 hq
    rw [L2, L4] at hz
    unfold up1 at hf
    rw [hl] at hf
    simp only [if_true, Bool.false_eq_true, if_false] at hf
    clear L2 L4
    subst hf
    have HZ := Lib.hid hz
    clear hz ht
    go_enter Try.func96, Try.ntmps96
    go_wp2_with (first | (apply wpList_cmp; rfl; simp [Cmp]; rfl; rfl; (first | assumption | exact is_lit64 _ (by decide) | exact is_lit32 _ (by decide)); (first | assumption | exact is_lit64 _ (by decide) | exact is_lit32 _ (by decide)); intro Kq hKq; go_simp) | (apply wpList_arith; rfl; simp [Arith]; rfl; rfl; (first | assumption | exact is_lit64 _ (by decide) | exact is_lit32 _ (by decide)); (first | assumption | exact is_lit64 _ (by decide) | exact is_lit32 _ (by decide)); intro Kq hKq rq nq hq; go_simp) | (apply wpList_ftoi; exact Try.underlying42; exact Try.underlying2; rfl; rfl; exact hn; exact hr; intro Kq hKq; go_simp) | (apply wpList_itof; exact Try.underlying2; exact Try.underlying42; rfl; rfl; intro Kq hKq rq hq; go_simp))
    rename_i hz2 _ _
    rw [← HZ.out] at hz2 hq
    go_loopw [7, 8] (fun t i wr => ∃ k r m : Nat, k ≤ 8 ∧ i = .int .i64 (8 - (k : Int)) ∧ t = .float .f64 r ∧ Is .f64 r (serS (fo .mul .f64 z z) k) ∧ wr = w.drewN m) (fun _ i _ => (intOf i).toNat)
    case atStart => exact ⟨0, _, _, Nat.zero_le _, rfl, rfl, h1, rfl⟩
    case round =>
      obtain ⟨k, r, m, hk, rfl, rfl, hs, rfl⟩ := hrel
      by_cases hlt : k < 8
      · have hwk := wrap_ser k hlt
        go_wp2_with (first | (apply wpList_arith; rfl; simp [Arith]; rfl; rfl; (first | assumption | exact is_lit64 _ (by decide) | exact is_lit32 _ (by decide)); (first | assumption | exact is_lit64 _ (by decide) | exact is_lit32 _ (by decide)); intro Kq hKq rq nq hq; go_simp) | (apply wpList_itof; exact Try.underlying3; exact Try.underlying42; rfl; rfl; intro Kq hKq rq hq; rw [hwk] at hq; go_simp))
        go_roundw
        case rel => exact ⟨k + 1, _, _, by omega, by go_num, rfl, by assumption, rfl⟩
        case measure => simp [intOf]; omega
      · have hkn : k = 8 := by omega
        subst hkn
        go_wp2_with (first | (apply wpList_cmp; rfl; simp [Cmp]; rfl; rfl; (first | assumption | exact is_lit64 _ (by decide) | exact is_lit32 _ (by decide)); (first | assumption | exact is_lit64 _ (by decide) | exact is_lit32 _ (by decide)); intro Kq hKq; go_simp) | (apply wpList_arith; rfl; simp [Arith]; rfl; rfl; (first | assumption | exact is_lit64 _ (by decide) | exact is_lit32 _ (by decide)); (first | assumption | exact is_lit64 _ (by decide) | exact is_lit32 _ (by decide)); intro Kq hKq rq nq hq; go_simp) | (apply wpList_neg; rfl; rfl; (first | assumption | exact is_lit64 _ (by decide) | exact is_lit32 _ (by decide)); intro Kq hKq rq hq; go_simp))
        go_ret
        exact ⟨_, _, rfl, by assumption, rfl⟩
end Go.Proofs.Ytlfcjfaddcciaaa
