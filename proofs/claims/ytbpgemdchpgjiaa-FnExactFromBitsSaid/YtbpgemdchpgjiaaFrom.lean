/-
  The number with some bits, of the program and of the model. No condition.
-/
import Derived.Test.YtbpgemdchpgjiaaFin
namespace Go.Proofs.Ytbpgemdchpgjiaa
open Go.RowKit

theorem fromSpec_in (n : Int) (h0 : 0 ≤ n) (h1 : n ≤ 4294967295) (w : World) :
    Calls Try.prog 13 #[.int .i64 n] w (RetV (.tuple #[.float .f32 n.toNat, .bool true]) w) := by
  have hf := f32from
  go_enter Try.func13, Try.ntmps13
  go_wp2
  go_ret2
  exact RetV.mk0

theorem fromImpl_in (n : Int) (h0 : 0 ≤ n) (h1 : n ≤ 4294967295) (w : World) :
    Calls Try.prog 14 #[.int .i64 n] w (RetV (.tuple #[.float .f32 n.toNat, .bool true]) w) := by
  have hf := f32from
  go_enter Try.func14, Try.ntmps14
  go_wp2
  go_ret2
  exact RetV.mk0

theorem fromSpec_out (n : Int) (h : n < 0 ∨ 4294967295 < n) (w : World) :
    Calls Try.prog 13 #[.int .i64 n] w (RetV (.tuple #[.float .f32 0, .bool false]) w) := by
  rcases h with h | h
  · go_enter Try.func13, Try.ntmps13
    go_wp2
    go_ret2
    exact RetV.mk0
  · have h0 : 0 ≤ n := by omega
    have hd : decide (n ≤ 4294967295) = false := by simp; omega
    go_enter Try.func13, Try.ntmps13
    go_wp2
    go_ret2
    exact RetV.mk0

theorem fromImpl_out (n : Int) (h : n < 0 ∨ 4294967295 < n) (w : World) :
    Calls Try.prog 14 #[.int .i64 n] w (RetV (.tuple #[.float .f32 0, .bool false]) w) := by
  rcases h with h | h
  · go_enter Try.func14, Try.ntmps14
    go_wp2
    go_ret2
    exact RetV.mk0
  · have h0 : 0 ≤ n := by omega
    have hd : decide (n ≤ 4294967295) = false := by simp; omega
    go_enter Try.func14, Try.ntmps14
    go_wp2
    go_ret2
    exact RetV.mk0

theorem walk_FnExactFromBits (n : Int) (w : World) (_hn : (Lit.int .i64 n).wf = true) :
    Calls Try.prog 6 #[.int .i64 n] w fun e w' => e = .returned (.bool true) ∧ Below w.heap.size w w' := by
  by_cases h : 0 ≤ n ∧ n ≤ 4294967295
  · obtain ⟨h0, h1⟩ := h
    have ix : Is .f32 n.toNat (nrm .f32 n.toNat) := Is.self (by show n.toNat < 4294967296; omega)
    go_enter Try.func6, Try.ntmps6
    go_wp2_with (first | (apply wpList_wide und32 Try.underlying29; rfl; rfl; (first | assumption | exact is_lit64 _ (by decide) | exact is_lit32 _ (by decide)); intro Kq hKq rq nq hq; go_simp) | (go_at_call 13; refine (fromSpec_in n h0 h1 _).mono ?_; rintro eq wq ⟨nq, rfl, rfl⟩) | (go_at_call 14; refine (fromImpl_in n h0 h1 _).mono ?_; rintro eq wq ⟨nq, rfl, rfl⟩) | (go_at_call 15; refine (sameFloat_any (by assumption) (by assumption) _).mono ?_; rintro eq wq ⟨nq, rfl, rfl⟩))
    go_ret
    exact ⟨rfl, below_drewN (Below.refl _ _) _⟩
  · have h' : n < 0 ∨ 4294967295 < n := by omega
    go_enter Try.func6, Try.ntmps6
    go_wp2_with (first | (apply wpList_wide und32 Try.underlying29; rfl; rfl; (first | assumption | exact is_lit64 _ (by decide) | exact is_lit32 _ (by decide)); intro Kq hKq rq nq hq; go_simp) | (go_at_call 13; refine (fromSpec_out n h' _).mono ?_; rintro eq wq ⟨nq, rfl, rfl⟩) | (go_at_call 14; refine (fromImpl_out n h' _).mono ?_; rintro eq wq ⟨nq, rfl, rfl⟩) | (go_at_call 15; refine (sameFloat_any (by assumption) (by assumption) _).mono ?_; rintro eq wq ⟨nq, rfl, rfl⟩))
    go_ret
    exact ⟨rfl, below_drewN (Below.refl _ _) _⟩
end Go.Proofs.Ytbpgemdchpgjiaa
