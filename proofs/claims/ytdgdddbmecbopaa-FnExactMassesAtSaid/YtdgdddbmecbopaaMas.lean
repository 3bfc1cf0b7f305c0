/-
  The law's texts on shares and on the places of both masses: for every number they return true, and write nothing that was there. No condition.
-/
import Derived.Test.YtdgdddbmecbopaaShare
import Derived.OwnWalk
namespace Go.Proofs.Ytdgdddbmecbopaa
open Go.RowKit

theorem sIsShare {x : Nat} {v : Option Nat} (ix : Is .f32 x v) (w : World) : Calls Try.prog 5 #[.float .f32 x] w (RetV (.bool (shareB v)) w) := by
  go_enter Try.func5, Try.ntmps5
  go_wp2_with (go_at_call 10; refine (sShare (by assumption) _).mono ?_; rintro eq wq ⟨nq, rfl, rfl⟩)
  go_ret
  exact RetV.mk _

theorem walk_FnExactIsShare (a : Nat) (w : World) (k : a < 2 ^ 32) :
    Calls Try.prog 3 #[.float .f32 a] w fun e w' => e = .returned (.bool true) ∧ Below w.heap.size w w' := by
  have h := Is.self (k := .f32) k
  go_enter Try.func3, Try.ntmps3
  go_wp2_with (first | (go_at_call 5; refine (sIsShare h _).mono ?_; rintro eq wq ⟨nq, rfl, rfl⟩) | (go_at_call 6; refine (iShare h _).mono ?_; rintro eq wq ⟨nq, rfl, rfl⟩))
  go_ret
  refine ⟨rfl, ?_⟩
  repeat' (first | with_reducible exact Below.refl _ _ | with_reducible assumption | (with_reducible refine Below.setCell ?_ (by first | omega | (simp; done) | (simp; omega)) _) | (with_reducible refine Below.alloc ?_ (by first | omega | (simp; done) | (simp; omega)) _) | (with_reducible refine below_drewN ?_ _) | (with_reducible refine Below.drew ?_) | (with_reducible refine Below.trans ?_ (Below.mono (by first | (with_reducible assumption) | exact Grow.below (by assumption)) (by first | omega | (simp; done) | (simp; omega)))))

/-- A call hands back two numbers and whether they are those. -/
def RetTwo (u v : Option Nat) (b : Bool) (w : World) (e : Ending) (w' : World) : Prop := ∃ r s n, e = .returned (.tuple #[.float .f32 r, .float .f32 s, .bool b]) ∧ Is .f32 r u ∧ Is .f32 s v ∧ w' = w.drewN n

theorem iMas {x : Nat} {v : Option Nat} (ix : Is .f32 x v) (w : World) :
    Calls Try.prog 11 #[.float .f32 x] w fun e w' => ∃ r s n, e = .returned (.tuple #[.float .f32 r, .float .f32 s]) ∧ Is .f32 r (negO .f32 v) ∧ Is .f32 s (fo .sub .f32 (some 1065353216) v) ∧ w' = w.drewN n := by
  go_enter Try.func11, Try.ntmps11
  go_wp2_with (first | (apply wpList_neg; rfl; rfl; (first | assumption | exact is_lit64 _ (by decide) | exact is_lit32 _ (by decide)); intro Kq hKq rq hq; go_simp) | (apply wpList_arith; rfl; simp [Arith]; rfl; rfl; (first | assumption | exact is_lit64 _ (by decide) | exact is_lit32 _ (by decide)); (first | assumption | exact is_lit64 _ (by decide) | exact is_lit32 _ (by decide)); intro Kq hKq rq nq hq; go_simp))
  go_ret2
  exact ⟨_, _, _, rfl, by assumption, by assumption, rfl⟩

theorem zero32' : Is .f32 0 (some 0) := is_lit32 0 (by decide)

theorem iMasses {x : Nat} {v : Option Nat} (ix : Is .f32 x v) (w : World) :
    Calls Try.prog 8 #[.float .f32 x] w (RetTwo (if shareB v then negO .f32 v else some 0) (if shareB v then fo .sub .f32 (some 1065353216) v else some 0) (shareB v) w) := by
  cases hs : shareB v with
  | false =>
    go_enter Try.func8, Try.ntmps8
    go_wp2_with (go_at_call 6; refine (iShare ix _).mono ?_; rintro eq wq ⟨nq, rfl, rfl⟩)
    go_ret3
    exact ⟨_, _, _, rfl, zero32', zero32', rfl⟩
  | true =>
    go_enter Try.func8, Try.ntmps8
    go_wp2_with (first | (go_at_call 6; refine (iShare ix _).mono ?_; rintro eq wq ⟨nq, rfl, rfl⟩) | (go_at_call 11; refine (iMas ix _).mono ?_; rintro _ _ ⟨r, s, n, rfl, ir, is, rfl⟩))
    go_ret3
    exact ⟨_, _, _, rfl, ir, is, rfl⟩

theorem sMasses {x : Nat} {v : Option Nat} (ix : Is .f32 x v) (w : World) :
    Calls Try.prog 7 #[.float .f32 x] w (RetTwo (if shareB v then negO .f32 v else some 0) (if shareB v then fo .sub .f32 (some 1065353216) v else some 0) (shareB v) w) := by
  cases hs : shareB v with
  | false =>
    go_enter Try.func7, Try.ntmps7
    go_wp2_with (go_at_call 10; refine (sShare ix _).mono ?_; rintro eq wq ⟨nq, rfl, rfl⟩)
    go_ret3
    exact ⟨_, _, _, rfl, zero32', zero32', rfl⟩
  | true =>
    go_enter Try.func7, Try.ntmps7
    go_wp2_with (first | (apply wpList_neg; rfl; rfl; (first | assumption | exact is_lit64 _ (by decide) | exact is_lit32 _ (by decide)); intro Kq hKq rq hq; go_simp) | (apply wpList_arith; rfl; simp [Arith]; rfl; rfl; (first | assumption | exact is_lit64 _ (by decide) | exact is_lit32 _ (by decide)); (first | assumption | exact is_lit64 _ (by decide) | exact is_lit32 _ (by decide)); intro Kq hKq rq nq hq; go_simp) | (go_at_call 10; refine (sShare ix _).mono ?_; rintro eq wq ⟨nq, rfl, rfl⟩))
    go_ret3
    exact ⟨_, _, _, rfl, by assumption, by assumption, rfl⟩

theorem walk_FnExactMassesAt (a : Nat) (w : World) (k : a < 2 ^ 32) :
    Calls Try.prog 4 #[.float .f32 a] w fun e w' => e = .returned (.bool true) ∧ Below w.heap.size w w' := by
  have h := Is.self (k := .f32) k
  go_enter Try.func4, Try.ntmps4
  go_wp2_with (first | (apply wpList_wide und32 Try.underlying27; rfl; rfl; (first | assumption | exact is_lit64 _ (by decide) | exact is_lit32 _ (by decide)); intro Kq hKq rq nq hq; go_simp) | (go_at_call 7; refine (sMasses h _).mono ?_; rintro _ _ ⟨r0, s0, n0, rfl, ir0, is0, rfl⟩) | (go_at_call 8; refine (iMasses h _).mono ?_; rintro _ _ ⟨r1, s1, n1, rfl, ir1, is1, rfl⟩) | (go_at_call 9; refine (sameFloat_any (by assumption) (by assumption) _).mono ?_; rintro eq wq ⟨nq, rfl, rfl⟩))
  go_ret
  refine ⟨rfl, ?_⟩
  repeat' (first | with_reducible exact Below.refl _ _ | with_reducible assumption | (with_reducible refine Below.setCell ?_ (by first | omega | (simp; done) | (simp; omega)) _) | (with_reducible refine Below.alloc ?_ (by first | omega | (simp; done) | (simp; omega)) _) | (with_reducible refine below_drewN ?_ _) | (with_reducible refine Below.drew ?_) | (with_reducible refine Below.trans ?_ (Below.mono (by first | (with_reducible assumption) | exact Grow.below (by assumption)) (by first | omega | (simp; done) | (simp; omega)))))
end Go.Proofs.Ytdgdddbmecbopaa
