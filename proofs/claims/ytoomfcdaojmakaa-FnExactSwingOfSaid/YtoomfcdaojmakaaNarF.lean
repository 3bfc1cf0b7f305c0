/-
  Numbers that are narrowed, if they are finite then. No condition.
-/
import Derived.Test.YtoomfcdaojmakaaSFn
namespace Go.Proofs.Ytoomfcdaojmakaa
open Go.RowKit

/-- A number is handed back, and whether it is good. -/
def RetNum (v : Option Nat) (ok : Bool) (w : World) (e : Ending) (w' : World) : Prop := (∃ r, e = .returned (.tuple #[.float .f32 r, .bool ok]) ∧ Is .f32 r v) ∧ Below w.heap.size w w'
/-- A number if it is finite. -/
def finN (v : Option Nat) : Option Nat := if finS v then v else some 0
theorem zero32 : Is .f32 0 (some 0) := is_lit32 0 (by decide)

theorem iFinN {x : Nat} {v : Option Nat} (ix : Is .f32 x v) (w : World) : Calls Try.prog 40 #[.float .f32 x] w (RetNum (finN v) (finS v) w) := by
  unfold finN
  cases h : finS v with
  | false =>
    go_enter Try.func40, Try.ntmps40
    go_wp2_with (go_at_call 19; refine (sFinite (by assumption) _).mono ?_; rintro eq wq ⟨nq, rfl, rfl⟩)
    go_ret2
    exact ⟨⟨_, rfl, zero32⟩, by repeat' (first | with_reducible exact Below.refl _ _ | with_reducible assumption | (with_reducible refine Below.setCell ?_ (by first | omega | (simp; done) | (simp; omega)) _) | (with_reducible refine Below.alloc ?_ (by first | omega | (simp; done) | (simp; omega)) _) | (with_reducible refine below_drewN ?_ _) | (with_reducible refine Below.drew ?_) | (with_reducible refine Below.trans ?_ (Below.mono (by first | (with_reducible assumption) | exact Grow.below (by assumption)) (by first | omega | (simp; done) | (simp; omega)))))⟩
  | true =>
    go_enter Try.func40, Try.ntmps40
    go_wp2_with (go_at_call 19; refine (sFinite (by assumption) _).mono ?_; rintro eq wq ⟨nq, rfl, rfl⟩)
    go_ret2
    exact ⟨⟨_, rfl, ix⟩, by repeat' (first | with_reducible exact Below.refl _ _ | with_reducible assumption | (with_reducible refine Below.setCell ?_ (by first | omega | (simp; done) | (simp; omega)) _) | (with_reducible refine Below.alloc ?_ (by first | omega | (simp; done) | (simp; omega)) _) | (with_reducible refine below_drewN ?_ _) | (with_reducible refine Below.drew ?_) | (with_reducible refine Below.trans ?_ (Below.mono (by first | (with_reducible assumption) | exact Grow.below (by assumption)) (by first | omega | (simp; done) | (simp; omega)))))⟩

theorem iNarF {x : Nat} {v : Option Nat} (ix : Is .f64 x v) (hf : Fit .f64 .f32 v) (w : World) : Calls Try.prog 25 #[.float .f64 x] w (RetNum (finN (cv .f64 .f32 v)) (finS (cv .f64 .f32 v)) w) := by
  go_enter Try.func25, Try.ntmps25
  go_wp2_with (first | (apply wpList_cv .f64 .f32 (by decide) und64 Try.underlying22; rfl; rfl; assumption; assumption; intro Kq hKq rq nq hq; go_simp) | (go_at_call 40; refine (iFinN hq _).mono ?_; rintro _ W1 ⟨⟨r1, rfl, i1⟩, b1⟩))
  refine bodyPost_ret (v := .tuple #[.float .f32 r1, .bool (finS (cv .f64 .f32 v))]) (by simp [results, Try.results25, go_sem]) rfl ⟨⟨_, rfl, i1⟩, ?_⟩
  repeat' (first | with_reducible exact Below.refl _ _ | with_reducible assumption | (with_reducible refine Below.setCell ?_ (by first | omega | (simp; done) | (simp; omega)) _) | (with_reducible refine Below.alloc ?_ (by first | omega | (simp; done) | (simp; omega)) _) | (with_reducible refine below_drewN ?_ _) | (with_reducible refine Below.drew ?_) | (with_reducible refine Below.trans ?_ (Below.mono (by first | (with_reducible assumption) | exact Grow.below (by assumption)) (by first | omega | (simp; done) | (simp; omega)))))

theorem sNarF {x : Nat} {v : Option Nat} (ix : Is .f64 x v) (hf : Fit .f64 .f32 v) (w : World) : Calls Try.prog 22 #[.float .f64 x] w (RetNum (finN (cv .f64 .f32 v)) (finS (cv .f64 .f32 v)) w) := by
  unfold finN
  cases h : finS (cv .f64 .f32 v) with
  | false =>
    go_enter Try.func22, Try.ntmps22
    go_wp2_with (first | (go_at_call 31; refine (narrow_any (by assumption) hf _).mono ?_; rintro eq wq ⟨rq, nq, rfl, hq, rfl⟩) | (go_at_call 30; refine (finite_any (by assumption) _).mono ?_; rintro eq wq ⟨nq, rfl, rfl⟩))
    go_ret2
    exact ⟨⟨_, rfl, zero32⟩, by repeat' (first | with_reducible exact Below.refl _ _ | with_reducible assumption | (with_reducible refine Below.setCell ?_ (by first | omega | (simp; done) | (simp; omega)) _) | (with_reducible refine Below.alloc ?_ (by first | omega | (simp; done) | (simp; omega)) _) | (with_reducible refine below_drewN ?_ _) | (with_reducible refine Below.drew ?_) | (with_reducible refine Below.trans ?_ (Below.mono (by first | (with_reducible assumption) | exact Grow.below (by assumption)) (by first | omega | (simp; done) | (simp; omega)))))⟩
  | true =>
    go_enter Try.func22, Try.ntmps22
    go_wp2_with (first | (go_at_call 31; refine (narrow_any (by assumption) hf _).mono ?_; rintro eq wq ⟨rq, nq, rfl, hq, rfl⟩) | (go_at_call 30; refine (finite_any (by assumption) _).mono ?_; rintro eq wq ⟨nq, rfl, rfl⟩))
    go_ret2
    exact ⟨⟨_, rfl, by assumption⟩, by repeat' (first | with_reducible exact Below.refl _ _ | with_reducible assumption | (with_reducible refine Below.setCell ?_ (by first | omega | (simp; done) | (simp; omega)) _) | (with_reducible refine Below.alloc ?_ (by first | omega | (simp; done) | (simp; omega)) _) | (with_reducible refine below_drewN ?_ _) | (with_reducible refine Below.drew ?_) | (with_reducible refine Below.trans ?_ (Below.mono (by first | (with_reducible assumption) | exact Grow.below (by assumption)) (by first | omega | (simp; done) | (simp; omega)))))⟩
end Go.Proofs.Ytoomfcdaojmakaa
