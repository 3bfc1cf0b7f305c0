/-
  The copy of a vector that the laws make. No condition.
-/
import Derived.Test.YtbpgemdchpgjiacMem
namespace Go.Proofs.Ytbpgemdchpgjiac
open Go.RowKit

theorem toVec_any {a0 a1 a2 : Nat} (w : World) :
    Calls Try.prog 13 #[vecV a0 a1 a2] w fun e w' => e = .returned (vecV a0 a1 a2) ∧ Grow 3 w w' := by
  have hst := run_store_float Try.prog
  go_enter Try.func13, Try.ntmps13
  go_wp2
  refine bodyPost_ret (v := vecV a0 a1 a2) (by simp [results, Try.results13, go_sem]) rfl ⟨rfl, ?_, by simp [*]⟩
  repeat' (first | exact Below.refl _ _ | refine below_drewN ?_ _ | refine Below.trans ?_ (Below.mono (Grow.below (by assumption)) (by first | (simp; done) | (simp [*]; done) | (simp [*]; omega) | omega)) | refine Below.setCell ?_ (by first | (simp; done) | (simp [*]; done) | (simp [*]; omega) | omega) _ | refine Below.alloc ?_ (by first | (simp; done) | (simp [*]; done) | (simp [*]; omega) | omega) _)

end Go.Proofs.Ytbpgemdchpgjiac
