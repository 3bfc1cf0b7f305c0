/-
  The copy of a vector that the laws make. No condition.
-/
import Derived.Test.YtncnelbmghnjkaaDoorMem
namespace Go.Proofs.YtncnelbmghnjkaaDoor
open Go.RowKit

theorem toVec_any {a0 a1 a2 : Nat} (w : World) :
    Calls Tryd.prog 10 #[vecV a0 a1 a2] w fun e w' => e = .returned (vecV a0 a1 a2) ∧ Grow 3 w w' := by
  have hst := run_store_float Tryd.prog
  go_enter Tryd.func10, Tryd.ntmps10
  go_wp2
  refine bodyPost_ret (v := vecV a0 a1 a2) (by simp [results, Tryd.results10, go_sem]) rfl ⟨rfl, ?_, by simp [*]⟩
  repeat' (first | exact Below.refl _ _ | refine below_drewN ?_ _ | refine Below.trans ?_ (Below.mono (Grow.below (by assumption)) (by first | (simp; done) | (simp [*]; done) | (simp [*]; omega) | omega)) | refine Below.setCell ?_ (by first | (simp; done) | (simp [*]; done) | (simp [*]; omega) | omega) _ | refine Below.alloc ?_ (by first | (simp; done) | (simp [*]; done) | (simp [*]; omega) | omega) _)

end Go.Proofs.YtncnelbmghnjkaaDoor
