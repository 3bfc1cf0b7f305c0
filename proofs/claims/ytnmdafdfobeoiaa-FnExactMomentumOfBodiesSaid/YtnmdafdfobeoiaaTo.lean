/-
  The copy of a vector that the laws make. No condition.
-/
import Derived.Test.YtnmdafdfobeoiaaMem
namespace Go.Proofs.Ytnmdafdfobeoiaa
open Go.RowKit

theorem toVec_any {a0 a1 a2 : Nat} (w : World) :
    Calls Try.prog 43 #[vecV a0 a1 a2] w fun e w' => e = .returned (vecV a0 a1 a2) ∧ Grow 3 w w' := by
  have hst := run_store_float Try.prog
  go_enter Try.func43, Try.ntmps43
  go_wp2
  refine bodyPost_ret (v := vecV a0 a1 a2) (by simp [results, Try.results43, go_sem]) rfl ⟨rfl, ?_, by simp [*]⟩
  repeat' (first | exact Below.refl _ _ | refine below_drewN ?_ _ | refine Below.trans ?_ (Below.mono (Grow.below (by assumption)) (by first | (simp; done) | (simp [*]; done) | (simp [*]; omega) | omega)) | refine Below.setCell ?_ (by first | (simp; done) | (simp [*]; done) | (simp [*]; omega) | omega) _ | refine Below.alloc ?_ (by first | (simp; done) | (simp [*]; done) | (simp [*]; omega) | omega) _)

end Go.Proofs.Ytnmdafdfobeoiaa
