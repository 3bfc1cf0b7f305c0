/-
  The copy of a vector that the laws make. No condition.
-/
import Derived.Test.YtjljdnkedbejaaaMem
namespace Go.Proofs.Ytjljdnkedbejaaa
open Go.RowKit

theorem toVec_any {a0 a1 a2 : Nat} (w : World) :
    Calls Try.prog 33 #[vecV a0 a1 a2] w fun e w' => e = .returned (vecV a0 a1 a2) ∧ Grow 3 w w' := by
  have hst := run_store_float Try.prog
  go_enter Try.func33, Try.ntmps33
  go_wp2
  refine bodyPost_ret (v := vecV a0 a1 a2) (by simp [results, Try.results33, go_sem]) rfl ⟨rfl, ?_, by simp [*]⟩
  repeat' (first | with_reducible exact Below.refl _ _ | with_reducible assumption | (with_reducible refine Below.setCell ?_ (by first | omega | (simp; done) | (simp; omega)) _) | (with_reducible refine Below.alloc ?_ (by first | omega | (simp; done) | (simp; omega)) _) | (with_reducible refine below_drewN ?_ _) | (with_reducible refine Below.drew ?_) | (with_reducible refine Below.trans ?_ (Below.mono (by first | (with_reducible assumption) | exact Grow.below (by assumption)) (by first | omega | (simp; done) | (simp; omega)))))

end Go.Proofs.Ytjljdnkedbejaaa
