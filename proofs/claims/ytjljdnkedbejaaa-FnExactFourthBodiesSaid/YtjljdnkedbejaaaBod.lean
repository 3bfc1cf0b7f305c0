/-
  The copy of a body that the laws make. No condition.
-/
import Derived.Test.YtjljdnkedbejaaaTo
namespace Go.Proofs.Ytjljdnkedbejaaa
open Go.RowKit

/-- A body of seven words. -/
abbrev bodV (a0 a1 a2 a3 a4 a5 a6 : Nat) : Value := .agg #[.float .f32 a0, .float .f32 a1, .float .f32 a2, .float .f32 a3, .float .f32 a4, .float .f32 a5, .float .f32 a6]

set_option maxHeartbeats 1600000 in
theorem toBod_any {a0 a1 a2 a3 a4 a5 a6 : Nat} (w : World) :
    Calls Try.prog 20 #[bodV a0 a1 a2 a3 a4 a5 a6] w fun e w' => e = .returned (bodV a0 a1 a2 a3 a4 a5 a6) ∧ Grow 9 w w' := by
  have hst := run_store_float Try.prog
  go_enter Try.func20, Try.ntmps20
  go_wp2_with (go_at_call 33; refine (toVec_any _).mono ?_; rintro eq wq ⟨rfl, hb⟩; obtain ⟨hc, hf⟩ := bcell hb.1; have hz := hb.2; try simp at hz)
  rename_i wq1 hb1 hc1 hf1 hz1
  have hz2 : wq.heap.size = w.heap.size + 9 := by rw [hz, hz1]
  refine bodyPost_ret (v := bodV a0 a1 a2 a3 a4 a5 a6) (by simp [results, Try.results20, go_sem, hc, hc1, hz2, hz1]) rfl ⟨rfl, ?_, by simp [hz2]⟩
  repeat' (first | with_reducible exact Below.refl _ _ | with_reducible assumption | (with_reducible refine Below.setCell ?_ (by first | omega | (simp; done) | (simp; omega)) _) | (with_reducible refine Below.alloc ?_ (by first | omega | (simp; done) | (simp; omega)) _) | (with_reducible refine below_drewN ?_ _) | (with_reducible refine Below.drew ?_) | (with_reducible refine Below.trans ?_ (Below.mono (by first | (with_reducible assumption) | exact Grow.below (by assumption)) (by first | omega | (simp; done) | (simp; omega)))))
end Go.Proofs.Ytjljdnkedbejaaa
