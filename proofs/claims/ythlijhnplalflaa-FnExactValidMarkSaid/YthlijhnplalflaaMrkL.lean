/-
  Whether three numbers are a mark: for every mark the law's text returns true, and writes nothing that was there. No condition.
-/
import Derived.Test.YthlijhnplalflaaMrk
namespace Go.Proofs.Ythlijhnplalflaa
open Go.RowKit

theorem walk_FnExactValidMark (a0 a1 a2 : Nat) (w : World) (k0 : a0 < 2 ^ 32) (k1 : a1 < 2 ^ 32) (k2 : a2 < 2 ^ 32) :
    Calls Try.prog 5 #[vecV a0 a1 a2] w fun e w' => e = .returned (.bool true) ∧ Below w.heap.size w w' := by
  have h0 := Is.self (k := .f32) k0
  have h1 := Is.self (k := .f32) k1
  have h2 := Is.self (k := .f32) k2
  go_enter Try.func5, Try.ntmps5
  go_wp2_with (first | (go_at_call 18; refine (toMrk _).mono ?_; rintro eq wq ⟨rfl, hb⟩; obtain ⟨hc, hf⟩ := bcell hb; have hz := hb.size; (try simp at hz); (try have hl : w.heap.size < wq.heap.size := (by omega))) | (go_at_call 17; refine (sMrk h0 h1 h2 _).mono ?_; rintro eq wq ⟨rfl, hb⟩; obtain ⟨hc, hf⟩ := bcell hb; have hz := hb.size; (try simp at hz); (try have hl : w.heap.size < wq.heap.size := (by omega))) | (go_at_call 19; refine (iMrk h0 h1 h2 _).mono ?_; rintro eq wq ⟨rfl, hb⟩; obtain ⟨hc, hf⟩ := bcell hb; have hz := hb.size; (try simp at hz); (try have hl : w.heap.size < wq.heap.size := (by omega))))
  go_ret
  refine ⟨rfl, ?_⟩
  repeat' (first | with_reducible exact Below.refl _ _ | with_reducible assumption | (with_reducible refine Below.setCell ?_ (by first | omega | (simp; done) | (simp; omega)) _) | (with_reducible refine Below.alloc ?_ (by first | omega | (simp; done) | (simp; omega)) _) | (with_reducible refine below_drewN ?_ _) | (with_reducible refine Below.drew ?_) | (with_reducible refine Below.trans ?_ (Below.mono (by first | (with_reducible assumption) | exact Grow.below (by assumption)) (by first | omega | (simp; done) | (simp; omega)))))
end Go.Proofs.Ythlijhnplalflaa
