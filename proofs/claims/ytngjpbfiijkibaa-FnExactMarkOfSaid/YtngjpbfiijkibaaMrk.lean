/-
  Whether three numbers are a mark, of the program and of the model: for every mark the law's text returns true, and writes nothing that was there. No condition.
-/
import Derived.Test.YtngjpbfiijkibaaSFn
namespace Go.Proofs.Ytngjpbfiijkibaa
open Go.RowKit

/-- Whether three numbers are a mark. -/
def mrkB (n e h : Option Nat) : Bool := cmpB .geq .f32 n (some 3196059648) && (cmpB .leq .f32 n (some 1048576000) && (cmpB .geq .f32 e (some 3204448256) && (cmpB .lss .f32 e (some 1056964608) && finS h)))

theorem four_ways (b0 b1 b2 b3 : Bool) : b0 = false ∨ b0 = true ∧ (b1 = false ∨ b1 = true ∧ (b2 = false ∨ b2 = true ∧ (b3 = false ∨ b3 = true))) := by
  cases b0 <;> cases b1 <;> cases b2 <;> cases b3 <;> decide

section
variable {a0 a1 a2 : Nat} {x0 x1 x2 : Option Nat} (h0 : Is .f32 a0 x0) (h1 : Is .f32 a1 x1) (h2 : Is .f32 a2 x2)
include h0 h1 h2

theorem iMrk (w : World) : Calls Try.prog 42 #[vecV a0 a1 a2] w fun e w' => e = .returned (.bool (mrkB x0 x1 x2)) ∧ Below w.heap.size w w' := by
  rcases four_ways (cmpB .geq .f32 x0 (some 3196059648)) (cmpB .leq .f32 x0 (some 1048576000)) (cmpB .geq .f32 x1 (some 3204448256)) (cmpB .lss .f32 x1 (some 1056964608)) with hA | ⟨hA, hB | ⟨hB, hC | ⟨hC, hD | hD⟩⟩⟩ <;>
    (go_enter Try.func42, Try.ntmps42
     go_wp2_with (first | (apply wpList_cmp; rfl; simp [Cmp]; rfl; rfl; (first | assumption | exact is_lit64 _ (by decide) | exact is_lit32 _ (by decide)); (first | assumption | exact is_lit64 _ (by decide) | exact is_lit32 _ (by decide)); intro Kq hKq; go_simp) | (go_at_call 27; refine (sFinite (by assumption) _).mono ?_; rintro eq wq ⟨nq, rfl, rfl⟩))
     go_ret
     refine ⟨by simp [mrkB, *], ?_⟩
     repeat' (first | with_reducible exact Below.refl _ _ | with_reducible assumption | (with_reducible refine Below.setCell ?_ (by first | omega | (simp; done) | (simp; omega)) _) | (with_reducible refine Below.alloc ?_ (by first | omega | (simp; done) | (simp; omega)) _) | (with_reducible refine below_drewN ?_ _) | (with_reducible refine Below.drew ?_) | (with_reducible refine Below.trans ?_ (Below.mono (by first | (with_reducible assumption) | exact Grow.below (by assumption)) (by first | omega | (simp; done) | (simp; omega))))))

theorem sMrkP (b o : Nat) (w : World) (hb : b < w.heap.size) (c0 : w.cell? ⟨b, o, none⟩ = some (.float .f32 a0)) (c1 : w.cell? ⟨b, o + 1, none⟩ = some (.float .f32 a1)) (c2 : w.cell? ⟨b, o + 2, none⟩ = some (.float .f32 a2)) :
    Calls Try.prog 36 #[.pointer (some ⟨b, o, none⟩)] w fun e w' => e = .returned (.bool (mrkB x0 x1 x2)) ∧ Below w.heap.size w w' := by
  rcases four_ways (cmpB .geq .f32 x0 (some 3196059648)) (cmpB .leq .f32 x0 (some 1048576000)) (cmpB .geq .f32 x1 (some 3204448256)) (cmpB .lss .f32 x1 (some 1056964608)) with hA | ⟨hA, hB | ⟨hB, hC | ⟨hC, hD | hD⟩⟩⟩ <;>
    (go_enter Try.func36, Try.ntmps36
     go_wp2_with (first | (apply wpList_cmp; rfl; simp [Cmp]; rfl; rfl; (first | assumption | exact is_lit64 _ (by decide) | exact is_lit32 _ (by decide)); (first | assumption | exact is_lit64 _ (by decide) | exact is_lit32 _ (by decide)); intro Kq hKq; go_simp) | (go_at_call 23; refine (finite_any (by assumption) _).mono ?_; rintro eq wq ⟨nq, rfl, rfl⟩))
     go_ret
     refine ⟨by simp [mrkB, *], ?_⟩
     repeat' (first | with_reducible exact Below.refl _ _ | with_reducible assumption | (with_reducible refine Below.setCell ?_ (by first | omega | (simp; done) | (simp; omega)) _) | (with_reducible refine Below.alloc ?_ (by first | omega | (simp; done) | (simp; omega)) _) | (with_reducible refine below_drewN ?_ _) | (with_reducible refine Below.drew ?_) | (with_reducible refine Below.trans ?_ (Below.mono (by first | (with_reducible assumption) | exact Grow.below (by assumption)) (by first | omega | (simp; done) | (simp; omega))))))
end

theorem toMrk {a0 a1 a2 : Nat} (w : World) : Calls Try.prog 16 #[vecV a0 a1 a2] w fun e w' => e = .returned (vecV a0 a1 a2) ∧ Below w.heap.size w w' := by
  have hst := run_store_float Try.prog
  go_enter Try.func16, Try.ntmps16
  go_wp2
  refine bodyPost_ret (v := vecV a0 a1 a2) (by simp [results, Try.results16, go_sem]) rfl ⟨rfl, ?_⟩
  repeat' (first | with_reducible exact Below.refl _ _ | with_reducible assumption | (with_reducible refine Below.setCell ?_ (by first | omega | (simp; done) | (simp; omega)) _) | (with_reducible refine Below.alloc ?_ (by first | omega | (simp; done) | (simp; omega)) _) | (with_reducible refine below_drewN ?_ _) | (with_reducible refine Below.drew ?_) | (with_reducible refine Below.trans ?_ (Below.mono (by first | (with_reducible assumption) | exact Grow.below (by assumption)) (by first | omega | (simp; done) | (simp; omega)))))
end Go.Proofs.Ytngjpbfiijkibaa
