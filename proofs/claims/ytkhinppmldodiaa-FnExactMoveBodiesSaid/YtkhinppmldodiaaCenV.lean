/-
  The values of the centre of bodies and of its speed. No condition.
-/
import Derived.Test.YtkhinppmldodiaaSumG
import Derived.Test.YtkhinppmldodiaaVScale
namespace Go.Proofs.Ytkhinppmldodiaa
open Go.RowKit

/-- The part c of the place, or of the speed, of the body k, times its mass. -/
def wgtO (v : Nat → Option Nat) (c k : Nat) : Option Nat := fo .mul .f32 (v (7 * k + c)) (v (7 * k + 6))
def wgtS (v : Nat → Option Nat) (c n : Nat) : Option Nat := sumC (wgtO v c) n
theorem wgtS_succ (v : Nat → Option Nat) (c k : Nat) : wgtS v c (k + 1) = fo .add .f32 (wgtS v c k) (fo .mul .f32 (v (7 * k + c)) (v (7 * k + 6))) := rfl
theorem wgtS_succ0 (v : Nat → Option Nat) (k : Nat) : wgtS v 0 (k + 1) = fo .add .f32 (wgtS v 0 k) (fo .mul .f32 (v (7 * k)) (v (7 * k + 6))) := rfl
/-- The part c of the centre, or of its speed. -/
def cenO (v : Nat → Option Nat) (n c : Nat) : Option Nat := fo .mul .f32 (wgtS v c n) (fo .quo .f32 (some 1065353216) (massN v n))
def cenOk (v : Nat → Option Nat) (n : Nat) : Bool := massOk v n && (finV (cenO v n 0) (cenO v n 1) (cenO v n 2) && finV (cenO v n 3) (cenO v n 4) (cenO v n 5))
def cenN (v : Nat → Option Nat) (n c : Nat) : Option Nat := if cenOk v n then cenO v n c else some 0
theorem cenN_t {v : Nat → Option Nat} {n : Nat} (h : cenOk v n = true) (c : Nat) : cenN v n c = cenO v n c := by simp [cenN, h]
theorem cenN_f {v : Nat → Option Nat} {n : Nat} (h : cenOk v n = false) (c : Nat) : cenN v n c = some 0 := by simp [cenN, h]
theorem one32 : Is .f32 1065353216 (some 1065353216) := is_lit32 _ (by decide)

/-- Two vectors are handed back, and whether they are good. -/
def RetV2 (v : Nat → Option Nat) (n : Nat) (w : World) (e : Ending) (w' : World) : Prop := (∃ r0 r1 r2 r3 r4 r5, e = .returned (.tuple #[vecV r0 r1 r2, vecV r3 r4 r5, .bool (cenOk v n)]) ∧ Is .f32 r0 (cenN v n 0) ∧ Is .f32 r1 (cenN v n 1) ∧ Is .f32 r2 (cenN v n 2) ∧ Is .f32 r3 (cenN v n 3) ∧ Is .f32 r4 (cenN v n 4) ∧ Is .f32 r5 (cenN v n 5)) ∧ Below w.heap.size w w'

theorem cellsB {w W : World} {b off m : Nat} {f : Nat → Nat} (hB : Below w.heap.size w W) (hb : b < w.heap.size) (hr : ∀ i, i < m → w.cell? ⟨b, off + i, none⟩ = some (.float .f32 (f i))) : ∀ i, i < m → W.cell? ⟨b, off + i, none⟩ = some (.float .f32 (f i)) := fun i hi => (hB.cell (p := ⟨b, off + i, none⟩) hb).trans (hr i hi)
theorem fit16 {v : Nat → Option Nat} {n : Nat} (h : areB v n = true) : n ≤ 16 := by simp [areB] at h; exact h.1
theorem mass_are {v : Nat → Option Nat} {n : Nat} (h : massOk v n = true) : areB v n = true := by simp [massOk] at h; exact h.1

theorem iMomOf {a0 a1 a2 a3 a4 a5 a6 : Nat} {x3 x4 x5 x6 : Option Nat} (h3 : Is .f32 a3 x3) (h4 : Is .f32 a4 x4) (h5 : Is .f32 a5 x5) (h6 : Is .f32 a6 x6) (w : World) :
    Calls Try.prog 51 #[bodV a0 a1 a2 a3 a4 a5 a6] w (RetV3 (fo .mul .f32 x3 x6) (fo .mul .f32 x4 x6) (fo .mul .f32 x5 x6) w) := by
  have hst := run_store_float Try.prog
  go_enter Try.func51, Try.ntmps51
  go_wp2_with (go_at_call 49; refine (implScale h3 h4 h5 h6 _).mono ?_; rintro eq wq ⟨rq0, rq1, rq2, rfl, hq0, hq1, hq2, hb⟩; obtain ⟨hc, hf⟩ := bcell hb.1; have hz := hb.2; try simp at hz)
  refine bodyPost_ret (v := vecV rq0 rq1 rq2) (by simp [results, Try.results51, go_sem, hc, hz]) rfl ⟨⟨_, _, _, rfl, hq0, hq1, hq2⟩, ?_⟩
  repeat' (first | with_reducible exact Below.refl _ _ | with_reducible assumption | (with_reducible refine Below.setCell ?_ (by first | omega | (simp; done) | (simp; omega)) _) | (with_reducible refine Below.alloc ?_ (by first | omega | (simp; done) | (simp; omega)) _) | (with_reducible refine below_drewN ?_ _) | (with_reducible refine Below.drew ?_) | (with_reducible refine Below.trans ?_ (Below.mono (by first | (with_reducible assumption) | exact Grow.below (by assumption)) (by first | omega | (simp; done) | (simp; omega)))))

theorem iWgtOf {a0 a1 a2 a3 a4 a5 a6 : Nat} {x3 x4 x5 x6 : Option Nat} (h3 : Is .f32 a0 x3) (h4 : Is .f32 a1 x4) (h5 : Is .f32 a2 x5) (h6 : Is .f32 a6 x6) (w : World) :
    Calls Try.prog 50 #[bodV a0 a1 a2 a3 a4 a5 a6] w (RetV3 (fo .mul .f32 x3 x6) (fo .mul .f32 x4 x6) (fo .mul .f32 x5 x6) w) := by
  have hst := run_store_float Try.prog
  go_enter Try.func50, Try.ntmps50
  go_wp2_with (go_at_call 49; refine (implScale h3 h4 h5 h6 _).mono ?_; rintro eq wq ⟨rq0, rq1, rq2, rfl, hq0, hq1, hq2, hb⟩; obtain ⟨hc, hf⟩ := bcell hb.1; have hz := hb.2; try simp at hz)
  refine bodyPost_ret (v := vecV rq0 rq1 rq2) (by simp [results, Try.results50, go_sem, hc, hz]) rfl ⟨⟨_, _, _, rfl, hq0, hq1, hq2⟩, ?_⟩
  repeat' (first | with_reducible exact Below.refl _ _ | with_reducible assumption | (with_reducible refine Below.setCell ?_ (by first | omega | (simp; done) | (simp; omega)) _) | (with_reducible refine Below.alloc ?_ (by first | omega | (simp; done) | (simp; omega)) _) | (with_reducible refine below_drewN ?_ _) | (with_reducible refine Below.drew ?_) | (with_reducible refine Below.trans ?_ (Below.mono (by first | (with_reducible assumption) | exact Grow.below (by assumption)) (by first | omega | (simp; done) | (simp; omega)))))
end Go.Proofs.Ytkhinppmldodiaa
