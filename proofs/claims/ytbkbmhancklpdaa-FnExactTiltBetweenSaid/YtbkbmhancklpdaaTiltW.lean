/-
  For all orbits the law's text on the angle between two orbits returns true, and writes nothing that was there. No condition.
-/
import Derived.Test.YtbkbmhancklpdaaTiltN
namespace Go.Proofs.Ytbkbmhancklpdaa
open Go.RowKit

abbrev startL (w : World) (a0 a1 a2 a3 a4 a5 b0 b1 b2 b3 b4 b5 : Nat) : World := (w.alloc (.cells #[.float .f32 a0, .float .f32 a1, .float .f32 a2, .float .f32 a3, .float .f32 a4, .float .f32 a5] 24)).alloc (.cells #[.float .f32 b0, .float .f32 b1, .float .f32 b2, .float .f32 b3, .float .f32 b4, .float .f32 b5] 24)

set_option maxHeartbeats 3200000 in
theorem walk_FnExactTiltBetween (a0 a1 a2 a3 a4 a5 b0 b1 b2 b3 b4 b5 : Nat) (w : World) (k0 : a0 < 2 ^ 32) (k1 : a1 < 2 ^ 32) (k2 : a2 < 2 ^ 32) (k3 : a3 < 2 ^ 32) (k4 : a4 < 2 ^ 32) (k5 : a5 < 2 ^ 32) (l0 : b0 < 2 ^ 32) (l1 : b1 < 2 ^ 32) (l2 : b2 < 2 ^ 32) (l3 : b3 < 2 ^ 32) (l4 : b4 < 2 ^ 32) (l5 : b5 < 2 ^ 32) :
    Calls Try.prog 3 #[orbV a0 a1 a2 a3 a4 a5, orbV b0 b1 b2 b3 b4 b5] w fun e w' => e = .returned (.bool true) ∧ Below w.heap.size w w' := by
  have h0 := Is.self (k := .f32) k0
  have h1 := Is.self (k := .f32) k1
  have h2 := Is.self (k := .f32) k2
  have h3 := Is.self (k := .f32) k3
  have h4 := Is.self (k := .f32) k4
  have h5 := Is.self (k := .f32) k5
  have g0 := Is.self (k := .f32) l0
  have g1 := Is.self (k := .f32) l1
  have g2 := Is.self (k := .f32) l2
  have g3 := Is.self (k := .f32) l3
  have g4 := Is.self (k := .f32) l4
  have g5 := Is.self (k := .f32) l5
  have qa0 : ∀ w', Below (w.heap.size + 2) (startL w a0 a1 a2 a3 a4 a5 b0 b1 b2 b3 b4 b5) w' → w'.cell? ⟨w.heap.size, 0, none⟩ = some (.float .f32 a0) := fun w' h => by rw [h.cell (by simp)]; simp [startL]
  have qa1 : ∀ w', Below (w.heap.size + 2) (startL w a0 a1 a2 a3 a4 a5 b0 b1 b2 b3 b4 b5) w' → w'.cell? ⟨w.heap.size, 1, none⟩ = some (.float .f32 a1) := fun w' h => by rw [h.cell (by simp)]; simp [startL]
  have qa2 : ∀ w', Below (w.heap.size + 2) (startL w a0 a1 a2 a3 a4 a5 b0 b1 b2 b3 b4 b5) w' → w'.cell? ⟨w.heap.size, 2, none⟩ = some (.float .f32 a2) := fun w' h => by rw [h.cell (by simp)]; simp [startL]
  have qa3 : ∀ w', Below (w.heap.size + 2) (startL w a0 a1 a2 a3 a4 a5 b0 b1 b2 b3 b4 b5) w' → w'.cell? ⟨w.heap.size, 3, none⟩ = some (.float .f32 a3) := fun w' h => by rw [h.cell (by simp)]; simp [startL]
  have qa4 : ∀ w', Below (w.heap.size + 2) (startL w a0 a1 a2 a3 a4 a5 b0 b1 b2 b3 b4 b5) w' → w'.cell? ⟨w.heap.size, 4, none⟩ = some (.float .f32 a4) := fun w' h => by rw [h.cell (by simp)]; simp [startL]
  have qa5 : ∀ w', Below (w.heap.size + 2) (startL w a0 a1 a2 a3 a4 a5 b0 b1 b2 b3 b4 b5) w' → w'.cell? ⟨w.heap.size, 5, none⟩ = some (.float .f32 a5) := fun w' h => by rw [h.cell (by simp)]; simp [startL]
  have qb0 : ∀ w', Below (w.heap.size + 2) (startL w a0 a1 a2 a3 a4 a5 b0 b1 b2 b3 b4 b5) w' → w'.cell? ⟨w.heap.size + 1, 0, none⟩ = some (.float .f32 b0) := fun w' h => by rw [h.cell (by simp)]; simp [startL]
  have qb1 : ∀ w', Below (w.heap.size + 2) (startL w a0 a1 a2 a3 a4 a5 b0 b1 b2 b3 b4 b5) w' → w'.cell? ⟨w.heap.size + 1, 1, none⟩ = some (.float .f32 b1) := fun w' h => by rw [h.cell (by simp)]; simp [startL]
  have qb2 : ∀ w', Below (w.heap.size + 2) (startL w a0 a1 a2 a3 a4 a5 b0 b1 b2 b3 b4 b5) w' → w'.cell? ⟨w.heap.size + 1, 2, none⟩ = some (.float .f32 b2) := fun w' h => by rw [h.cell (by simp)]; simp [startL]
  have qb3 : ∀ w', Below (w.heap.size + 2) (startL w a0 a1 a2 a3 a4 a5 b0 b1 b2 b3 b4 b5) w' → w'.cell? ⟨w.heap.size + 1, 3, none⟩ = some (.float .f32 b3) := fun w' h => by rw [h.cell (by simp)]; simp [startL]
  have qb4 : ∀ w', Below (w.heap.size + 2) (startL w a0 a1 a2 a3 a4 a5 b0 b1 b2 b3 b4 b5) w' → w'.cell? ⟨w.heap.size + 1, 4, none⟩ = some (.float .f32 b4) := fun w' h => by rw [h.cell (by simp)]; simp [startL]
  have qb5 : ∀ w', Below (w.heap.size + 2) (startL w a0 a1 a2 a3 a4 a5 b0 b1 b2 b3 b4 b5) w' → w'.cell? ⟨w.heap.size + 1, 5, none⟩ = some (.float .f32 b5) := fun w' h => by rw [h.cell (by simp)]; simp [startL]
  have CS := sTilt h0 h1 h2 h3 h4 h5 g0 g1 g2 g3 g4 g5
  have CI := iTilt h0 h1 h2 h3 h4 h5 g0 g1 g2 g3 g4 g5
  generalize (if orbB (nrm .f32 a0) (nrm .f32 a1) (nrm .f32 a2) (nrm .f32 a3) (nrm .f32 a4) (nrm .f32 a5) && orbB (nrm .f32 b0) (nrm .f32 b1) (nrm .f32 b2) (nrm .f32 b3) (nrm .f32 b4) (nrm .f32 b5) then finN (cv .f64 .f32 (cAng (nrm .f32 a2) (nrm .f32 a3) (nrm .f32 b2) (nrm .f32 b3))) else some 0) = V at CS CI
  generalize (orbB (nrm .f32 a0) (nrm .f32 a1) (nrm .f32 a2) (nrm .f32 a3) (nrm .f32 a4) (nrm .f32 a5) && orbB (nrm .f32 b0) (nrm .f32 b1) (nrm .f32 b2) (nrm .f32 b3) (nrm .f32 b4) (nrm .f32 b5) && finS (cv .f64 .f32 (cAng (nrm .f32 a2) (nrm .f32 a3) (nrm .f32 b2) (nrm .f32 b3)))) = B at CS CI
  clear h0 g0 h1 g1 h2 g2 h3 g3 h4 g4 h5 g5
  go_enter Try.func3, Try.ntmps3
  go_upto_region 1 with fail
  go_cut [5, 6] (fun s4 s5 wx => ∃ r : Nat, s4 = .float .f32 r ∧ Is .f32 r V ∧ s5 = .bool B ∧ Below (w.heap.size + 2) (startL w a0 a1 a2 a3 a4 a5 b0 b1 b2 b3 b4 b5) wx)
  case first =>
    go_region_held3 (fun w' => Below (w.heap.size + 2) (startL w a0 a1 a2 a3 a4 a5 b0 b1 b2 b3 b4 b5) w') ((repeat' (first | with_reducible assumption | with_reducible exact Below.refl _ _ | with_reducible exact keepW (by with_reducible assumption) (by with_reducible assumption) (by first | exact Nat.le_refl _ | omega | (simp; done) | (simp; omega)) | (with_reducible refine Below.setCell ?_ (by first | omega | (simp; done) | (simp; omega)) _) | (with_reducible refine below_drewN ?_ _) | (with_reducible refine Below.drew ?_) | (with_reducible refine Below.trans ?_ (Below.mono (by with_reducible assumption) (by first | omega | (simp; done) | (simp; omega)))) | (with_reducible refine Below.alloc ?_ (by first | omega | (simp; done) | (simp; omega)) _)))) (first | (go_at_call 6; refine (toOrb _).mono ?_; rintro eq wq ⟨rfl, hb⟩) | (go_at_call 5; refine (CS _).mono ?_; rintro eq wq ⟨⟨rq, rfl, hq⟩, hb⟩))
    all_goals
      go_wp2_with fail
      go_meet
      exact ⟨_, rfl, hq, rfl, by with_reducible assumption⟩
  case rest =>
    obtain ⟨r, rfl, hr, rfl, hbel⟩ := hcut
    have hzc := hbel.size
    simp [startL] at hzc
    go_upto_region 2 with fail
    go_cut [7, 8] (fun s6 s7 wx => ∃ r : Nat, s6 = .float .f32 r ∧ Is .f32 r V ∧ s7 = .bool B ∧ Below (w.heap.size + 2) (startL w a0 a1 a2 a3 a4 a5 b0 b1 b2 b3 b4 b5) wx)
    case first =>
      go_region_held3 (fun w' => Below (w.heap.size + 2) (startL w a0 a1 a2 a3 a4 a5 b0 b1 b2 b3 b4 b5) w') ((repeat' (first | with_reducible assumption | with_reducible exact Below.refl _ _ | with_reducible exact keepW (by with_reducible assumption) (by with_reducible assumption) (by first | exact Nat.le_refl _ | omega | (simp; done) | (simp; omega)) | (with_reducible refine Below.setCell ?_ (by first | omega | (simp; done) | (simp; omega)) _) | (with_reducible refine below_drewN ?_ _) | (with_reducible refine Below.drew ?_) | (with_reducible refine Below.trans ?_ (Below.mono (by with_reducible assumption) (by first | omega | (simp; done) | (simp; omega)))) | (with_reducible refine Below.alloc ?_ (by first | omega | (simp; done) | (simp; omega)) _)))) (first | (go_at_call 6; refine (toOrb _).mono ?_; rintro eq wq ⟨rfl, hb⟩) | (go_at_call 7; refine (CI _).mono ?_; rintro eq wq ⟨⟨rq, rfl, hq⟩, hb⟩))
      all_goals
        go_wp2_with fail
        go_meet
        exact ⟨_, rfl, hq, rfl, by with_reducible assumption⟩
    case rest =>
      obtain ⟨r2, rfl, hr2, rfl, hbel2⟩ := hcut
      go_wp2_with (first | (apply wpList_wide und32 Try.underlying30; rfl; rfl; (first | assumption | exact is_lit64 _ (by decide) | exact is_lit32 _ (by decide)); intro Kq hKq rq nq hq; go_simp) | (go_at_call 8; refine (sameFloat_any (by assumption) (by assumption) _).mono ?_; rintro eq wq ⟨nq, rfl, rfl⟩))
      go_ret
      refine ⟨rfl, ?_⟩
      have b0 : Below w.heap.size w (startL w a0 a1 a2 a3 a4 a5 b0 b1 b2 b3 b4 b5) := ((Below.refl _ _).alloc (Nat.le_refl _) _).alloc (by simp) _
      have b1 := b0.trans (hbel2.mono (by omega))
      repeat' (first | with_reducible exact Below.refl _ _ | with_reducible assumption | (with_reducible refine Below.setCell ?_ (by first | omega | (simp; done) | (simp; omega)) _) | (with_reducible refine Below.alloc ?_ (by first | omega | (simp; done) | (simp; omega)) _) | (with_reducible refine below_drewN ?_ _) | (with_reducible refine Below.drew ?_) | (with_reducible refine Below.trans ?_ (Below.mono (by first | (with_reducible assumption) | exact Grow.below (by assumption)) (by first | omega | (simp; done) | (simp; omega)))))
end Go.Proofs.Ytbkbmhancklpdaa
