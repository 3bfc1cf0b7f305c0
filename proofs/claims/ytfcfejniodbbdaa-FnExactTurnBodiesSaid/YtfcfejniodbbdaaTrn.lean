/-
  Turned bodies, of the program. No condition.
-/
import Derived.Test.YtfcfejniodbbdaaChgC
import Derived.Test.YtfcfejniodbbdaaTrnV
import Derived.Test.YtfcfejniodbbdaaHas
import Derived.Deep.RegionHeld3
namespace Go.Proofs.Ytfcfejniodbbdaa
open Go.RowKit

/-- The values of turned bodies. -/
def trnV (v : Nat → Option Nat) (c s : Option Nat) (j : Nat) : Option Nat :=
  if j % 7 = 0 ∨ j % 7 = 3 then tnX c s (v j) (v (j + 1)) else if j % 7 = 1 ∨ j % 7 = 4 then tnY c s (v (j - 1)) (v j) else v j
theorem trnV_0 (v : Nat → Option Nat) (c s : Option Nat) (k : Nat) : trnV v c s (7 * k) = tnX c s (v (7 * k)) (v (7 * k + 1)) := by unfold trnV; rw [show (7 * k) % 7 = 0 by omega]; rfl
theorem trnV_1 (v : Nat → Option Nat) (c s : Option Nat) (k : Nat) : trnV v c s (7 * k + 1) = tnY c s (v (7 * k)) (v (7 * k + 1)) := by unfold trnV; rw [show (7 * k + 1) % 7 = 1 by omega]; rfl
theorem trnV_2 (v : Nat → Option Nat) (c s : Option Nat) (k : Nat) : trnV v c s (7 * k + 2) = v (7 * k + 2) := by unfold trnV; rw [show (7 * k + 2) % 7 = 2 by omega]; rfl
theorem trnV_3 (v : Nat → Option Nat) (c s : Option Nat) (k : Nat) : trnV v c s (7 * k + 3) = tnX c s (v (7 * k + 3)) (v (7 * k + 4)) := by unfold trnV; rw [show (7 * k + 3) % 7 = 3 by omega]; rfl
theorem trnV_4 (v : Nat → Option Nat) (c s : Option Nat) (k : Nat) : trnV v c s (7 * k + 4) = tnY c s (v (7 * k + 3)) (v (7 * k + 4)) := by unfold trnV; rw [show (7 * k + 4) % 7 = 4 by omega]; rfl
theorem trnV_5 (v : Nat → Option Nat) (c s : Option Nat) (k : Nat) : trnV v c s (7 * k + 5) = v (7 * k + 5) := by unfold trnV; rw [show (7 * k + 5) % 7 = 5 by omega]; rfl
theorem trnV_6 (v : Nat → Option Nat) (c s : Option Nat) (k : Nat) : trnV v c s (7 * k + 6) = v (7 * k + 6) := by unfold trnV; rw [show (7 * k + 6) % 7 = 6 by omega]; rfl

abbrev startM (w : World) (a0 a1 a2 a3 a4 a5 a6 : Nat) : World := (w.alloc (.cells #[.float .f32 a0, .float .f32 a1, .float .f32 a2, .float .f32 a3, .float .f32 a4, .float .f32 a5, .float .f32 a6] 40)).alloc (.cells #[.float .f32 0, .float .f32 0, .float .f32 0, .float .f32 0, .float .f32 0, .float .f32 0, .float .f32 0] 40)

set_option maxHeartbeats 3200000 in
theorem iTrnF {a0 a1 a2 a3 a4 a5 a6 b d : Nat} {x0 x1 x2 x3 x4 x5 c s : Option Nat} (h0 : Is .f32 a0 x0) (h1 : Is .f32 a1 x1) (h2 : Is .f32 a2 x2) (h3 : Is .f32 a3 x3) (h4 : Is .f32 a4 x4) (h5 : Is .f32 a5 x5) (gc : Is .f32 b c) (gs : Is .f32 d s)
    (pb ps : Nat) (w : World) (lb : pb < w.heap.size) (ls : ps < w.heap.size)
    (d0 : w.cell? ⟨pb, 0, none⟩ = some (.float .f32 b)) (e0 : w.cell? ⟨ps, 0, none⟩ = some (.float .f32 d)) :
    Calls Try.prog 21 #[bodV a0 a1 a2 a3 a4 a5 a6, .pointer (some ⟨pb, 0, none⟩), .pointer (some ⟨ps, 0, none⟩)] w fun e w' => (∃ r0 r1 r2 r3 r4 r5, e = .returned (bodV r0 r1 r2 r3 r4 r5 a6) ∧ Is .f32 r0 (tnX c s x0 x1) ∧ Is .f32 r1 (tnY c s x0 x1) ∧ Is .f32 r2 x2 ∧ Is .f32 r3 (tnX c s x3 x4) ∧ Is .f32 r4 (tnY c s x3 x4) ∧ Is .f32 r5 x5) ∧ Below w.heap.size w w' := by
  have hst := run_store_float Try.prog
  have bS : Below w.heap.size w (startM w a0 a1 a2 a3 a4 a5 a6) := ((Below.refl _ _).alloc (Nat.le_refl _) _).alloc (by simp) _
  have ka0 : ∀ w', Below (w.heap.size + 1) (startM w a0 a1 a2 a3 a4 a5 a6) w' → w'.cell? ⟨w.heap.size, 0, none⟩ = some (.float .f32 a0) := fun w' h => by rw [h.cell (by simp)]; simp [startM]
  have ka1 : ∀ w', Below (w.heap.size + 1) (startM w a0 a1 a2 a3 a4 a5 a6) w' → w'.cell? ⟨w.heap.size, 1, none⟩ = some (.float .f32 a1) := fun w' h => by rw [h.cell (by simp)]; simp [startM]
  have ka2 : ∀ w', Below (w.heap.size + 1) (startM w a0 a1 a2 a3 a4 a5 a6) w' → w'.cell? ⟨w.heap.size, 2, none⟩ = some (.float .f32 a2) := fun w' h => by rw [h.cell (by simp)]; simp [startM]
  have ka3 : ∀ w', Below (w.heap.size + 1) (startM w a0 a1 a2 a3 a4 a5 a6) w' → w'.cell? ⟨w.heap.size, 3, none⟩ = some (.float .f32 a3) := fun w' h => by rw [h.cell (by simp)]; simp [startM]
  have ka4 : ∀ w', Below (w.heap.size + 1) (startM w a0 a1 a2 a3 a4 a5 a6) w' → w'.cell? ⟨w.heap.size, 4, none⟩ = some (.float .f32 a4) := fun w' h => by rw [h.cell (by simp)]; simp [startM]
  have ka5 : ∀ w', Below (w.heap.size + 1) (startM w a0 a1 a2 a3 a4 a5 a6) w' → w'.cell? ⟨w.heap.size, 5, none⟩ = some (.float .f32 a5) := fun w' h => by rw [h.cell (by simp)]; simp [startM]
  have ka6 : ∀ w', Below (w.heap.size + 1) (startM w a0 a1 a2 a3 a4 a5 a6) w' → w'.cell? ⟨w.heap.size, 6, none⟩ = some (.float .f32 a6) := fun w' h => by rw [h.cell (by simp)]; simp [startM]
  have kd : ∀ w', Below (w.heap.size + 1) (startM w a0 a1 a2 a3 a4 a5 a6) w' → w'.cell? ⟨pb, 0, none⟩ = some (.float .f32 b) := fun w' h => by rw [h.cell (by simp; omega), bS.cell (by exact lb), d0]
  have ke : ∀ w', Below (w.heap.size + 1) (startM w a0 a1 a2 a3 a4 a5 a6) w' → w'.cell? ⟨ps, 0, none⟩ = some (.float .f32 d) := fun w' h => by rw [h.cell (by simp; omega), bS.cell (by exact ls), e0]
  clear d0 e0
  have hS0 : w.heap.size + 1 ≤ (startM w a0 a1 a2 a3 a4 a5 a6).heap.size := by simp [startM]
  have hs0 : Has (w.heap.size + 1) 7 (startM w a0 a1 a2 a3 a4 a5 a6) := by
    have h := has_alloc7 (w.alloc (.cells #[.float .f32 a0, .float .f32 a1, .float .f32 a2, .float .f32 a3, .float .f32 a4, .float .f32 a5, .float .f32 a6] 40)) (.float .f32 0) (.float .f32 0) (.float .f32 0) (.float .f32 0) (.float .f32 0) (.float .f32 0) (.float .f32 0) 40
    simpa using h
  have r0 : ∀ w', Has (w.heap.size + 1) 7 w' → w'.cell? ⟨w.heap.size + 1, 0, none⟩ = some (rdc w' (w.heap.size + 1) 0) := fun w' h => h.cell (by decide)
  have r1 : ∀ w', Has (w.heap.size + 1) 7 w' → w'.cell? ⟨w.heap.size + 1, 1, none⟩ = some (rdc w' (w.heap.size + 1) 1) := fun w' h => h.cell (by decide)
  have r2 : ∀ w', Has (w.heap.size + 1) 7 w' → w'.cell? ⟨w.heap.size + 1, 2, none⟩ = some (rdc w' (w.heap.size + 1) 2) := fun w' h => h.cell (by decide)
  have r3 : ∀ w', Has (w.heap.size + 1) 7 w' → w'.cell? ⟨w.heap.size + 1, 3, none⟩ = some (rdc w' (w.heap.size + 1) 3) := fun w' h => h.cell (by decide)
  have r4 : ∀ w', Has (w.heap.size + 1) 7 w' → w'.cell? ⟨w.heap.size + 1, 4, none⟩ = some (rdc w' (w.heap.size + 1) 4) := fun w' h => h.cell (by decide)
  have r5 : ∀ w', Has (w.heap.size + 1) 7 w' → w'.cell? ⟨w.heap.size + 1, 5, none⟩ = some (rdc w' (w.heap.size + 1) 5) := fun w' h => h.cell (by decide)
  have r6 : ∀ w', Has (w.heap.size + 1) 7 w' → w'.cell? ⟨w.heap.size + 1, 6, none⟩ = some (rdc w' (w.heap.size + 1) 6) := fun w' h => h.cell (by decide)
  have rf : ∀ w', Has (w.heap.size + 1) 7 w' → ∀ o, w'.frozen? ⟨w.heap.size + 1, o, none⟩ = false := fun w' h o => h.frz o
  go_enter Try.func21, Try.ntmps21
  go_wp2_with fail
  go_region_held3 (fun w' => Below (w.heap.size + 1) (startM w a0 a1 a2 a3 a4 a5 a6) w' ∧ Has (w.heap.size + 1) 7 w') ((go_split_ands; refine ⟨?_, ?_⟩; (repeat' (first | with_reducible assumption | with_reducible exact Below.refl _ _ | with_reducible exact keepW (by with_reducible assumption) (by with_reducible assumption) (by first | exact Nat.le_refl _ | assumption | omega | (simp; done) | (simp; omega)) | with_reducible exact keepS (by with_reducible assumption) (by with_reducible assumption) (by first | exact Nat.le_refl _ | assumption | omega | (simp; done) | (simp; omega)) | (with_reducible refine Below.setCell ?_ (by first | omega | (simp; done) | (simp; omega)) _) | (with_reducible refine below_drewN ?_ _) | (with_reducible refine Below.drew ?_) | (with_reducible refine Below.trans ?_ (Below.mono (by with_reducible assumption) (by first | omega | (simp; done) | (simp; omega)))) | (with_reducible refine Below.trans ?_ (Below.mono (Grow.below (by with_reducible assumption)) (by first | omega | (simp; done) | (simp; omega)))) | (with_reducible refine Below.alloc ?_ (by first | omega | (simp; done) | (simp; omega)) _))); (repeat' (first | with_reducible assumption | (with_reducible refine Has.setCell ?_ _ _) | (with_reducible refine Has.drewN ?_ _) | (with_reducible refine Has.drew ?_) | (with_reducible refine Has.at ?_ (by with_reducible assumption)) | (with_reducible refine Has.grow ?_ (by with_reducible assumption)) | (with_reducible refine Has.alloc ?_ _))))) ((go_at_call 22; refine (iTv (by assumption) (by assumption) (by assumption) gc gs _).mono ?_; rintro eq wq ⟨rq0, rq1, rq2, rfl, hq0, hq1, hq2, hb⟩))
  all_goals
    rename_i hHeld
    go_wp2_with fail
    have hH0 : Has (w.heap.size + 1) 7 wq := Has.grow (Has.grow hs0.drew (by with_reducible assumption)) (by with_reducible assumption)
    have z0 := r0 _ hH0
    have z1 := r1 _ hH0
    have z2 := r2 _ hH0
    have z3 := r3 _ hH0
    have z4 := r4 _ hH0
    have z5 := r5 _ hH0
    have z6 := r6 _ hH0
    refine bodyPost_ret (v := bodV _ _ _ _ _ _ a6) (by simp [results, Try.results21, go_sem, z0, z1, z2, z3, z4, z5, z6]; exact ⟨rfl, rfl, rfl, rfl, rfl, rfl⟩) rfl ⟨⟨_, _, _, _, _, _, rfl, by assumption, by assumption, by assumption, by assumption, by assumption, by assumption⟩, bS.trans (hHeld.1.mono (by omega))⟩
end Go.Proofs.Ytfcfejniodbbdaa
