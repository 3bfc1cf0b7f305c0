/-
  Whether two bodies are the same, of the program. No condition.
-/
import Derived.Test.YtnohgnjoekibaaaSamV
import Derived.Test.YtnohgnjoekibaaaBod
import Derived.Test.YtnohgnjoekibaaaHas
namespace Go.Proofs.Ytnohgnjoekibaaa
open Go.RowKit

abbrev startB (w : World) (a0 a1 a2 a3 a4 a5 a6 : Nat) : World := (w.alloc (.cells #[.float .f32 a0, .float .f32 a1, .float .f32 a2, .float .f32 a3, .float .f32 a4, .float .f32 a5, .float .f32 a6] 42)).alloc (.cells #[.int .i64 0, .int .i64 0, .int .i64 0, .int .i64 0, .int .i64 0, .int .i64 0, .int .i64 0] 64)
theorem mk_startB (w : World) (a0 a1 a2 a3 a4 a5 a6 : Nat) (w' : World) (h : Below (w.heap.size + 1) (startB w a0 a1 a2 a3 a4 a5 a6) w') : w'.cell? ⟨w.heap.size, 0, none⟩ = some (.float .f32 a0) ∧ w'.cell? ⟨w.heap.size, 1, none⟩ = some (.float .f32 a1) ∧ w'.cell? ⟨w.heap.size, 2, none⟩ = some (.float .f32 a2) ∧ w'.cell? ⟨w.heap.size, 3, none⟩ = some (.float .f32 a3) ∧ w'.cell? ⟨w.heap.size, 4, none⟩ = some (.float .f32 a4) ∧ w'.cell? ⟨w.heap.size, 5, none⟩ = some (.float .f32 a5) ∧ w'.cell? ⟨w.heap.size, 6, none⟩ = some (.float .f32 a6) ∧ Below (w.heap.size + 1) (startB w a0 a1 a2 a3 a4 a5 a6) w' := by
  refine ⟨?_, ?_, ?_, ?_, ?_, ?_, ?_, h⟩ <;> rw [h.cell (by simp)] <;> simp [startB]

set_option maxHeartbeats 1600000 in
theorem bitsBod_any {a0 a1 a2 a3 a4 a5 a6 : Nat} {x0 x1 x2 x3 x4 x5 x6 : Option Nat} (h0 : Is .f32 a0 x0) (h1 : Is .f32 a1 x1) (h2 : Is .f32 a2 x2) (h3 : Is .f32 a3 x3) (h4 : Is .f32 a4 x4) (h5 : Is .f32 a5 x5) (h6 : Is .f32 a6 x6) (w : World) :
    Calls Try.prog 38 #[bodV a0 a1 a2 a3 a4 a5 a6] w fun e w' => e = .returned (bitsB (bitsI x0) (bitsI x1) (bitsI x2) (bitsI x3) (bitsI x4) (bitsI x5) (bitsI x6)) ∧ Below w.heap.size w w' := by
  have k0 : ∀ w', Below (w.heap.size + 1) (startB w a0 a1 a2 a3 a4 a5 a6) w' → w'.cell? ⟨w.heap.size, 0, none⟩ = some (.float .f32 a0) := fun w' h => by rw [h.cell (by simp)]; simp [startB]
  have k1 : ∀ w', Below (w.heap.size + 1) (startB w a0 a1 a2 a3 a4 a5 a6) w' → w'.cell? ⟨w.heap.size, 1, none⟩ = some (.float .f32 a1) := fun w' h => by rw [h.cell (by simp)]; simp [startB]
  have k2 : ∀ w', Below (w.heap.size + 1) (startB w a0 a1 a2 a3 a4 a5 a6) w' → w'.cell? ⟨w.heap.size, 2, none⟩ = some (.float .f32 a2) := fun w' h => by rw [h.cell (by simp)]; simp [startB]
  have k3 : ∀ w', Below (w.heap.size + 1) (startB w a0 a1 a2 a3 a4 a5 a6) w' → w'.cell? ⟨w.heap.size, 3, none⟩ = some (.float .f32 a3) := fun w' h => by rw [h.cell (by simp)]; simp [startB]
  have k4 : ∀ w', Below (w.heap.size + 1) (startB w a0 a1 a2 a3 a4 a5 a6) w' → w'.cell? ⟨w.heap.size, 4, none⟩ = some (.float .f32 a4) := fun w' h => by rw [h.cell (by simp)]; simp [startB]
  have k5 : ∀ w', Below (w.heap.size + 1) (startB w a0 a1 a2 a3 a4 a5 a6) w' → w'.cell? ⟨w.heap.size, 5, none⟩ = some (.float .f32 a5) := fun w' h => by rw [h.cell (by simp)]; simp [startB]
  have k6 : ∀ w', Below (w.heap.size + 1) (startB w a0 a1 a2 a3 a4 a5 a6) w' → w'.cell? ⟨w.heap.size, 6, none⟩ = some (.float .f32 a6) := fun w' h => by rw [h.cell (by simp)]; simp [startB]
  have hs0 : Has (w.heap.size + 1) 7 (startB w a0 a1 a2 a3 a4 a5 a6) := by
    refine ⟨by simp [startB], fun o ho => ?_, fun o => ?_⟩
    · match o, ho with
      | 0, _ => simp [startB]
      | 1, _ => simp [startB]
      | 2, _ => simp [startB]
      | 3, _ => simp [startB]
      | 4, _ => simp [startB]
      | 5, _ => simp [startB]
      | 6, _ => simp [startB]
    · simp [startB]
  have r0 : ∀ w', Has (w.heap.size + 1) 7 w' → w'.cell? ⟨w.heap.size + 1, 0, none⟩ = some (rdc w' (w.heap.size + 1) 0) := fun w' h => h.cell (by decide)
  have r1 : ∀ w', Has (w.heap.size + 1) 7 w' → w'.cell? ⟨w.heap.size + 1, 1, none⟩ = some (rdc w' (w.heap.size + 1) 1) := fun w' h => h.cell (by decide)
  have r2 : ∀ w', Has (w.heap.size + 1) 7 w' → w'.cell? ⟨w.heap.size + 1, 2, none⟩ = some (rdc w' (w.heap.size + 1) 2) := fun w' h => h.cell (by decide)
  have r3 : ∀ w', Has (w.heap.size + 1) 7 w' → w'.cell? ⟨w.heap.size + 1, 3, none⟩ = some (rdc w' (w.heap.size + 1) 3) := fun w' h => h.cell (by decide)
  have r4 : ∀ w', Has (w.heap.size + 1) 7 w' → w'.cell? ⟨w.heap.size + 1, 4, none⟩ = some (rdc w' (w.heap.size + 1) 4) := fun w' h => h.cell (by decide)
  have r5 : ∀ w', Has (w.heap.size + 1) 7 w' → w'.cell? ⟨w.heap.size + 1, 5, none⟩ = some (rdc w' (w.heap.size + 1) 5) := fun w' h => h.cell (by decide)
  have r6 : ∀ w', Has (w.heap.size + 1) 7 w' → w'.cell? ⟨w.heap.size + 1, 6, none⟩ = some (rdc w' (w.heap.size + 1) 6) := fun w' h => h.cell (by decide)
  have rf : ∀ w', Has (w.heap.size + 1) 7 w' → ∀ o, w'.frozen? ⟨w.heap.size + 1, o, none⟩ = false := fun w' h o => h.frz o
  go_enter Try.func38, Try.ntmps38
  go_wp2_with fail
  go_region_held3 (fun w' => Below (w.heap.size + 1) (startB w a0 a1 a2 a3 a4 a5 a6) w' ∧ Has (w.heap.size + 1) 7 w')
    ((go_split_ands; refine ⟨?_, ?_⟩; (first | with_reducible assumption | with_reducible exact (Below.refl _ _).drew | with_reducible exact Below.refl _ _ | (with_reducible refine below_drewN ?_ _; with_reducible assumption) | with_reducible exact keepS (by with_reducible assumption) (by with_reducible assumption) (by simp [startB]) | (with_reducible refine ((((((Below.setCell ?_ ?_ _).setCell ?_ _).setCell ?_ _).setCell ?_ _).setCell ?_ _).setCell ?_ _).setCell ?_ _; (first | with_reducible assumption | (with_reducible refine below_drewN ?_ _; with_reducible assumption)); simp; simp; simp; simp; simp; simp; simp)); (first | with_reducible assumption | with_reducible exact hs0.drew | with_reducible exact hs0 | (with_reducible exact Has.drewN (by with_reducible assumption) _) | (with_reducible exact Has.grow (by with_reducible assumption) (by with_reducible assumption)) | (with_reducible refine ((((((Has.setCell ?_ _ _).setCell _ _).setCell _ _).setCell _ _).setCell _ _).setCell _ _).setCell _ _; (first | with_reducible assumption | with_reducible exact Has.drewN (by with_reducible assumption) _)))))
    (first | (go_at_call 54; refine (bitsOf_any (by assumption) _).mono ?_; rintro eq wq ⟨nq, rfl, rfl⟩) | (go_at_call 53; refine (bitsVec_any (by assumption) (by assumption) (by assumption) _).mono ?_; rintro eq wq ⟨rfl, hb⟩))
  rename_i hHeld
  obtain ⟨hB, hH⟩ := hHeld
  go_wp2_with fail
  have hH0 : Has (w.heap.size + 1) 7 wq := Has.grow (Has.grow hs0.drew (by with_reducible assumption)) (by with_reducible assumption)
  have e0 := r0 _ hH0
  have e1 := r1 _ hH0
  have e2 := r2 _ hH0
  have e3 := r3 _ hH0
  have e4 := r4 _ hH0
  have e5 := r5 _ hH0
  have e6 := r6 _ hH0
  have b0 : Below w.heap.size w (startB w a0 a1 a2 a3 a4 a5 a6) := ((Below.refl _ _).alloc (Nat.le_refl _) _).alloc (by simp) _
  refine bodyPost_ret (v := bitsB (bitsI x0) (bitsI x1) (bitsI x2) (bitsI x3) (bitsI x4) (bitsI x5) (bitsI x6)) (by simp [results, Try.results38, go_sem, e0, e1, e2, e3, e4, e5, e6]) rfl ⟨rfl, b0.trans (hB.mono (by omega))⟩

/-- Whether seven values are the same as seven others. -/
def sameV7 (x0 x1 x2 x3 x4 x5 x6 y0 y1 y2 y3 y4 y5 y6 : Option Nat) : Bool := sameV3 x0 x1 x2 y0 y1 y2 && sameV3 x3 x4 x5 y3 y4 y5 && sameV x6 y6

abbrev startP (w : World) (a0 a1 a2 a3 a4 a5 a6 b0 b1 b2 b3 b4 b5 b6 : Nat) : World := (w.alloc (.cells #[.float .f32 a0, .float .f32 a1, .float .f32 a2, .float .f32 a3, .float .f32 a4, .float .f32 a5, .float .f32 a6] 42)).alloc (.cells #[.float .f32 b0, .float .f32 b1, .float .f32 b2, .float .f32 b3, .float .f32 b4, .float .f32 b5, .float .f32 b6] 42)

theorem keepB {B : Nat} {W0 X Y : World} (h : Below B W0 X) (g : Below X.heap.size X Y) (hB : B ≤ W0.heap.size) : Below B W0 Y := h.trans (g.mono (Nat.le_trans hB h.size))

set_option maxHeartbeats 1600000 in
theorem iSameB {a0 a1 a2 a3 a4 a5 a6 b0 b1 b2 b3 b4 b5 b6 : Nat} {x0 x1 x2 x3 x4 x5 x6 y0 y1 y2 y3 y4 y5 y6 : Option Nat} (h0 : Is .f32 a0 x0) (h1 : Is .f32 a1 x1) (h2 : Is .f32 a2 x2) (h3 : Is .f32 a3 x3) (h4 : Is .f32 a4 x4) (h5 : Is .f32 a5 x5) (h6 : Is .f32 a6 x6) (g0 : Is .f32 b0 y0) (g1 : Is .f32 b1 y1) (g2 : Is .f32 b2 y2) (g3 : Is .f32 b3 y3) (g4 : Is .f32 b4 y4) (g5 : Is .f32 b5 y5) (g6 : Is .f32 b6 y6) (w : World) :
    Calls Try.prog 24 #[bodV a0 a1 a2 a3 a4 a5 a6, bodV b0 b1 b2 b3 b4 b5 b6] w fun e w' => e = .returned (.bool (sameV7 x0 x1 x2 x3 x4 x5 x6 y0 y1 y2 y3 y4 y5 y6)) ∧ Below w.heap.size w w' := by
  have heq := eqBitsB
  have k0 : ∀ w', Below (w.heap.size + 2) (startP w a0 a1 a2 a3 a4 a5 a6 b0 b1 b2 b3 b4 b5 b6) w' → w'.cell? ⟨w.heap.size, 0, none⟩ = some (.float .f32 a0) := fun w' h => by rw [h.cell (by simp)]; simp [startP]
  have k1 : ∀ w', Below (w.heap.size + 2) (startP w a0 a1 a2 a3 a4 a5 a6 b0 b1 b2 b3 b4 b5 b6) w' → w'.cell? ⟨w.heap.size, 1, none⟩ = some (.float .f32 a1) := fun w' h => by rw [h.cell (by simp)]; simp [startP]
  have k2 : ∀ w', Below (w.heap.size + 2) (startP w a0 a1 a2 a3 a4 a5 a6 b0 b1 b2 b3 b4 b5 b6) w' → w'.cell? ⟨w.heap.size, 2, none⟩ = some (.float .f32 a2) := fun w' h => by rw [h.cell (by simp)]; simp [startP]
  have k3 : ∀ w', Below (w.heap.size + 2) (startP w a0 a1 a2 a3 a4 a5 a6 b0 b1 b2 b3 b4 b5 b6) w' → w'.cell? ⟨w.heap.size, 3, none⟩ = some (.float .f32 a3) := fun w' h => by rw [h.cell (by simp)]; simp [startP]
  have k4 : ∀ w', Below (w.heap.size + 2) (startP w a0 a1 a2 a3 a4 a5 a6 b0 b1 b2 b3 b4 b5 b6) w' → w'.cell? ⟨w.heap.size, 4, none⟩ = some (.float .f32 a4) := fun w' h => by rw [h.cell (by simp)]; simp [startP]
  have k5 : ∀ w', Below (w.heap.size + 2) (startP w a0 a1 a2 a3 a4 a5 a6 b0 b1 b2 b3 b4 b5 b6) w' → w'.cell? ⟨w.heap.size, 5, none⟩ = some (.float .f32 a5) := fun w' h => by rw [h.cell (by simp)]; simp [startP]
  have k6 : ∀ w', Below (w.heap.size + 2) (startP w a0 a1 a2 a3 a4 a5 a6 b0 b1 b2 b3 b4 b5 b6) w' → w'.cell? ⟨w.heap.size, 6, none⟩ = some (.float .f32 a6) := fun w' h => by rw [h.cell (by simp)]; simp [startP]
  have q0 : ∀ w', Below (w.heap.size + 2) (startP w a0 a1 a2 a3 a4 a5 a6 b0 b1 b2 b3 b4 b5 b6) w' → w'.cell? ⟨w.heap.size + 1, 0, none⟩ = some (.float .f32 b0) := fun w' h => by rw [h.cell (by simp)]; simp [startP]
  have q1 : ∀ w', Below (w.heap.size + 2) (startP w a0 a1 a2 a3 a4 a5 a6 b0 b1 b2 b3 b4 b5 b6) w' → w'.cell? ⟨w.heap.size + 1, 1, none⟩ = some (.float .f32 b1) := fun w' h => by rw [h.cell (by simp)]; simp [startP]
  have q2 : ∀ w', Below (w.heap.size + 2) (startP w a0 a1 a2 a3 a4 a5 a6 b0 b1 b2 b3 b4 b5 b6) w' → w'.cell? ⟨w.heap.size + 1, 2, none⟩ = some (.float .f32 b2) := fun w' h => by rw [h.cell (by simp)]; simp [startP]
  have q3 : ∀ w', Below (w.heap.size + 2) (startP w a0 a1 a2 a3 a4 a5 a6 b0 b1 b2 b3 b4 b5 b6) w' → w'.cell? ⟨w.heap.size + 1, 3, none⟩ = some (.float .f32 b3) := fun w' h => by rw [h.cell (by simp)]; simp [startP]
  have q4 : ∀ w', Below (w.heap.size + 2) (startP w a0 a1 a2 a3 a4 a5 a6 b0 b1 b2 b3 b4 b5 b6) w' → w'.cell? ⟨w.heap.size + 1, 4, none⟩ = some (.float .f32 b4) := fun w' h => by rw [h.cell (by simp)]; simp [startP]
  have q5 : ∀ w', Below (w.heap.size + 2) (startP w a0 a1 a2 a3 a4 a5 a6 b0 b1 b2 b3 b4 b5 b6) w' → w'.cell? ⟨w.heap.size + 1, 5, none⟩ = some (.float .f32 b5) := fun w' h => by rw [h.cell (by simp)]; simp [startP]
  have q6 : ∀ w', Below (w.heap.size + 2) (startP w a0 a1 a2 a3 a4 a5 a6 b0 b1 b2 b3 b4 b5 b6) w' → w'.cell? ⟨w.heap.size + 1, 6, none⟩ = some (.float .f32 b6) := fun w' h => by rw [h.cell (by simp)]; simp [startP]
  go_enter Try.func24, Try.ntmps24
  go_wp2_with fail
  go_region_held3 (fun w' => Below (w.heap.size + 2) (startP w a0 a1 a2 a3 a4 a5 a6 b0 b1 b2 b3 b4 b5 b6) w')
    (first | with_reducible assumption | with_reducible exact (Below.refl _ _).drew | with_reducible exact Below.refl _ _ | with_reducible exact keepB (by with_reducible assumption) (by with_reducible assumption) (by simp [startP]))
    (first | (go_at_call 38; refine (bitsBod_any (by assumption) (by assumption) (by assumption) (by assumption) (by assumption) (by assumption) (by assumption) _).mono ?_; rintro eq wq ⟨rfl, hb⟩))
  rename_i hHeld
  go_wp2_with fail
  go_ret
  have b0 : Below w.heap.size w (startP w a0 a1 a2 a3 a4 a5 a6 b0 b1 b2 b3 b4 b5 b6) := ((Below.refl _ _).alloc (Nat.le_refl _) _).alloc (by simp) _
  exact ⟨rfl, b0.trans (hHeld.mono (by omega))⟩
end Go.Proofs.Ytnohgnjoekibaaa
