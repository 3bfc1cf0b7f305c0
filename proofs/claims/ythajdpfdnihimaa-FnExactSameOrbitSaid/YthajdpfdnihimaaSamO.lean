/-
  Whether two orbits are the same, of the program and of the model. No condition.
-/
import Derived.Test.YthajdpfdnihimaaOrbS
import Derived.Test.YthajdpfdnihimaaFns1
import Derived.Test.YthajdpfdnihimaaHas
import Derived.Laws.StructEq
import Derived.ChangeKeysEq
namespace Go.Proofs.Ythajdpfdnihimaa
open Go.RowKit

def sameV (a b : Option Nat) : Bool := bitsI a == bitsI b
def sameV6 (x0 x1 x2 x3 x4 x5 y0 y1 y2 y3 y4 y5 : Option Nat) : Bool := sameV x0 y0 && (sameV x1 y1 && (sameV x2 y2 && (sameV x3 y3 && (sameV x4 y4 && sameV x5 y5))))

abbrev bitsA (c0 c1 c2 c3 c4 c5 : Int) : Value := .agg #[.int .i64 c0, .int .i64 c1, .int .i64 c2, .int .i64 c3, .int .i64 c4, .int .i64 c5]

theorem eqBitsA (c0 c1 c2 c3 c4 c5 d0 d1 d2 d3 d4 d5 : Int) (w : World) : (Op.equalIn 10000 41 (bitsA c0 c1 c2 c3 c4 c5) (bitsA d0 d1 d2 d3 d4 d5)).run Try.prog w = .ok (c0 == d0 && (c1 == d1 && (c2 == d2 && (c3 == d3 && (c4 == d4 && c5 == d5))))) w := by
  have u2 := Try.underlying2
  have a2 := Try.isAgg2
  have hS := Try.underlying41
  obtain ⟨i, hi⟩ : ∃ i, Try.prog.info? 2 = some i := Option.isSome_iff_exists.1 (by kernel_rfl)
  have hc : Try.prog.cellsOf 2 = 1 := by kernel_rfl
  have hq : ∀ (a b : Int) (w : World), (Op.equalIn 9999 2 (.int .i64 a) (.int .i64 b)).run Try.prog w = .ok (a == b) w := fun a b w => run_equalIn_int w 9998 2 .i64 .i64 a b u2
  rw [show (10000 : Nat) = 9999 + 1 from rfl, run_equalIn_array w 9999 _ _ hS hi, hc, show List.range 6 = [0, 1, 2, 3, 4, 5] from rfl]
  simp only [Op.eqItems, Sem.run_bind]
  go_simp
  by_cases h0 : c0 = d0 <;> by_cases h1 : c1 = d1 <;> by_cases h2 : c2 = d2 <;> by_cases h3 : c3 = d3 <;> by_cases h4 : c4 = d4 <;> by_cases h5 : c5 = d5 <;> simp [*]

theorem keepO {B : Nat} {W0 X Y : World} (h : Below B W0 X) (g : Below X.heap.size X Y) (hB : B ≤ W0.heap.size) : Below B W0 Y := h.trans (g.mono (Nat.le_trans hB h.size))

abbrev startO1 (w : World) (a0 a1 a2 a3 a4 a5 : Nat) : World := ((w.alloc (.cells #[.float .f32 a0, .float .f32 a1, .float .f32 a2, .float .f32 a3, .float .f32 a4, .float .f32 a5] 26)).alloc (.cells #[.int .i64 0, .int .i64 0, .int .i64 0, .int .i64 0, .int .i64 0, .int .i64 0] 41))
abbrev startO2 (w : World) (a0 a1 a2 a3 a4 a5 b0 b1 b2 b3 b4 b5 : Nat) : World := ((w.alloc (.cells #[.float .f32 a0, .float .f32 a1, .float .f32 a2, .float .f32 a3, .float .f32 a4, .float .f32 a5] 26)).alloc (.cells #[.float .f32 b0, .float .f32 b1, .float .f32 b2, .float .f32 b3, .float .f32 b4, .float .f32 b5] 26))
abbrev startO3 (w : World) (a0 a1 a2 a3 a4 a5 b0 b1 b2 b3 b4 b5 : Nat) : World := ((w.alloc (.cells #[.float .f32 a0, .float .f32 a1, .float .f32 a2, .float .f32 a3, .float .f32 a4, .float .f32 a5] 24)).alloc (.cells #[.float .f32 b0, .float .f32 b1, .float .f32 b2, .float .f32 b3, .float .f32 b4, .float .f32 b5] 24))

set_option maxHeartbeats 1600000 in
theorem bitsOrb_any {a0 a1 a2 a3 a4 a5 : Nat} {x0 x1 x2 x3 x4 x5 : Option Nat} (h0 : Is .f32 a0 x0) (h1 : Is .f32 a1 x1) (h2 : Is .f32 a2 x2) (h3 : Is .f32 a3 x3) (h4 : Is .f32 a4 x4) (h5 : Is .f32 a5 x5) (w : World) :
    Calls Try.prog 30 #[orbV a0 a1 a2 a3 a4 a5] w fun e w' => e = .returned (bitsA (bitsI x0) (bitsI x1) (bitsI x2) (bitsI x3) (bitsI x4) (bitsI x5)) ∧ Below w.heap.size w w' := by
  have ka0 : ∀ w', Below (w.heap.size + 1) (startO1 w a0 a1 a2 a3 a4 a5) w' → w'.cell? ⟨w.heap.size, 0, none⟩ = some (.float .f32 a0) := fun w' h => by rw [h.cell (by simp)]; simp [startO1]
  have ka1 : ∀ w', Below (w.heap.size + 1) (startO1 w a0 a1 a2 a3 a4 a5) w' → w'.cell? ⟨w.heap.size, 1, none⟩ = some (.float .f32 a1) := fun w' h => by rw [h.cell (by simp)]; simp [startO1]
  have ka2 : ∀ w', Below (w.heap.size + 1) (startO1 w a0 a1 a2 a3 a4 a5) w' → w'.cell? ⟨w.heap.size, 2, none⟩ = some (.float .f32 a2) := fun w' h => by rw [h.cell (by simp)]; simp [startO1]
  have ka3 : ∀ w', Below (w.heap.size + 1) (startO1 w a0 a1 a2 a3 a4 a5) w' → w'.cell? ⟨w.heap.size, 3, none⟩ = some (.float .f32 a3) := fun w' h => by rw [h.cell (by simp)]; simp [startO1]
  have ka4 : ∀ w', Below (w.heap.size + 1) (startO1 w a0 a1 a2 a3 a4 a5) w' → w'.cell? ⟨w.heap.size, 4, none⟩ = some (.float .f32 a4) := fun w' h => by rw [h.cell (by simp)]; simp [startO1]
  have ka5 : ∀ w', Below (w.heap.size + 1) (startO1 w a0 a1 a2 a3 a4 a5) w' → w'.cell? ⟨w.heap.size, 5, none⟩ = some (.float .f32 a5) := fun w' h => by rw [h.cell (by simp)]; simp [startO1]
  have hs0 : Has (w.heap.size + 1) 6 (startO1 w a0 a1 a2 a3 a4 a5) := by
    refine ⟨by simp [startO1], fun o ho => ?_, fun o => ?_⟩
    · match o, ho with
      | 0, _ => simp [startO1]
      | 1, _ => simp [startO1]
      | 2, _ => simp [startO1]
      | 3, _ => simp [startO1]
      | 4, _ => simp [startO1]
      | 5, _ => simp [startO1]
    · simp [startO1]
  have r0 : ∀ w', Has (w.heap.size + 1) 6 w' → w'.cell? ⟨w.heap.size + 1, 0, none⟩ = some (rdc w' (w.heap.size + 1) 0) := fun w' h => h.cell (by decide)
  have r1 : ∀ w', Has (w.heap.size + 1) 6 w' → w'.cell? ⟨w.heap.size + 1, 1, none⟩ = some (rdc w' (w.heap.size + 1) 1) := fun w' h => h.cell (by decide)
  have r2 : ∀ w', Has (w.heap.size + 1) 6 w' → w'.cell? ⟨w.heap.size + 1, 2, none⟩ = some (rdc w' (w.heap.size + 1) 2) := fun w' h => h.cell (by decide)
  have r3 : ∀ w', Has (w.heap.size + 1) 6 w' → w'.cell? ⟨w.heap.size + 1, 3, none⟩ = some (rdc w' (w.heap.size + 1) 3) := fun w' h => h.cell (by decide)
  have r4 : ∀ w', Has (w.heap.size + 1) 6 w' → w'.cell? ⟨w.heap.size + 1, 4, none⟩ = some (rdc w' (w.heap.size + 1) 4) := fun w' h => h.cell (by decide)
  have r5 : ∀ w', Has (w.heap.size + 1) 6 w' → w'.cell? ⟨w.heap.size + 1, 5, none⟩ = some (rdc w' (w.heap.size + 1) 5) := fun w' h => h.cell (by decide)
  have rf : ∀ w', Has (w.heap.size + 1) 6 w' → ∀ o, w'.frozen? ⟨w.heap.size + 1, o, none⟩ = false := fun w' h o => h.frz o
  go_enter Try.func30, Try.ntmps30
  go_wp2_with fail
  go_region_held3 (fun w' => Below (w.heap.size + 1) (startO1 w a0 a1 a2 a3 a4 a5) w' ∧ Has (w.heap.size + 1) 6 w')
    ((go_split_ands; refine ⟨?_, ?_⟩; (first | with_reducible assumption | with_reducible exact (Below.refl _ _).drew | with_reducible exact Below.refl _ _ | (with_reducible refine below_drewN ?_ _; (first | with_reducible assumption | with_reducible exact Below.refl _ _)) | (with_reducible refine (((((Below.setCell ?_ ?_ _).setCell ?_ _).setCell ?_ _).setCell ?_ _).setCell ?_ _).setCell ?_ _; (first | with_reducible assumption | (with_reducible refine below_drewN ?_ _; (first | with_reducible assumption | with_reducible exact Below.refl _ _))); simp; simp; simp; simp; simp; simp)); (first | with_reducible assumption | with_reducible exact hs0.drew | with_reducible exact hs0 | (with_reducible exact Has.drewN (by with_reducible assumption) _) | (with_reducible exact Has.drewN hs0 _) | (with_reducible refine (((((Has.setCell ?_ _ _).setCell _ _).setCell _ _).setCell _ _).setCell _ _).setCell _ _; (first | with_reducible assumption | with_reducible exact Has.drewN (by with_reducible assumption) _ | with_reducible exact Has.drewN hs0 _)))))
    (first | (go_at_call 49; refine (bitsOf_any (by assumption) _).mono ?_; rintro eq wq ⟨nq, rfl, rfl⟩))
  rename_i hHeld
  obtain ⟨hB, hH⟩ := hHeld
  have e0 := r0 _ hs0
  have e1 := r1 _ hs0
  have e2 := r2 _ hs0
  have e3 := r3 _ hs0
  have e4 := r4 _ hs0
  have e5 := r5 _ hs0
  go_wp2_with fail
  have b0 : Below w.heap.size w (startO1 w a0 a1 a2 a3 a4 a5) := ((Below.refl _ _).alloc (Nat.le_refl _) _).alloc (by simp) _
  refine bodyPost_ret (v := bitsA (bitsI x0) (bitsI x1) (bitsI x2) (bitsI x3) (bitsI x4) (bitsI x5)) (by simp [results, Try.results30, go_sem]) rfl ⟨rfl, b0.trans (hB.mono (by omega))⟩

theorem same1_any {x y : Nat} {a b : Option Nat} (ix : Is .f32 x a) (iy : Is .f32 y b) (w : World) :
    Calls Try.prog 29 #[.float .f32 x, .float .f32 y] w (RetV (.bool (sameV a b)) w) := by
  go_enter Try.func29, Try.ntmps29
  go_wp2_with (go_at_call 48; refine (l01Bits_any (by assumption) _).mono ?_; rintro eq wq ⟨nq, rfl, rfl⟩)
  go_ret
  exact RetV.eq _ rfl

set_option maxHeartbeats 1600000 in
theorem iSameO {a0 a1 a2 a3 a4 a5 b0 b1 b2 b3 b4 b5 : Nat} {x0 x1 x2 x3 x4 x5 y0 y1 y2 y3 y4 y5 : Option Nat} (h0 : Is .f32 a0 x0) (h1 : Is .f32 a1 x1) (h2 : Is .f32 a2 x2) (h3 : Is .f32 a3 x3) (h4 : Is .f32 a4 x4) (h5 : Is .f32 a5 x5) (g0 : Is .f32 b0 y0) (g1 : Is .f32 b1 y1) (g2 : Is .f32 b2 y2) (g3 : Is .f32 b3 y3) (g4 : Is .f32 b4 y4) (g5 : Is .f32 b5 y5) (w : World) :
    Calls Try.prog 13 #[orbV a0 a1 a2 a3 a4 a5, orbV b0 b1 b2 b3 b4 b5] w fun e w' => e = .returned (.bool (sameV6 x0 x1 x2 x3 x4 x5 y0 y1 y2 y3 y4 y5)) ∧ Below w.heap.size w w' := by
  have heq := eqBitsA
  have ka0 : ∀ w', Below (w.heap.size + 2) (startO2 w a0 a1 a2 a3 a4 a5 b0 b1 b2 b3 b4 b5) w' → w'.cell? ⟨w.heap.size, 0, none⟩ = some (.float .f32 a0) := fun w' h => by rw [h.cell (by simp)]; simp [startO2]
  have ka1 : ∀ w', Below (w.heap.size + 2) (startO2 w a0 a1 a2 a3 a4 a5 b0 b1 b2 b3 b4 b5) w' → w'.cell? ⟨w.heap.size, 1, none⟩ = some (.float .f32 a1) := fun w' h => by rw [h.cell (by simp)]; simp [startO2]
  have ka2 : ∀ w', Below (w.heap.size + 2) (startO2 w a0 a1 a2 a3 a4 a5 b0 b1 b2 b3 b4 b5) w' → w'.cell? ⟨w.heap.size, 2, none⟩ = some (.float .f32 a2) := fun w' h => by rw [h.cell (by simp)]; simp [startO2]
  have ka3 : ∀ w', Below (w.heap.size + 2) (startO2 w a0 a1 a2 a3 a4 a5 b0 b1 b2 b3 b4 b5) w' → w'.cell? ⟨w.heap.size, 3, none⟩ = some (.float .f32 a3) := fun w' h => by rw [h.cell (by simp)]; simp [startO2]
  have ka4 : ∀ w', Below (w.heap.size + 2) (startO2 w a0 a1 a2 a3 a4 a5 b0 b1 b2 b3 b4 b5) w' → w'.cell? ⟨w.heap.size, 4, none⟩ = some (.float .f32 a4) := fun w' h => by rw [h.cell (by simp)]; simp [startO2]
  have ka5 : ∀ w', Below (w.heap.size + 2) (startO2 w a0 a1 a2 a3 a4 a5 b0 b1 b2 b3 b4 b5) w' → w'.cell? ⟨w.heap.size, 5, none⟩ = some (.float .f32 a5) := fun w' h => by rw [h.cell (by simp)]; simp [startO2]
  have kb0 : ∀ w', Below (w.heap.size + 2) (startO2 w a0 a1 a2 a3 a4 a5 b0 b1 b2 b3 b4 b5) w' → w'.cell? ⟨w.heap.size + 1, 0, none⟩ = some (.float .f32 b0) := fun w' h => by rw [h.cell (by simp)]; simp [startO2]
  have kb1 : ∀ w', Below (w.heap.size + 2) (startO2 w a0 a1 a2 a3 a4 a5 b0 b1 b2 b3 b4 b5) w' → w'.cell? ⟨w.heap.size + 1, 1, none⟩ = some (.float .f32 b1) := fun w' h => by rw [h.cell (by simp)]; simp [startO2]
  have kb2 : ∀ w', Below (w.heap.size + 2) (startO2 w a0 a1 a2 a3 a4 a5 b0 b1 b2 b3 b4 b5) w' → w'.cell? ⟨w.heap.size + 1, 2, none⟩ = some (.float .f32 b2) := fun w' h => by rw [h.cell (by simp)]; simp [startO2]
  have kb3 : ∀ w', Below (w.heap.size + 2) (startO2 w a0 a1 a2 a3 a4 a5 b0 b1 b2 b3 b4 b5) w' → w'.cell? ⟨w.heap.size + 1, 3, none⟩ = some (.float .f32 b3) := fun w' h => by rw [h.cell (by simp)]; simp [startO2]
  have kb4 : ∀ w', Below (w.heap.size + 2) (startO2 w a0 a1 a2 a3 a4 a5 b0 b1 b2 b3 b4 b5) w' → w'.cell? ⟨w.heap.size + 1, 4, none⟩ = some (.float .f32 b4) := fun w' h => by rw [h.cell (by simp)]; simp [startO2]
  have kb5 : ∀ w', Below (w.heap.size + 2) (startO2 w a0 a1 a2 a3 a4 a5 b0 b1 b2 b3 b4 b5) w' → w'.cell? ⟨w.heap.size + 1, 5, none⟩ = some (.float .f32 b5) := fun w' h => by rw [h.cell (by simp)]; simp [startO2]
  go_enter Try.func13, Try.ntmps13
  go_wp2_with fail
  go_region_held3 (fun w' => Below (w.heap.size + 2) (startO2 w a0 a1 a2 a3 a4 a5 b0 b1 b2 b3 b4 b5) w') (first | with_reducible assumption | with_reducible exact (Below.refl _ _).drew | with_reducible exact Below.refl _ _ | with_reducible exact keepS (by with_reducible assumption) (by with_reducible assumption) (by simp [startO2]) | with_reducible exact keepO (by with_reducible assumption) (by with_reducible assumption) (by simp [startO2]) | (with_reducible refine below_drewN ?_ _; with_reducible assumption) | (with_reducible refine Below.drew ?_; with_reducible assumption))
    (first | (go_at_call 30; refine (bitsOrb_any (by assumption) (by assumption) (by assumption) (by assumption) (by assumption) (by assumption) _).mono ?_; rintro eq wq ⟨rfl, hb⟩))
  rename_i hHeld
  go_wp2_with fail
  go_ret
  have b0 : Below w.heap.size w (startO2 w a0 a1 a2 a3 a4 a5 b0 b1 b2 b3 b4 b5) := ((Below.refl _ _).alloc (Nat.le_refl _) _).alloc (by simp) _
  exact ⟨rfl, b0.trans (hHeld.mono (by omega))⟩

set_option maxHeartbeats 1600000 in
theorem specSameO {a0 a1 a2 a3 a4 a5 b0 b1 b2 b3 b4 b5 : Nat} {x0 x1 x2 x3 x4 x5 y0 y1 y2 y3 y4 y5 : Option Nat} (h0 : Is .f32 a0 x0) (h1 : Is .f32 a1 x1) (h2 : Is .f32 a2 x2) (h3 : Is .f32 a3 x3) (h4 : Is .f32 a4 x4) (h5 : Is .f32 a5 x5) (g0 : Is .f32 b0 y0) (g1 : Is .f32 b1 y1) (g2 : Is .f32 b2 y2) (g3 : Is .f32 b3 y3) (g4 : Is .f32 b4 y4) (g5 : Is .f32 b5 y5) (w : World) :
    Calls Try.prog 12 #[orbV a0 a1 a2 a3 a4 a5, orbV b0 b1 b2 b3 b4 b5] w fun e w' => e = .returned (.bool (sameV6 x0 x1 x2 x3 x4 x5 y0 y1 y2 y3 y4 y5)) ∧ Below w.heap.size w w' := by
  have go : ∀ b0 b1 b2 b3 b4 : Bool, b0 = false ∨ b0 = true ∧ (b1 = false ∨ b1 = true ∧ (b2 = false ∨ b2 = true ∧ (b3 = false ∨ b3 = true ∧ (b4 = false ∨ b4 = true)))) := by
    intro b0 b1 b2 b3 b4
    cases b0 <;> cases b1 <;> cases b2 <;> cases b3 <;> cases b4 <;> decide
  have hg := go (sameV x0 y0) (sameV x1 y1) (sameV x2 y2) (sameV x3 y3) (sameV x4 y4)
  clear go
  rcases hg with hA | ⟨hA, hB | ⟨hB, hC | ⟨hC, hD | ⟨hD, hE | hE⟩⟩⟩⟩ <;>
    (go_enter Try.func12, Try.ntmps12
     go_wp2_with (go_at_call 29; refine (same1_any (by assumption) (by assumption) _).mono ?_; rintro eq wq ⟨nq, rfl, rfl⟩)
     go_ret
     refine ⟨by simp [sameV6, *], ?_⟩
     repeat' (first | with_reducible exact Below.refl _ _ | with_reducible assumption | (with_reducible refine Below.setCell ?_ (by first | omega | (simp; done) | (simp; omega)) _) | (with_reducible refine Below.alloc ?_ (by first | omega | (simp; done) | (simp; omega)) _) | (with_reducible refine below_drewN ?_ _) | (with_reducible refine Below.drew ?_) | (with_reducible refine Below.trans ?_ (Below.mono (by first | (with_reducible assumption) | exact Grow.below (by assumption)) (by first | omega | (simp; done) | (simp; omega))))))

set_option maxHeartbeats 3200000 in
theorem walk_FnExactSameOrbit (a0 a1 a2 a3 a4 a5 b0 b1 b2 b3 b4 b5 : Nat) (w : World) (k0 : a0 < 2 ^ 32) (k1 : a1 < 2 ^ 32) (k2 : a2 < 2 ^ 32) (k3 : a3 < 2 ^ 32) (k4 : a4 < 2 ^ 32) (k5 : a5 < 2 ^ 32) (l0 : b0 < 2 ^ 32) (l1 : b1 < 2 ^ 32) (l2 : b2 < 2 ^ 32) (l3 : b3 < 2 ^ 32) (l4 : b4 < 2 ^ 32) (l5 : b5 < 2 ^ 32) :
    Calls Try.prog 4 #[orbV a0 a1 a2 a3 a4 a5, orbV b0 b1 b2 b3 b4 b5] w fun e w' => e = .returned (.bool true) ∧ Below w.heap.size w w' := by
  have h0 := Is.self (k := .f32) k0
  have g0 := Is.self (k := .f32) l0
  have h1 := Is.self (k := .f32) k1
  have g1 := Is.self (k := .f32) l1
  have h2 := Is.self (k := .f32) k2
  have g2 := Is.self (k := .f32) l2
  have h3 := Is.self (k := .f32) k3
  have g3 := Is.self (k := .f32) l3
  have h4 := Is.self (k := .f32) k4
  have g4 := Is.self (k := .f32) l4
  have h5 := Is.self (k := .f32) k5
  have g5 := Is.self (k := .f32) l5
  have qa0 : ∀ w', Below (w.heap.size + 2) (startO3 w a0 a1 a2 a3 a4 a5 b0 b1 b2 b3 b4 b5) w' → w'.cell? ⟨w.heap.size, 0, none⟩ = some (.float .f32 a0) := fun w' h => by rw [h.cell (by simp)]; simp [startO3]
  have qa1 : ∀ w', Below (w.heap.size + 2) (startO3 w a0 a1 a2 a3 a4 a5 b0 b1 b2 b3 b4 b5) w' → w'.cell? ⟨w.heap.size, 1, none⟩ = some (.float .f32 a1) := fun w' h => by rw [h.cell (by simp)]; simp [startO3]
  have qa2 : ∀ w', Below (w.heap.size + 2) (startO3 w a0 a1 a2 a3 a4 a5 b0 b1 b2 b3 b4 b5) w' → w'.cell? ⟨w.heap.size, 2, none⟩ = some (.float .f32 a2) := fun w' h => by rw [h.cell (by simp)]; simp [startO3]
  have qa3 : ∀ w', Below (w.heap.size + 2) (startO3 w a0 a1 a2 a3 a4 a5 b0 b1 b2 b3 b4 b5) w' → w'.cell? ⟨w.heap.size, 3, none⟩ = some (.float .f32 a3) := fun w' h => by rw [h.cell (by simp)]; simp [startO3]
  have qa4 : ∀ w', Below (w.heap.size + 2) (startO3 w a0 a1 a2 a3 a4 a5 b0 b1 b2 b3 b4 b5) w' → w'.cell? ⟨w.heap.size, 4, none⟩ = some (.float .f32 a4) := fun w' h => by rw [h.cell (by simp)]; simp [startO3]
  have qa5 : ∀ w', Below (w.heap.size + 2) (startO3 w a0 a1 a2 a3 a4 a5 b0 b1 b2 b3 b4 b5) w' → w'.cell? ⟨w.heap.size, 5, none⟩ = some (.float .f32 a5) := fun w' h => by rw [h.cell (by simp)]; simp [startO3]
  have qb0 : ∀ w', Below (w.heap.size + 2) (startO3 w a0 a1 a2 a3 a4 a5 b0 b1 b2 b3 b4 b5) w' → w'.cell? ⟨w.heap.size + 1, 0, none⟩ = some (.float .f32 b0) := fun w' h => by rw [h.cell (by simp)]; simp [startO3]
  have qb1 : ∀ w', Below (w.heap.size + 2) (startO3 w a0 a1 a2 a3 a4 a5 b0 b1 b2 b3 b4 b5) w' → w'.cell? ⟨w.heap.size + 1, 1, none⟩ = some (.float .f32 b1) := fun w' h => by rw [h.cell (by simp)]; simp [startO3]
  have qb2 : ∀ w', Below (w.heap.size + 2) (startO3 w a0 a1 a2 a3 a4 a5 b0 b1 b2 b3 b4 b5) w' → w'.cell? ⟨w.heap.size + 1, 2, none⟩ = some (.float .f32 b2) := fun w' h => by rw [h.cell (by simp)]; simp [startO3]
  have qb3 : ∀ w', Below (w.heap.size + 2) (startO3 w a0 a1 a2 a3 a4 a5 b0 b1 b2 b3 b4 b5) w' → w'.cell? ⟨w.heap.size + 1, 3, none⟩ = some (.float .f32 b3) := fun w' h => by rw [h.cell (by simp)]; simp [startO3]
  have qb4 : ∀ w', Below (w.heap.size + 2) (startO3 w a0 a1 a2 a3 a4 a5 b0 b1 b2 b3 b4 b5) w' → w'.cell? ⟨w.heap.size + 1, 4, none⟩ = some (.float .f32 b4) := fun w' h => by rw [h.cell (by simp)]; simp [startO3]
  have qb5 : ∀ w', Below (w.heap.size + 2) (startO3 w a0 a1 a2 a3 a4 a5 b0 b1 b2 b3 b4 b5) w' → w'.cell? ⟨w.heap.size + 1, 5, none⟩ = some (.float .f32 b5) := fun w' h => by rw [h.cell (by simp)]; simp [startO3]
  go_enter Try.func4, Try.ntmps4
  go_upto_region 1 with fail
  go_cut [5] (fun s5 wx => s5 = .bool (sameV6 (nrm .f32 a0) (nrm .f32 a1) (nrm .f32 a2) (nrm .f32 a3) (nrm .f32 a4) (nrm .f32 a5) (nrm .f32 b0) (nrm .f32 b1) (nrm .f32 b2) (nrm .f32 b3) (nrm .f32 b4) (nrm .f32 b5)) ∧ Below (w.heap.size + 2) (startO3 w a0 a1 a2 a3 a4 a5 b0 b1 b2 b3 b4 b5) wx)
  case first =>
    go_region_held3 (fun w' => Below (w.heap.size + 2) (startO3 w a0 a1 a2 a3 a4 a5 b0 b1 b2 b3 b4 b5) w') (first | with_reducible assumption | with_reducible exact (Below.refl _ _).drew | with_reducible exact Below.refl _ _ | with_reducible exact keepS (by with_reducible assumption) (by with_reducible assumption) (by simp [startO3]) | with_reducible exact keepO (by with_reducible assumption) (by with_reducible assumption) (by simp [startO3]) | (with_reducible refine below_drewN ?_ _; with_reducible assumption) | (with_reducible refine Below.drew ?_; with_reducible assumption))
      (first | (go_at_call 10; refine (toOrb _).mono ?_; rintro eq wq ⟨rfl, hb⟩) | (go_at_call 12; refine (specSameO h0 h1 h2 h3 h4 h5 g0 g1 g2 g3 g4 g5 _).mono ?_; rintro eq wq ⟨rfl, hb⟩))
    all_goals
      go_wp2_with fail
      go_meet
      exact ⟨rfl, by with_reducible assumption⟩
  case rest =>
    obtain ⟨rfl, hbel⟩ := hcut
    have hzc := hbel.size
    simp [startO3] at hzc
    go_upto_region 2 with fail
    go_cut [6] (fun s6 wx => s6 = .bool (sameV6 (nrm .f32 a0) (nrm .f32 a1) (nrm .f32 a2) (nrm .f32 a3) (nrm .f32 a4) (nrm .f32 a5) (nrm .f32 b0) (nrm .f32 b1) (nrm .f32 b2) (nrm .f32 b3) (nrm .f32 b4) (nrm .f32 b5)) ∧ Below (w.heap.size + 2) (startO3 w a0 a1 a2 a3 a4 a5 b0 b1 b2 b3 b4 b5) wx)
    case first =>
      go_region_held3 (fun w' => Below (w.heap.size + 2) (startO3 w a0 a1 a2 a3 a4 a5 b0 b1 b2 b3 b4 b5) w') (first | with_reducible assumption | with_reducible exact (Below.refl _ _).drew | with_reducible exact Below.refl _ _ | with_reducible exact keepS (by with_reducible assumption) (by with_reducible assumption) (by simp [startO3]) | with_reducible exact keepO (by with_reducible assumption) (by with_reducible assumption) (by simp [startO3]) | (with_reducible refine below_drewN ?_ _; with_reducible assumption) | (with_reducible refine Below.drew ?_; with_reducible assumption))
        (first | (go_at_call 10; refine (toOrb _).mono ?_; rintro eq wq ⟨rfl, hb⟩) | (go_at_call 13; refine (iSameO h0 h1 h2 h3 h4 h5 g0 g1 g2 g3 g4 g5 _).mono ?_; rintro eq wq ⟨rfl, hb⟩))
      all_goals
        go_wp2_with fail
        go_meet
        exact ⟨rfl, by with_reducible assumption⟩
    case rest =>
      obtain ⟨rfl, hbel2⟩ := hcut
      go_wp2
      go_ret
      refine ⟨rfl, ?_⟩
      have b0 : Below w.heap.size w (startO3 w a0 a1 a2 a3 a4 a5 b0 b1 b2 b3 b4 b5) := ((Below.refl _ _).alloc (Nat.le_refl _) _).alloc (by simp) _
      exact b0.trans (hbel2.mono (by omega))
end Go.Proofs.Ythajdpfdnihimaa
