/-
  Whether two values of Mark are the same: for all of them the law's text returns true, and writes nothing that was there. No condition.
-/
import Derived.Test.YthlijhnplalflaaSam1
import Derived.Test.YthlijhnplalflaaMrk
import Derived.Test.YthlijhnplalflaaTake
import Derived.Test.YthlijhnplalflaaHas
import Derived.Laws.StructEq
import Derived.ChangeKeysEq
namespace Go.Proofs.Ythlijhnplalflaa
open Go.RowKit

def sameM (x0 x1 x2 y0 y1 y2 : Option Nat) : Bool := sameV x0 y0 && (sameV x1 y1 && (sameV x2 y2))
theorem waysM (b0 b1 : Bool) : b0 = false ∨ b0 = true ∧ (b1 = false ∨ b1 = true) := by
  cases b0 <;> cases b1 <;> decide
abbrev bitsM (c0 c1 c2 : Int) : Value := .agg #[.int .i64 c0, .int .i64 c1, .int .i64 c2]
theorem eqBitsM (c0 c1 c2 d0 d1 d2 : Int) (w : World) : (Op.equalIn 10000 67 (bitsM c0 c1 c2) (bitsM d0 d1 d2)).run Try.prog w = .ok (c0 == d0 && (c1 == d1 && (c2 == d2))) w := by
  have u2 := Try.underlying2
  have a2 := Try.isAgg2
  have hS := Try.underlying67
  obtain ⟨i, hi⟩ : ∃ i, Try.prog.info? 2 = some i := Option.isSome_iff_exists.1 (by kernel_rfl)
  have hc : Try.prog.cellsOf 2 = 1 := by kernel_rfl
  have hq : ∀ (a b : Int) (w : World), (Op.equalIn 9999 2 (.int .i64 a) (.int .i64 b)).run Try.prog w = .ok (a == b) w := fun a b w => run_equalIn_int w 9998 2 .i64 .i64 a b u2
  rw [show (10000 : Nat) = 9999 + 1 from rfl, run_equalIn_array w 9999 _ _ hS hi, hc, show List.range 3 = [0, 1, 2] from rfl]
  simp only [Op.eqItems, Sem.run_bind]
  go_simp
  by_cases h0 : c0 = d0 <;> by_cases h1 : c1 = d1 <;> by_cases h2 : c2 = d2 <;> simp [*]

abbrev stM1 (w : World) (a0 a1 a2 : Nat) : World := ((w.alloc (.cells #[.float .f32 a0, .float .f32 a1, .float .f32 a2] 34)).alloc (.cells #[.int .i64 0, .int .i64 0, .int .i64 0] 67))
abbrev stM2 (w : World) (a0 a1 a2 b0 b1 b2 : Nat) : World := ((w.alloc (.cells #[.float .f32 a0, .float .f32 a1, .float .f32 a2] 34)).alloc (.cells #[.float .f32 b0, .float .f32 b1, .float .f32 b2] 34))
abbrev stM3 (w : World) (a0 a1 a2 b0 b1 b2 : Nat) : World := ((w.alloc (.cells #[.float .f32 a0, .float .f32 a1, .float .f32 a2] 32)).alloc (.cells #[.float .f32 b0, .float .f32 b1, .float .f32 b2] 32))

set_option maxHeartbeats 1600000 in
theorem bitsM_any {a0 a1 a2 : Nat} {x0 x1 x2 : Option Nat} (h0 : Is .f32 a0 x0) (h1 : Is .f32 a1 x1) (h2 : Is .f32 a2 x2) (w : World) :
    Calls Try.prog 47 #[vecV a0 a1 a2] w fun e w' => e = .returned (bitsM (bitsI x0) (bitsI x1) (bitsI x2)) ∧ Below w.heap.size w w' := by
  have ka0 : ∀ w', Below (w.heap.size + 1) (stM1 w a0 a1 a2) w' → w'.cell? ⟨w.heap.size, 0, none⟩ = some (.float .f32 a0) := fun w' h => by rw [h.cell (by simp)]; simp [stM1]
  have ka1 : ∀ w', Below (w.heap.size + 1) (stM1 w a0 a1 a2) w' → w'.cell? ⟨w.heap.size, 1, none⟩ = some (.float .f32 a1) := fun w' h => by rw [h.cell (by simp)]; simp [stM1]
  have ka2 : ∀ w', Below (w.heap.size + 1) (stM1 w a0 a1 a2) w' → w'.cell? ⟨w.heap.size, 2, none⟩ = some (.float .f32 a2) := fun w' h => by rw [h.cell (by simp)]; simp [stM1]
  have hs0 : Has (w.heap.size + 1) 3 (stM1 w a0 a1 a2) := by
    refine ⟨by simp [stM1], fun o ho => ?_, fun o => ?_⟩
    · match o, ho with
      | 0, _ => simp [stM1]
      | 1, _ => simp [stM1]
      | 2, _ => simp [stM1]
    · simp [stM1]
  have r0 : ∀ w', Has (w.heap.size + 1) 3 w' → w'.cell? ⟨w.heap.size + 1, 0, none⟩ = some (rdc w' (w.heap.size + 1) 0) := fun w' h => h.cell (by decide)
  have r1 : ∀ w', Has (w.heap.size + 1) 3 w' → w'.cell? ⟨w.heap.size + 1, 1, none⟩ = some (rdc w' (w.heap.size + 1) 1) := fun w' h => h.cell (by decide)
  have r2 : ∀ w', Has (w.heap.size + 1) 3 w' → w'.cell? ⟨w.heap.size + 1, 2, none⟩ = some (rdc w' (w.heap.size + 1) 2) := fun w' h => h.cell (by decide)
  have rf : ∀ w', Has (w.heap.size + 1) 3 w' → ∀ o, w'.frozen? ⟨w.heap.size + 1, o, none⟩ = false := fun w' h o => h.frz o
  go_enter Try.func47, Try.ntmps47
  go_wp2_with fail
  go_region_held3 (fun w' => Below (w.heap.size + 1) (stM1 w a0 a1 a2) w' ∧ Has (w.heap.size + 1) 3 w')
    ((go_split_ands; refine ⟨?_, ?_⟩; (repeat' (first | with_reducible assumption | with_reducible exact Below.refl _ _ | with_reducible exact keepW (by with_reducible assumption) (by with_reducible assumption) (by first | exact Nat.le_refl _ | assumption | omega | (simp; done) | (simp; omega)) | with_reducible exact keepS (by with_reducible assumption) (by with_reducible assumption) (by first | exact Nat.le_refl _ | assumption | omega | (simp; done) | (simp; omega)) | (with_reducible refine Below.setCell ?_ (by first | omega | (simp; done) | (simp; omega)) _) | (with_reducible refine below_drewN ?_ _) | (with_reducible refine Below.drew ?_) | (with_reducible refine Below.trans ?_ (Below.mono (by with_reducible assumption) (by first | omega | (simp; done) | (simp; omega)))) | (with_reducible refine Below.trans ?_ (Below.mono (Grow.below (by with_reducible assumption)) (by first | omega | (simp; done) | (simp; omega)))) | (with_reducible refine Below.alloc ?_ (by first | omega | (simp; done) | (simp; omega)) _))); (repeat' (first | with_reducible assumption | (with_reducible refine Has.setCell ?_ _ _) | (with_reducible refine Has.drewN ?_ _) | (with_reducible refine Has.drew ?_) | (with_reducible refine Has.at ?_ (by with_reducible assumption)) | (with_reducible refine Has.grow ?_ (by with_reducible assumption)) | (with_reducible refine Has.alloc ?_ _)))))
    (first | (go_at_call 63; refine (bitsOf_any (by assumption) _).mono ?_; rintro eq wq ⟨nq, rfl, rfl⟩))
  rename_i hHeld
  obtain ⟨hB, hH⟩ := hHeld
  have e0 := r0 _ hs0
  have e1 := r1 _ hs0
  have e2 := r2 _ hs0
  go_wp2_with fail
  have b0 : Below w.heap.size w (stM1 w a0 a1 a2) := ((Below.refl _ _).alloc (Nat.le_refl _) _).alloc (by simp) _
  refine bodyPost_ret (v := bitsM (bitsI x0) (bitsI x1) (bitsI x2)) (by simp [results, Try.results47, go_sem]) rfl ⟨rfl, b0.trans (hB.mono (by omega))⟩

set_option maxHeartbeats 1600000 in
theorem iSameM {a0 a1 a2 b0 b1 b2 : Nat} {x0 x1 x2 y0 y1 y2 : Option Nat} (h0 : Is .f32 a0 x0) (h1 : Is .f32 a1 x1) (h2 : Is .f32 a2 x2) (g0 : Is .f32 b0 y0) (g1 : Is .f32 b1 y1) (g2 : Is .f32 b2 y2) (w : World) :
    Calls Try.prog 21 #[vecV a0 a1 a2, vecV b0 b1 b2] w fun e w' => e = .returned (.bool (sameM x0 x1 x2 y0 y1 y2)) ∧ Below w.heap.size w w' := by
  have heq := eqBitsM
  have ka0 : ∀ w', Below (w.heap.size + 2) (stM2 w a0 a1 a2 b0 b1 b2) w' → w'.cell? ⟨w.heap.size, 0, none⟩ = some (.float .f32 a0) := fun w' h => by rw [h.cell (by simp)]; simp [stM2]
  have ka1 : ∀ w', Below (w.heap.size + 2) (stM2 w a0 a1 a2 b0 b1 b2) w' → w'.cell? ⟨w.heap.size, 1, none⟩ = some (.float .f32 a1) := fun w' h => by rw [h.cell (by simp)]; simp [stM2]
  have ka2 : ∀ w', Below (w.heap.size + 2) (stM2 w a0 a1 a2 b0 b1 b2) w' → w'.cell? ⟨w.heap.size, 2, none⟩ = some (.float .f32 a2) := fun w' h => by rw [h.cell (by simp)]; simp [stM2]
  have kb0 : ∀ w', Below (w.heap.size + 2) (stM2 w a0 a1 a2 b0 b1 b2) w' → w'.cell? ⟨w.heap.size + 1, 0, none⟩ = some (.float .f32 b0) := fun w' h => by rw [h.cell (by simp)]; simp [stM2]
  have kb1 : ∀ w', Below (w.heap.size + 2) (stM2 w a0 a1 a2 b0 b1 b2) w' → w'.cell? ⟨w.heap.size + 1, 1, none⟩ = some (.float .f32 b1) := fun w' h => by rw [h.cell (by simp)]; simp [stM2]
  have kb2 : ∀ w', Below (w.heap.size + 2) (stM2 w a0 a1 a2 b0 b1 b2) w' → w'.cell? ⟨w.heap.size + 1, 2, none⟩ = some (.float .f32 b2) := fun w' h => by rw [h.cell (by simp)]; simp [stM2]
  go_enter Try.func21, Try.ntmps21
  go_wp2_with fail
  go_region_held3 (fun w' => Below (w.heap.size + 2) (stM2 w a0 a1 a2 b0 b1 b2) w') ((repeat' (first | with_reducible assumption | with_reducible exact Below.refl _ _ | with_reducible exact keepW (by with_reducible assumption) (by with_reducible assumption) (by first | exact Nat.le_refl _ | assumption | omega | (simp; done) | (simp; omega)) | with_reducible exact keepS (by with_reducible assumption) (by with_reducible assumption) (by first | exact Nat.le_refl _ | assumption | omega | (simp; done) | (simp; omega)) | (with_reducible refine Below.setCell ?_ (by first | omega | (simp; done) | (simp; omega)) _) | (with_reducible refine below_drewN ?_ _) | (with_reducible refine Below.drew ?_) | (with_reducible refine Below.trans ?_ (Below.mono (by with_reducible assumption) (by first | omega | (simp; done) | (simp; omega)))) | (with_reducible refine Below.trans ?_ (Below.mono (Grow.below (by with_reducible assumption)) (by first | omega | (simp; done) | (simp; omega)))) | (with_reducible refine Below.alloc ?_ (by first | omega | (simp; done) | (simp; omega)) _))))
    (first | (go_at_call 47; refine (bitsM_any (by assumption) (by assumption) (by assumption) _).mono ?_; rintro eq wq ⟨rfl, hb⟩))
  rename_i hHeld
  go_wp2_with fail
  go_ret
  have b0 : Below w.heap.size w (stM2 w a0 a1 a2 b0 b1 b2) := ((Below.refl _ _).alloc (Nat.le_refl _) _).alloc (by simp) _
  exact ⟨rfl, b0.trans (hHeld.mono (by omega))⟩

set_option maxHeartbeats 1600000 in
theorem sSameM {a0 a1 a2 b0 b1 b2 : Nat} {x0 x1 x2 y0 y1 y2 : Option Nat} (h0 : Is .f32 a0 x0) (h1 : Is .f32 a1 x1) (h2 : Is .f32 a2 x2) (g0 : Is .f32 b0 y0) (g1 : Is .f32 b1 y1) (g2 : Is .f32 b2 y2) (w : World) :
    Calls Try.prog 20 #[vecV a0 a1 a2, vecV b0 b1 b2] w fun e w' => e = .returned (.bool (sameM x0 x1 x2 y0 y1 y2)) ∧ Below w.heap.size w w' := by
  rcases waysM (sameV x0 y0) (sameV x1 y1) with hA0 | ⟨hA0, hA1 | hA1⟩ <;>
    (go_enter Try.func20, Try.ntmps20
     go_wp2_with (go_at_call 46; refine (same1_any (by assumption) (by assumption) _).mono ?_; rintro eq wq ⟨nq, rfl, rfl⟩)
     go_ret
     refine ⟨by simp [sameM, *], ?_⟩
     repeat' (first | with_reducible exact Below.refl _ _ | with_reducible assumption | (with_reducible refine Below.setCell ?_ (by first | omega | (simp; done) | (simp; omega)) _) | (with_reducible refine Below.alloc ?_ (by first | omega | (simp; done) | (simp; omega)) _) | (with_reducible refine below_drewN ?_ _) | (with_reducible refine Below.drew ?_) | (with_reducible refine Below.trans ?_ (Below.mono (by first | (with_reducible assumption) | exact Grow.below (by assumption)) (by first | omega | (simp; done) | (simp; omega))))))

set_option maxHeartbeats 3200000 in
theorem walk_FnExactSameMark (a0 a1 a2 b0 b1 b2 : Nat) (w : World) (k0 : a0 < 2 ^ 32) (k1 : a1 < 2 ^ 32) (k2 : a2 < 2 ^ 32) (l0 : b0 < 2 ^ 32) (l1 : b1 < 2 ^ 32) (l2 : b2 < 2 ^ 32) :
    Calls Try.prog 6 #[vecV a0 a1 a2, vecV b0 b1 b2] w fun e w' => e = .returned (.bool true) ∧ Below w.heap.size w w' := by
  have h0 := Is.self (k := .f32) k0
  have g0 := Is.self (k := .f32) l0
  have h1 := Is.self (k := .f32) k1
  have g1 := Is.self (k := .f32) l1
  have h2 := Is.self (k := .f32) k2
  have g2 := Is.self (k := .f32) l2
  have qa0 : ∀ w', Below (w.heap.size + 2) (stM3 w a0 a1 a2 b0 b1 b2) w' → w'.cell? ⟨w.heap.size, 0, none⟩ = some (.float .f32 a0) := fun w' h => by rw [h.cell (by simp)]; simp [stM3]
  have qa1 : ∀ w', Below (w.heap.size + 2) (stM3 w a0 a1 a2 b0 b1 b2) w' → w'.cell? ⟨w.heap.size, 1, none⟩ = some (.float .f32 a1) := fun w' h => by rw [h.cell (by simp)]; simp [stM3]
  have qa2 : ∀ w', Below (w.heap.size + 2) (stM3 w a0 a1 a2 b0 b1 b2) w' → w'.cell? ⟨w.heap.size, 2, none⟩ = some (.float .f32 a2) := fun w' h => by rw [h.cell (by simp)]; simp [stM3]
  have qb0 : ∀ w', Below (w.heap.size + 2) (stM3 w a0 a1 a2 b0 b1 b2) w' → w'.cell? ⟨w.heap.size + 1, 0, none⟩ = some (.float .f32 b0) := fun w' h => by rw [h.cell (by simp)]; simp [stM3]
  have qb1 : ∀ w', Below (w.heap.size + 2) (stM3 w a0 a1 a2 b0 b1 b2) w' → w'.cell? ⟨w.heap.size + 1, 1, none⟩ = some (.float .f32 b1) := fun w' h => by rw [h.cell (by simp)]; simp [stM3]
  have qb2 : ∀ w', Below (w.heap.size + 2) (stM3 w a0 a1 a2 b0 b1 b2) w' → w'.cell? ⟨w.heap.size + 1, 2, none⟩ = some (.float .f32 b2) := fun w' h => by rw [h.cell (by simp)]; simp [stM3]
  go_enter Try.func6, Try.ntmps6
  go_upto_region 1 with fail
  go_cut [5] (fun s wx => s = .bool (sameM (nrm .f32 a0) (nrm .f32 a1) (nrm .f32 a2) (nrm .f32 b0) (nrm .f32 b1) (nrm .f32 b2)) ∧ Below (w.heap.size + 2) (stM3 w a0 a1 a2 b0 b1 b2) wx)
  case first =>
    go_region_held3 (fun w' => Below (w.heap.size + 2) (stM3 w a0 a1 a2 b0 b1 b2) w') ((repeat' (first | with_reducible assumption | with_reducible exact Below.refl _ _ | with_reducible exact keepW (by with_reducible assumption) (by with_reducible assumption) (by first | exact Nat.le_refl _ | assumption | omega | (simp; done) | (simp; omega)) | with_reducible exact keepS (by with_reducible assumption) (by with_reducible assumption) (by first | exact Nat.le_refl _ | assumption | omega | (simp; done) | (simp; omega)) | (with_reducible refine Below.setCell ?_ (by first | omega | (simp; done) | (simp; omega)) _) | (with_reducible refine below_drewN ?_ _) | (with_reducible refine Below.drew ?_) | (with_reducible refine Below.trans ?_ (Below.mono (by with_reducible assumption) (by first | omega | (simp; done) | (simp; omega)))) | (with_reducible refine Below.trans ?_ (Below.mono (Grow.below (by with_reducible assumption)) (by first | omega | (simp; done) | (simp; omega)))) | (with_reducible refine Below.alloc ?_ (by first | omega | (simp; done) | (simp; omega)) _))))
      (first | (go_at_call 18; refine (toMrk _).mono ?_; rintro eq wq ⟨rfl, hb⟩) | (go_at_call 20; refine (sSameM h0 h1 h2 g0 g1 g2 _).mono ?_; rintro eq wq ⟨rfl, hb⟩))
    all_goals
      go_wp2_with fail
      go_meet
      exact ⟨rfl, by with_reducible assumption⟩
  case rest =>
    obtain ⟨rfl, hbel⟩ := hcut
    have hzc := hbel.size
    simp [stM3] at hzc
    go_upto_region 2 with fail
    go_cut [6] (fun s wx => s = .bool (sameM (nrm .f32 a0) (nrm .f32 a1) (nrm .f32 a2) (nrm .f32 b0) (nrm .f32 b1) (nrm .f32 b2)) ∧ Below (w.heap.size + 2) (stM3 w a0 a1 a2 b0 b1 b2) wx)
    case first =>
      go_region_held3 (fun w' => Below (w.heap.size + 2) (stM3 w a0 a1 a2 b0 b1 b2) w') ((repeat' (first | with_reducible assumption | with_reducible exact Below.refl _ _ | with_reducible exact keepW (by with_reducible assumption) (by with_reducible assumption) (by first | exact Nat.le_refl _ | assumption | omega | (simp; done) | (simp; omega)) | with_reducible exact keepS (by with_reducible assumption) (by with_reducible assumption) (by first | exact Nat.le_refl _ | assumption | omega | (simp; done) | (simp; omega)) | (with_reducible refine Below.setCell ?_ (by first | omega | (simp; done) | (simp; omega)) _) | (with_reducible refine below_drewN ?_ _) | (with_reducible refine Below.drew ?_) | (with_reducible refine Below.trans ?_ (Below.mono (by with_reducible assumption) (by first | omega | (simp; done) | (simp; omega)))) | (with_reducible refine Below.trans ?_ (Below.mono (Grow.below (by with_reducible assumption)) (by first | omega | (simp; done) | (simp; omega)))) | (with_reducible refine Below.alloc ?_ (by first | omega | (simp; done) | (simp; omega)) _))))
        (first | (go_at_call 18; refine (toMrk _).mono ?_; rintro eq wq ⟨rfl, hb⟩) | (go_at_call 21; refine (iSameM h0 h1 h2 g0 g1 g2 _).mono ?_; rintro eq wq ⟨rfl, hb⟩))
      all_goals
        go_wp2_with fail
        go_meet
        exact ⟨rfl, by with_reducible assumption⟩
    case rest =>
      obtain ⟨rfl, hbel2⟩ := hcut
      go_wp2
      go_ret
      refine ⟨rfl, ?_⟩
      have b0 : Below w.heap.size w (stM3 w a0 a1 a2 b0 b1 b2) := ((Below.refl _ _).alloc (Nat.le_refl _) _).alloc (by simp) _
      exact b0.trans (hbel2.mono (by omega))
end Go.Proofs.Ythlijhnplalflaa
