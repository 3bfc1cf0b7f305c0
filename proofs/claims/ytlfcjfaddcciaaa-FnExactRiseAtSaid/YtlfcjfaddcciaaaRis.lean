/-
  How high a place is seen, of the program. No condition.
-/
import Derived.Test.YtlfcjfaddcciaaaPlcS
import Derived.Test.YtlfcjfaddcciaaaInnO
import Derived.Test.YtlfcjfaddcciaaaVLess
import Derived.Test.YtlfcjfaddcciaaaRetN
import Derived.Test.YtlfcjfaddcciaaaEqW
namespace Go.Proofs.Ytlfcjfaddcciaaa
open Go.RowKit

/-- The length of a vector. -/
def lenO (x0 x1 x2 : Option Nat) : Option Nat := rootO (innerO x0 x1 x2 x0 x1 x2)
/-- How high a place is seen from another one. -/
def risN (p0 p1 p2 s0 s1 s2 : Option Nat) : Option Nat :=
  fo .quo .f32 (innerO p0 p1 p2 (fo .sub .f32 s0 p0) (fo .sub .f32 s1 p1) (fo .sub .f32 s2 p2)) (fo .mul .f32 (lenO p0 p1 p2) (lenO (fo .sub .f32 s0 p0) (fo .sub .f32 s1 p1) (fo .sub .f32 s2 p2)))

theorem iInnB {a0 a1 a2 b0 b1 b2 : Nat} {x0 x1 x2 y0 y1 y2 : Option Nat} (h0 : Is .f32 a0 x0) (h1 : Is .f32 a1 x1) (h2 : Is .f32 a2 x2) (g0 : Is .f32 b0 y0) (g1 : Is .f32 b1 y1) (g2 : Is .f32 b2 y2) (W : World) :
    Calls Try.prog 50 #[vecV a0 a1 a2, vecV b0 b1 b2] W fun e w' => (∃ r, e = .returned (.float .f32 r) ∧ Is .f32 r (innerO x0 x1 x2 y0 y1 y2)) ∧ Below W.heap.size W w' :=
  (implInner h0 h1 h2 g0 g1 g2 W).mono fun _ _ ⟨r, e, i, g⟩ => ⟨⟨r, e, i⟩, g.below⟩
theorem iLenB {a0 a1 a2 : Nat} {x0 x1 x2 : Option Nat} (h0 : Is .f32 a0 x0) (h1 : Is .f32 a1 x1) (h2 : Is .f32 a2 x2) (W : World) :
    Calls Try.prog 51 #[vecV a0 a1 a2] W fun e w' => (∃ r, e = .returned (.float .f32 r) ∧ Is .f32 r (lenO x0 x1 x2)) ∧ Below W.heap.size W w' :=
  (implSize h0 h1 h2 W).mono fun _ _ ⟨r, e, i, g⟩ => ⟨⟨r, e, i⟩, g.below⟩
theorem iLesB {a0 a1 a2 b0 b1 b2 : Nat} {x0 x1 x2 y0 y1 y2 : Option Nat} (h0 : Is .f32 a0 x0) (h1 : Is .f32 a1 x1) (h2 : Is .f32 a2 x2) (g0 : Is .f32 b0 y0) (g1 : Is .f32 b1 y1) (g2 : Is .f32 b2 y2) (W : World) :
    Calls Try.prog 48 #[vecV a0 a1 a2, vecV b0 b1 b2] W fun e w' => (∃ r0 r1 r2, e = .returned (vecV r0 r1 r2) ∧ Is .f32 r0 (fo .sub .f32 x0 y0) ∧ Is .f32 r1 (fo .sub .f32 x1 y1) ∧ Is .f32 r2 (fo .sub .f32 x2 y2)) ∧ Below W.heap.size W w' :=
  (implLess h0 h1 h2 g0 g1 g2 W).mono fun _ _ ⟨r0, r1, r2, e, i0, i1, i2, g⟩ => ⟨⟨r0, r1, r2, e, i0, i1, i2⟩, g.below⟩

section
variable {A0 A1 : Value} {t s0 s1 s2 : Nat} {y0 y1 y2 u0 u1 u2 : Option Nat} {okP : Bool} (g0 : Is .f32 s0 y0) (g1 : Is .f32 s1 y1) (g2 : Is .f32 s2 y2)
include g0 g1 g2

set_option maxRecDepth 100000 in
set_option maxHeartbeats 3200000 in
theorem iRisT {a0 a1 a2 a3 n e h : Nat} (IP : ∀ W, Calls Try.prog 13 #[balV a0 a1 a2 a3, vecV n e h, .float .f32 t] W (RetVB u0 u1 u2 true W)) (hv : finV y0 y1 y2 = true) (w : World) :
    Calls Try.prog 17 #[balV a0 a1 a2 a3, vecV n e h, vecV s0 s1 s2, .float .f32 t] w (RetNum (finN (risN u0 u1 u2 y0 y1 y2)) (finS (risN u0 u1 u2 y0 y1 y2)) w) := by
  have hst := run_store_float Try.prog
  go_enter Try.func17, Try.ntmps17
  go_wp2_with fail
  (go_at_call 13; refine (IP _).mono ?_; rintro _ W1 ⟨⟨r0, r1, r2, rfl, i0, i1, i2⟩, b1⟩)
  have bA : Below (w.heap.size + 3) (((w.alloc (Obj.cells #[.float .f32 a0, .float .f32 a1, .float .f32 a2, .float .f32 a3] 31)).alloc (Obj.cells #[.float .f32 n, .float .f32 e, .float .f32 h] 33)).alloc (Obj.cells #[.float .f32 s0, .float .f32 s1, .float .f32 s2] 28)) W1 := b1.mono (by simp)
  have hz1 := b1.size
  simp at hz1
  have l1 : w.heap.size + 1 + 1 < W1.heap.size := by omega
  have b0w : Below w.heap.size w W1 := ((((Below.refl w.heap.size w).alloc (Nat.le_refl _) _).alloc (by simp) _).alloc (by simp; omega) _).trans (bA.mono (by omega))
  have ks : ∀ o, o < 3 → W1.cell? ⟨w.heap.size + 1 + 1, o, none⟩ = some (.float .f32 (if o = 0 then s0 else if o = 1 then s1 else s2)) := fun o ho => by
    rw [bA.cell (p := ⟨w.heap.size + 1 + 1, o, none⟩) (by dsimp only; omega)]
    have hq := (vec_alloc ((w.alloc (Obj.cells #[.float .f32 a0, .float .f32 a1, .float .f32 a2, .float .f32 a3] 31)).alloc (Obj.cells #[.float .f32 n, .float .f32 e, .float .f32 h] 33)) s0 s1 s2 28).2
    simp at hq
    match o, ho with
    | 0, _ => exact hq.1
    | 1, _ => exact hq.2.1
    | 2, _ => exact hq.2.2
  have k0 := ks 0 (by decide)
  have k1 := ks 1 (by decide)
  have k2 := ks 2 (by decide)
  simp at k0 k1 k2
  clear ks b1 bA
  have FV := fun W => iFinV g0 g1 g2 W
  simp only [hv] at FV
  go_wp2_with fail
  (go_at_call 47; refine (FV _).mono ?_; rintro _ W2 ⟨rfl, f2⟩)
  have b2 := f2.below
  have hz2 := b2.size
  simp at hz2
  have hP := (vec_alloc W1 r0 r1 r2 28).at b2
  have bW : Below W1.heap.size W1 W2 := ((Below.refl W1.heap.size W1).alloc (Nat.le_refl _) (.cells #[.float .f32 r0, .float .f32 r1, .float .f32 r2] 28)).trans (b2.mono (by simp))
  replace k0 := (bW.cell (p := ⟨w.heap.size + 1 + 1, 0, none⟩) l1).trans k0
  replace k1 := (bW.cell (p := ⟨w.heap.size + 1 + 1, 1, none⟩) l1).trans k1
  replace k2 := (bW.cell (p := ⟨w.heap.size + 1 + 1, 2, none⟩) l1).trans k2
  obtain ⟨hPz, p0, p1, p2⟩ := hP
  have b0W2 := b0w.trans (bW.mono b0w.size)
  clear f2 b2
  go_wp2_with fail
  (go_at_call 48; refine (iLesB g0 g1 g2 i0 i1 i2 _).mono ?_; rintro _ W3 ⟨⟨d0, d1, d2, rfl, j0, j1, j2⟩, b3⟩)
  have hP3 : VecIn W3 W1.heap.size r0 r1 r2 := VecIn.at ⟨hPz, p0, p1, p2⟩ b3
  have b0W3 := b0W2.trans (b3.mono b0W2.size)
  have hz3 := b3.size
  clear p0 p1 p2 k0 k1 k2
  go_wp2_with fail
  have hPZ := hP3.at ((Below.refl W3.heap.size W3).alloc (Nat.le_refl _) (.cells #[.float .f32 d0, .float .f32 d1, .float .f32 d2] 28))
  have hDZ := vec_alloc W3 d0 d1 d2 28
  have b0Z := b0W3.alloc b0W3.size (.cells #[.float .f32 d0, .float .f32 d1, .float .f32 d2] 28)
  generalize W3.alloc (.cells #[.float .f32 d0, .float .f32 d1, .float .f32 d2] 28) = Z at hPZ hDZ b0Z ⊢
  have p0 : ∀ w', Below Z.heap.size Z w' → w'.cell? ⟨W1.heap.size, 0, none⟩ = some (.float .f32 r0) := fun w' h => (hPZ.at h).2.1
  have p1 : ∀ w', Below Z.heap.size Z w' → w'.cell? ⟨W1.heap.size, 1, none⟩ = some (.float .f32 r1) := fun w' h => (hPZ.at h).2.2.1
  have p2 : ∀ w', Below Z.heap.size Z w' → w'.cell? ⟨W1.heap.size, 2, none⟩ = some (.float .f32 r2) := fun w' h => (hPZ.at h).2.2.2
  have e0 : ∀ w', Below Z.heap.size Z w' → w'.cell? ⟨W3.heap.size, 0, none⟩ = some (.float .f32 d0) := fun w' h => (hDZ.at h).2.1
  have e1 : ∀ w', Below Z.heap.size Z w' → w'.cell? ⟨W3.heap.size, 1, none⟩ = some (.float .f32 d1) := fun w' h => (hDZ.at h).2.2.1
  have e2 : ∀ w', Below Z.heap.size Z w' → w'.cell? ⟨W3.heap.size, 2, none⟩ = some (.float .f32 d2) := fun w' h => (hDZ.at h).2.2.2
  clear hP3 hPZ hDZ
  (refine wp_region_held_drew (S := fun w' => Below Z.heap.size Z w') (by kernel_rfl) (by (try dsimp only); (repeat' (first | with_reducible assumption | with_reducible exact Below.refl _ _ | with_reducible exact keepW (by with_reducible assumption) (by with_reducible assumption) (by first | exact Nat.le_refl _ | assumption | omega | (simp; done) | (simp; omega)) | with_reducible exact keepS (by with_reducible assumption) (by with_reducible assumption) (by first | exact Nat.le_refl _ | assumption | omega | (simp; done) | (simp; omega)) | (with_reducible refine Below.setCell ?_ (by first | omega | (simp; done) | (simp; omega)) _) | (with_reducible refine below_drewN ?_ _) | (with_reducible refine Below.drew ?_) | (with_reducible refine Below.trans ?_ (Below.mono (by with_reducible assumption) (by first | omega | (simp; done) | (simp; omega)))) | (with_reducible refine Below.trans ?_ (Below.mono (Grow.below (by with_reducible assumption)) (by first | omega | (simp; done) | (simp; omega)))) | (with_reducible refine Below.alloc ?_ (by first | omega | (simp; done) | (simp; omega)) _)))) (fun hHeld => ?_))
  (refine wpTake (i := 0) (some 30) (v := ?_) rfl (by rfl) (by kernel_rfl) (by kernel_rfl) (by kernel_rfl) (fun _ _ _ h => h) (Or.inl ⟨by rfl, ?_⟩) (by assumption) ?_; rotate_left; (focus (intro w hSw; (try dsimp only at hSw); go_simp; (try with_reducible rfl))); (simp only [Act.put, List.setIfInBounds_toArray, List.set_cons_zero, List.set_cons_succ]))
  (refine wpTake (i := 1) (some 31) (v := ?_) rfl (by rfl) (by kernel_rfl) (by kernel_rfl) (by kernel_rfl) (fun _ _ _ h => h) (Or.inl ⟨by rfl, ?_⟩) (by assumption) ?_; rotate_left; (focus (intro w hSw; (try dsimp only at hSw); go_simp; (try with_reducible rfl))); (simp only [Act.put, List.setIfInBounds_toArray, List.set_cons_zero, List.set_cons_succ]))
  (refine wpTake (i := 3) (some 33) (v := ?_) rfl (by rfl) (by kernel_rfl) (by kernel_rfl) (by kernel_rfl) (fun _ _ _ h => h) (Or.inl ⟨by rfl, ?_⟩) (by assumption) ?_; rotate_left; (focus (intro w hSw; (try dsimp only at hSw); go_simp; (try with_reducible rfl))); (simp only [Act.put, List.setIfInBounds_toArray, List.set_cons_zero, List.set_cons_succ]))
  (refine wpTake (i := 5) (some 35) (v := ?_) rfl (by rfl) (by kernel_rfl) (by kernel_rfl) (by kernel_rfl) (fun _ _ _ h => h) (Or.inl ⟨by rfl, ?_⟩) (by assumption) ?_; rotate_left; (focus (intro w hSw; (try dsimp only at hSw); go_simp; (try with_reducible rfl))); (simp only [Act.put, List.setIfInBounds_toArray, List.set_cons_zero, List.set_cons_succ]))
  (refine wpAnyH_ready (rs := [2]) (by kernel_rfl) (by simp) ?_; refine AllReadyH.cons rfl (fun K hK => ?_) AllReadyH.nil; go_simp)
  (go_at_call 50; (with_reducible refine (iInnB i0 i1 i2 j0 j1 j2 _).mono ?_); rintro eq wq ⟨⟨rI, rfl, iI⟩, hbs⟩)
  (go_wp2_with fail; refine hK.out _ _ (by (try dsimp only); (repeat' (first | with_reducible assumption | with_reducible exact Below.refl _ _ | with_reducible exact keepW (by with_reducible assumption) (by with_reducible assumption) (by first | exact Nat.le_refl _ | assumption | omega | (simp; done) | (simp; omega)) | with_reducible exact keepS (by with_reducible assumption) (by with_reducible assumption) (by first | exact Nat.le_refl _ | assumption | omega | (simp; done) | (simp; omega)) | (with_reducible refine Below.setCell ?_ (by first | omega | (simp; done) | (simp; omega)) _) | (with_reducible refine below_drewN ?_ _) | (with_reducible refine Below.drew ?_) | (with_reducible refine Below.trans ?_ (Below.mono (by with_reducible assumption) (by first | omega | (simp; done) | (simp; omega)))) | (with_reducible refine Below.trans ?_ (Below.mono (Grow.below (by with_reducible assumption)) (by first | omega | (simp; done) | (simp; omega)))) | (with_reducible refine Below.alloc ?_ (by first | omega | (simp; done) | (simp; omega)) _)))) (fun hHeld => ?_); clear hK K; try (simp only [Act.put, List.setIfInBounds_toArray, List.set_cons_zero, List.set_cons_succ]))
  (refine wpAnyH_ready (rs := [4]) (by kernel_rfl) (by simp) ?_; refine AllReadyH.cons rfl (fun K hK => ?_) AllReadyH.nil; go_simp)
  (go_at_call 51; (with_reducible refine (iLenB i0 i1 i2 _).mono ?_); rintro eq wq ⟨⟨rP, rfl, iP⟩, hbs⟩)
  (go_wp2_with fail; refine hK.out _ _ (by (try dsimp only); (repeat' (first | with_reducible assumption | with_reducible exact Below.refl _ _ | with_reducible exact keepW (by with_reducible assumption) (by with_reducible assumption) (by first | exact Nat.le_refl _ | assumption | omega | (simp; done) | (simp; omega)) | with_reducible exact keepS (by with_reducible assumption) (by with_reducible assumption) (by first | exact Nat.le_refl _ | assumption | omega | (simp; done) | (simp; omega)) | (with_reducible refine Below.setCell ?_ (by first | omega | (simp; done) | (simp; omega)) _) | (with_reducible refine below_drewN ?_ _) | (with_reducible refine Below.drew ?_) | (with_reducible refine Below.trans ?_ (Below.mono (by with_reducible assumption) (by first | omega | (simp; done) | (simp; omega)))) | (with_reducible refine Below.trans ?_ (Below.mono (Grow.below (by with_reducible assumption)) (by first | omega | (simp; done) | (simp; omega)))) | (with_reducible refine Below.alloc ?_ (by first | omega | (simp; done) | (simp; omega)) _)))) (fun hHeld => ?_); clear hK K; try (simp only [Act.put, List.setIfInBounds_toArray, List.set_cons_zero, List.set_cons_succ]))
  (refine wpAnyH_ready (rs := [6]) (by kernel_rfl) (by simp) ?_; refine AllReadyH.cons rfl (fun K hK => ?_) AllReadyH.nil; go_simp)
  (go_at_call 51; (with_reducible refine (iLenB j0 j1 j2 _).mono ?_); rintro eq wq ⟨⟨rD, rfl, iD⟩, hbs⟩)
  (go_wp2_with fail; refine hK.out _ _ (by (try dsimp only); (repeat' (first | with_reducible assumption | with_reducible exact Below.refl _ _ | with_reducible exact keepW (by with_reducible assumption) (by with_reducible assumption) (by first | exact Nat.le_refl _ | assumption | omega | (simp; done) | (simp; omega)) | with_reducible exact keepS (by with_reducible assumption) (by with_reducible assumption) (by first | exact Nat.le_refl _ | assumption | omega | (simp; done) | (simp; omega)) | (with_reducible refine Below.setCell ?_ (by first | omega | (simp; done) | (simp; omega)) _) | (with_reducible refine below_drewN ?_ _) | (with_reducible refine Below.drew ?_) | (with_reducible refine Below.trans ?_ (Below.mono (by with_reducible assumption) (by first | omega | (simp; done) | (simp; omega)))) | (with_reducible refine Below.trans ?_ (Below.mono (Grow.below (by with_reducible assumption)) (by first | omega | (simp; done) | (simp; omega)))) | (with_reducible refine Below.alloc ?_ (by first | omega | (simp; done) | (simp; omega)) _)))) (fun hHeld => ?_); clear hK K; try (simp only [Act.put, List.setIfInBounds_toArray, List.set_cons_zero, List.set_cons_succ]))
  (apply wpTakeA (i := 7) (some 37); rfl; rfl; rfl; kernel_rfl; rfl; simp [Arith]; rfl; rfl; exact iP; exact iD; (intro nq; (try dsimp only); (repeat' (first | with_reducible assumption | with_reducible exact Below.refl _ _ | with_reducible exact keepW (by with_reducible assumption) (by with_reducible assumption) (by first | exact Nat.le_refl _ | assumption | omega | (simp; done) | (simp; omega)) | with_reducible exact keepS (by with_reducible assumption) (by with_reducible assumption) (by first | exact Nat.le_refl _ | assumption | omega | (simp; done) | (simp; omega)) | (with_reducible refine Below.setCell ?_ (by first | omega | (simp; done) | (simp; omega)) _) | (with_reducible refine below_drewN ?_ _) | (with_reducible refine Below.drew ?_) | (with_reducible refine Below.trans ?_ (Below.mono (by with_reducible assumption) (by first | omega | (simp; done) | (simp; omega)))) | (with_reducible refine Below.trans ?_ (Below.mono (Grow.below (by with_reducible assumption)) (by first | omega | (simp; done) | (simp; omega)))) | (with_reducible refine Below.alloc ?_ (by first | omega | (simp; done) | (simp; omega)) _)))); intro rq nq hq hHeld; (simp only [Act.put, List.setIfInBounds_toArray, List.set_cons_zero, List.set_cons_succ]))
  have iM := hq
  (apply wpTakeA (i := 8) (some 38); rfl; rfl; rfl; kernel_rfl; rfl; simp [Arith]; rfl; rfl; exact iI; exact iM; (intro nq; (try dsimp only); (repeat' (first | with_reducible assumption | with_reducible exact Below.refl _ _ | with_reducible exact keepW (by with_reducible assumption) (by with_reducible assumption) (by first | exact Nat.le_refl _ | assumption | omega | (simp; done) | (simp; omega)) | with_reducible exact keepS (by with_reducible assumption) (by with_reducible assumption) (by first | exact Nat.le_refl _ | assumption | omega | (simp; done) | (simp; omega)) | (with_reducible refine Below.setCell ?_ (by first | omega | (simp; done) | (simp; omega)) _) | (with_reducible refine below_drewN ?_ _) | (with_reducible refine Below.drew ?_) | (with_reducible refine Below.trans ?_ (Below.mono (by with_reducible assumption) (by first | omega | (simp; done) | (simp; omega)))) | (with_reducible refine Below.trans ?_ (Below.mono (Grow.below (by with_reducible assumption)) (by first | omega | (simp; done) | (simp; omega)))) | (with_reducible refine Below.alloc ?_ (by first | omega | (simp; done) | (simp; omega)) _)))); intro rq nq hq hHeld; (simp only [Act.put, List.setIfInBounds_toArray, List.set_cons_zero, List.set_cons_succ]))
  have iQ := hq
  have FN := fun W => iFinN iQ W
  (try simp at hHeld)
  (refine wpAnyH_ready (rs := [9]) (by kernel_rfl) (by simp) ?_; refine AllReadyH.cons rfl (fun K hK => ?_) AllReadyH.nil; go_simp)
  (go_at_call 49; (refine (FN _).mono ?_); rintro eq wq ⟨⟨rN, rfl, iN⟩, hbs⟩)
  (go_wp2_with fail; refine hK.out _ _ (by (try dsimp only); (repeat' (first | with_reducible assumption | with_reducible exact Below.refl _ _ | with_reducible exact keepW (by with_reducible assumption) (by with_reducible assumption) (by first | exact Nat.le_refl _ | assumption | omega | (simp; done) | (simp; omega)) | with_reducible exact keepS (by with_reducible assumption) (by with_reducible assumption) (by first | exact Nat.le_refl _ | assumption | omega | (simp; done) | (simp; omega)) | (with_reducible refine Below.setCell ?_ (by first | omega | (simp; done) | (simp; omega)) _) | (with_reducible refine below_drewN ?_ _) | (with_reducible refine Below.drew ?_) | (with_reducible refine Below.trans ?_ (Below.mono (by with_reducible assumption) (by first | omega | (simp; done) | (simp; omega)))) | (with_reducible refine Below.trans ?_ (Below.mono (Grow.below (by with_reducible assumption)) (by first | omega | (simp; done) | (simp; omega)))) | (with_reducible refine Below.alloc ?_ (by first | omega | (simp; done) | (simp; omega)) _)))) (fun hHeld => ?_); clear hK K; try (simp only [Act.put, List.setIfInBounds_toArray, List.set_cons_zero, List.set_cons_succ]))
  (refine wpTake (i := 10) (some 40) (v := ?_) rfl (by rfl) (by kernel_rfl) (by kernel_rfl) (by kernel_rfl) (fun _ _ _ h => h) (Or.inl ⟨by rfl, ?_⟩) (by assumption) ?_; rotate_left; (focus (intro w hSw; (try dsimp only at hSw); go_simp; (try with_reducible rfl))); (simp only [Act.put, List.setIfInBounds_toArray, List.set_cons_zero, List.set_cons_succ]))
  (refine wpTake (i := 11) (some 41) (v := ?_) rfl (by rfl) (by kernel_rfl) (by kernel_rfl) (by kernel_rfl) (fun _ _ _ h => h) (Or.inl ⟨by rfl, ?_⟩) (by assumption) ?_; rotate_left; (focus (intro w hSw; (try dsimp only at hSw); go_simp; (try with_reducible rfl))); (simp only [Act.put, List.setIfInBounds_toArray, List.set_cons_zero, List.set_cons_succ]))
  (refine wpTake (i := 12) (some 8) (v := ?_) rfl (by rfl) (by kernel_rfl) (by kernel_rfl) (by kernel_rfl) (fun _ _ _ h => h) (Or.inl ⟨by rfl, ?_⟩) (by assumption) ?_; rotate_left; (focus (intro w hSw; (try dsimp only at hSw); go_simp; (try with_reducible rfl))); (simp only [Act.put, List.setIfInBounds_toArray, List.set_cons_zero, List.set_cons_succ]))
  (refine wpTake (i := 13) (some 9) (v := ?_) rfl (by rfl) (by kernel_rfl) (by kernel_rfl) (by kernel_rfl) (fun _ _ _ h => h) (Or.inl ⟨by rfl, ?_⟩) (by assumption) ?_; rotate_left; (focus (intro w hSw; (try dsimp only at hSw); go_simp; (try with_reducible rfl))); (simp only [Act.put, List.setIfInBounds_toArray, List.set_cons_zero, List.set_cons_succ]))
  (refine wpAnyH_done (by kernel_rfl) ?_ _)
  go_wp2_with fail
  go_ret2
  exact ⟨⟨_, rfl, iN⟩, b0Z.trans (hHeld.mono b0Z.size)⟩

set_option maxRecDepth 100000 in
set_option maxHeartbeats 1600000 in
theorem iRisF {a0 a1 a2 a3 n e h : Nat} (IP : ∀ W, Calls Try.prog 13 #[balV a0 a1 a2 a3, vecV n e h, .float .f32 t] W (RetVB u0 u1 u2 okP W)) (hv : (okP && finV y0 y1 y2) = false) (w : World) :
    Calls Try.prog 17 #[balV a0 a1 a2 a3, vecV n e h, vecV s0 s1 s2, .float .f32 t] w (RetNum (some 0) false w) := by
  have hst := run_store_float Try.prog
  have FV := fun W => iFinV g0 g1 g2 W
  cases ok : okP with
  | false =>
    rw [ok] at IP
    clear FV
    go_enter Try.func17, Try.ntmps17
    go_wp2_with (go_at_call 13; refine (IP _).mono ?_; rintro _ W1 ⟨⟨r0, r1, r2, rfl, i0, i1, i2⟩, b1⟩; have hz1 := b1.size; (try simp at hz1))
    go_ret2
    refine ⟨⟨_, rfl, zero32⟩, ?_⟩
    repeat' (first | with_reducible exact Below.refl _ _ | with_reducible assumption | (with_reducible refine Below.setCell ?_ (by first | omega | (simp; done) | (simp; omega)) _) | (with_reducible refine Below.alloc ?_ (by first | omega | (simp; done) | (simp; omega)) _) | (with_reducible refine below_drewN ?_ _) | (with_reducible refine Below.drew ?_) | (with_reducible refine Below.trans ?_ (Below.mono (by first | (with_reducible assumption) | exact Grow.below (by assumption)) (by first | omega | (simp; done) | (simp; omega)))))
  | true =>
    rw [ok] at IP hv
    rw [Bool.true_and] at hv
    simp only [hv] at FV
    go_enter Try.func17, Try.ntmps17
    go_wp2_with fail
    (go_at_call 13; refine (IP _).mono ?_; rintro _ W1 ⟨⟨r0, r1, r2, rfl, i0, i1, i2⟩, b1⟩)
    have bA : Below (w.heap.size + 3) (((w.alloc (Obj.cells #[.float .f32 a0, .float .f32 a1, .float .f32 a2, .float .f32 a3] 31)).alloc (Obj.cells #[.float .f32 n, .float .f32 e, .float .f32 h] 33)).alloc (Obj.cells #[.float .f32 s0, .float .f32 s1, .float .f32 s2] 28)) W1 := b1.mono (by simp)
    have hz1 := b1.size
    simp at hz1
    have l1 : w.heap.size + 1 + 1 < W1.heap.size := by omega
    have b0w : Below w.heap.size w W1 := ((((Below.refl w.heap.size w).alloc (Nat.le_refl _) _).alloc (by simp) _).alloc (by simp; omega) _).trans (bA.mono (by omega))
    have ks : ∀ o, o < 3 → W1.cell? ⟨w.heap.size + 1 + 1, o, none⟩ = some (.float .f32 (if o = 0 then s0 else if o = 1 then s1 else s2)) := fun o ho => by
      rw [bA.cell (p := ⟨w.heap.size + 1 + 1, o, none⟩) (by dsimp only; omega)]
      have hq := (vec_alloc ((w.alloc (Obj.cells #[.float .f32 a0, .float .f32 a1, .float .f32 a2, .float .f32 a3] 31)).alloc (Obj.cells #[.float .f32 n, .float .f32 e, .float .f32 h] 33)) s0 s1 s2 28).2
      simp at hq
      match o, ho with
      | 0, _ => exact hq.1
      | 1, _ => exact hq.2.1
      | 2, _ => exact hq.2.2
    have k0 := ks 0 (by decide)
    have k1 := ks 1 (by decide)
    have k2 := ks 2 (by decide)
    simp at k0 k1 k2
    clear ks b1 bA
    go_wp2_with fail
    (go_at_call 47; refine (FV _).mono ?_; rintro _ W2 ⟨rfl, f2⟩)
    have b2 := f2.below
    have hz2 := b2.size
    simp at hz2
    go_wp2_with fail
    go_ret2
    refine ⟨⟨_, rfl, zero32⟩, b0w.trans (Below.mono (B := W1.heap.size) ?_ b0w.size)⟩
    exact ((Below.refl W1.heap.size W1).alloc (Nat.le_refl _) _).trans (b2.mono (by simp))
end
end Go.Proofs.Ytlfcjfaddcciaaa
