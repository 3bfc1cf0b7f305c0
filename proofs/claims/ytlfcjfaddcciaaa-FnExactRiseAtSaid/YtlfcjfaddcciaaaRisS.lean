/-
  How high a place is seen, of the model. No condition.
-/
import Derived.Test.YtlfcjfaddcciaaaRis
import Derived.Test.YtlfcjfaddcciaaaNumF
namespace Go.Proofs.Ytlfcjfaddcciaaa
open Go.RowKit

theorem sInnB {a0 a1 a2 b0 b1 b2 : Nat} {x0 x1 x2 y0 y1 y2 : Option Nat} (h0 : Is .f32 a0 x0) (h1 : Is .f32 a1 x1) (h2 : Is .f32 a2 x2) (g0 : Is .f32 b0 y0) (g1 : Is .f32 b1 y1) (g2 : Is .f32 b2 y2) (W : World) :
    Calls Try.prog 56 #[vecV a0 a1 a2, vecV b0 b1 b2] W fun e w' => (∃ r, e = .returned (.float .f32 r) ∧ Is .f32 r (innerO x0 x1 x2 y0 y1 y2)) ∧ Below W.heap.size W w' :=
  (sInner h0 h1 h2 g0 g1 g2 W).mono fun _ _ ⟨r, e, i, g⟩ => ⟨⟨r, e, i⟩, g.below⟩
theorem sLenB {a0 a1 a2 : Nat} {x0 x1 x2 : Option Nat} (h0 : Is .f32 a0 x0) (h1 : Is .f32 a1 x1) (h2 : Is .f32 a2 x2) (W : World) :
    Calls Try.prog 54 #[vecV a0 a1 a2] W fun e w' => (∃ r, e = .returned (.float .f32 r) ∧ Is .f32 r (lenO x0 x1 x2)) ∧ Below W.heap.size W w' :=
  (sLong h0 h1 h2 W).mono fun _ _ ⟨r, e, i, g⟩ => ⟨⟨r, e, i⟩, g.below⟩
theorem sLesB {a0 a1 a2 b0 b1 b2 : Nat} {x0 x1 x2 y0 y1 y2 : Option Nat} (h0 : Is .f32 a0 x0) (h1 : Is .f32 a1 x1) (h2 : Is .f32 a2 x2) (g0 : Is .f32 b0 y0) (g1 : Is .f32 b1 y1) (g2 : Is .f32 b2 y2) (W : World) :
    Calls Try.prog 83 #[vecV a0 a1 a2, vecV b0 b1 b2] W fun e w' => (∃ r0 r1 r2, e = .returned (vecV r0 r1 r2) ∧ Is .f32 r0 (fo .sub .f32 x0 y0) ∧ Is .f32 r1 (fo .sub .f32 x1 y1) ∧ Is .f32 r2 (fo .sub .f32 x2 y2)) ∧ Below W.heap.size W w' :=
  (sLess h0 h1 h2 g0 g1 g2 W).mono fun _ _ ⟨r0, r1, r2, e, i0, i1, i2, g⟩ => ⟨⟨r0, r1, r2, e, i0, i1, i2⟩, g.below⟩

/-- How high a place is seen from a mark. -/
def risM (x1 x2 x3 un ue uh ut y0 y1 y2 : Option Nat) : Option Nat := risN (plX x1 x2 x3 un ue uh ut) (plY x1 x2 x3 un ue uh ut) (plZ x1 un uh) y0 y1 y2

section
variable {a0 a1 a2 a3 n e h t s0 s1 s2 : Nat} {x0 x1 x2 x3 un ue uh ut y0 y1 y2 : Option Nat} (h1 : Is .f32 a1 x1) (h2 : Is .f32 a2 x2) (h3 : Is .f32 a3 x3) (hn : Is .f32 n un) (he : Is .f32 e ue) (hh : Is .f32 h uh) (ht : Is .f32 t ut) (g0 : Is .f32 s0 y0) (g1 : Is .f32 s1 y1) (g2 : Is .f32 s2 y2)
include h1 h2 h3 hn he hh ht g0 g1 g2

set_option maxRecDepth 100000 in
set_option maxHeartbeats 3200000 in
theorem sRisP (bb bm : Nat) (w : World) (hb : bb < w.heap.size) (hm : bm < w.heap.size) (c1 : w.cell? ⟨bb, 1, none⟩ = some (.float .f32 a1)) (c2 : w.cell? ⟨bb, 2, none⟩ = some (.float .f32 a2)) (c3 : w.cell? ⟨bb, 3, none⟩ = some (.float .f32 a3))
    (m0 : w.cell? ⟨bm, 0, none⟩ = some (.float .f32 n)) (m1 : w.cell? ⟨bm, 1, none⟩ = some (.float .f32 e)) (m2 : w.cell? ⟨bm, 2, none⟩ = some (.float .f32 h)) :
    Calls Try.prog 46 #[.pointer (some ⟨bb, 0, none⟩), .pointer (some ⟨bm, 0, none⟩), vecV s0 s1 s2, .float .f32 t] w
      (RetNum (if finV (plX x1 x2 x3 un ue uh ut) (plY x1 x2 x3 un ue uh ut) (plZ x1 un uh) then finN (risM x1 x2 x3 un ue uh ut y0 y1 y2) else some 0) (finV (plX x1 x2 x3 un ue uh ut) (plY x1 x2 x3 un ue uh ut) (plZ x1 un uh) && finS (risM x1 x2 x3 un ue uh ut y0 y1 y2)) w) := by
  have hst := run_store_float Try.prog
  have bV : Below w.heap.size w (w.alloc (.cells #[.float .f32 s0, .float .f32 s1, .float .f32 s2] 28)) := (Below.refl _ _).alloc (Nat.le_refl _) _
  have hV := vec_alloc w s0 s1 s2 28
  have SP := sPlcP h1 h2 h3 hn he hh ht bb bm (w.alloc (.cells #[.float .f32 s0, .float .f32 s1, .float .f32 s2] 28)) (by simp; omega) (by simp; omega) (by rw [bV.cell hb]; exact c1) (by rw [bV.cell hb]; exact c2) (by rw [bV.cell hb]; exact c3) (by rw [bV.cell hm]; exact m0) (by rw [bV.cell hm]; exact m1) (by rw [bV.cell hm]; exact m2)
  clear c1 c2 c3 m0 m1 m2
  cases hv : finV (plX x1 x2 x3 un ue uh ut) (plY x1 x2 x3 un ue uh ut) (plZ x1 un uh) with
  | false =>
    rw [hv] at SP
    simp only [Bool.false_eq_true, if_false, Bool.false_and]
    go_enter Try.func46, Try.ntmps46
    go_wp2_with fail
    (go_at_call 37; refine SP.mono ?_; rintro _ W1 ⟨⟨r0, r1, r2, rfl, i0, i1, i2⟩, b1⟩)
    have hz1 := b1.size
    simp at hz1
    go_wp2_with fail
    go_ret2
    refine ⟨⟨_, rfl, zero32⟩, ?_⟩
    have b2 := bV.trans (b1.mono (by simp))
    exact b2.alloc b2.size _
  | true =>
    rw [hv, finP_t hv, finP_t hv, finP_t hv] at SP
    simp only [if_true, Bool.true_and]
    unfold risM
    generalize plX x1 x2 x3 un ue uh ut = u0 at *
    generalize plY x1 x2 x3 un ue uh ut = u1 at *
    generalize plZ x1 un uh = u2 at *
    go_enter Try.func46, Try.ntmps46
    go_wp2_with fail
    (go_at_call 37; refine SP.mono ?_; rintro _ W1 ⟨⟨r0, r1, r2, rfl, i0, i1, i2⟩, b1⟩)
    have hz1 := b1.size
    simp at hz1
    have l1 : w.heap.size < W1.heap.size := by omega
    obtain ⟨-, k0, k1, k2⟩ := hV.at b1
    have b0w := bV.trans (b1.mono (by simp))
    clear bV hV b1 SP
    have hP := vec_alloc W1 r0 r1 r2 28
    obtain ⟨hPz, p0, p1, p2⟩ := hP
    clear p0 p1 p2
    go_wp2_with fail
    have bW : Below W1.heap.size W1 (W1.alloc (.cells #[.float .f32 r0, .float .f32 r1, .float .f32 r2] 28)) := (Below.refl W1.heap.size W1).alloc (Nat.le_refl _) _
    (go_at_call 83; refine (sLesB g0 g1 g2 i0 i1 i2 _).mono ?_; rintro _ W3 ⟨⟨d0, d1, d2, rfl, j0, j1, j2⟩, b3⟩)
    have hP3 : VecIn W3 W1.heap.size r0 r1 r2 := (vec_alloc W1 r0 r1 r2 28).at b3
    have b0W3 : Below w.heap.size w W3 := b0w.trans ((bW.trans (b3.mono (by simp))).mono b0w.size)
    have hz3 := b3.size
    simp at hz3
    clear k0 k1 k2 hPz bW
    go_wp2_with fail
    have hPZ := hP3.at ((Below.refl W3.heap.size W3).alloc (Nat.le_refl _) (.cells #[.float .f32 d0, .float .f32 d1, .float .f32 d2] 28))
    have hDZ := vec_alloc W3 d0 d1 d2 28
    have b0Z := b0W3.alloc b0W3.size (.cells #[.float .f32 d0, .float .f32 d1, .float .f32 d2] 28)
    generalize W3.alloc (.cells #[.float .f32 d0, .float .f32 d1, .float .f32 d2] 28) = Z at hPZ hDZ b0Z ⊢
    have p0 : ∀ w', Below Z.heap.size Z w' → w'.cell? ⟨W1.heap.size, 0, none⟩ = some (.float .f32 r0) := fun w' h => (hPZ.at h).2.1
    have p1 : ∀ w', Below Z.heap.size Z w' → w'.cell? ⟨W1.heap.size, 1, none⟩ = some (.float .f32 r1) := fun w' h => (hPZ.at h).2.2.1
    have p2 : ∀ w', Below Z.heap.size Z w' → w'.cell? ⟨W1.heap.size, 2, none⟩ = some (.float .f32 r2) := fun w' h => (hPZ.at h).2.2.2
    have e0 : ∀ w', Below Z.heap.size Z w' → w'.cell? ⟨W3.heap.size, 0, none⟩ = some (.float .f32 d0) := fun w' h => (hDZ.at h).2.1
    have e1 : ∀ w', Below Z.heap.size Z w' → w'.cell? ⟨W3.heap.size, 1, none⟩ = some (.float .f32 d1) := fun w' h => (hDZ.at h).2.2.1
    have e2 : ∀ w', Below Z.heap.size Z w' → w'.cell? ⟨W3.heap.size, 2, none⟩ = some (.float .f32 d2) := fun w' h => (hDZ.at h).2.2.2
    clear hP3 hPZ hDZ
    (refine wp_region_held_drew (S := fun w' => Below Z.heap.size Z w') (by kernel_rfl) (by (try dsimp only); (repeat' (first | with_reducible assumption | with_reducible exact Below.refl _ _ | with_reducible exact keepW (by with_reducible assumption) (by with_reducible assumption) (by first | exact Nat.le_refl _ | assumption | omega | (simp; done) | (simp; omega)) | with_reducible exact keepS (by with_reducible assumption) (by with_reducible assumption) (by first | exact Nat.le_refl _ | assumption | omega | (simp; done) | (simp; omega)) | (with_reducible refine Below.setCell ?_ (by first | omega | (simp; done) | (simp; omega)) _) | (with_reducible refine below_drewN ?_ _) | (with_reducible refine Below.drew ?_) | (with_reducible refine Below.trans ?_ (Below.mono (by with_reducible assumption) (by first | omega | (simp; done) | (simp; omega)))) | (with_reducible refine Below.trans ?_ (Below.mono (Grow.below (by with_reducible assumption)) (by first | omega | (simp; done) | (simp; omega)))) | (with_reducible refine Below.alloc ?_ (by first | omega | (simp; done) | (simp; omega)) _)))) (fun hHeld => ?_))
    (refine wpTake (i := 0) (some 25) (v := ?_) rfl (by rfl) (by kernel_rfl) (by kernel_rfl) (by kernel_rfl) (fun _ _ _ h => h) (Or.inl ⟨by rfl, ?_⟩) (by assumption) ?_; rotate_left; (focus (intro w hSw; (try dsimp only at hSw); go_simp; (try with_reducible rfl))); (simp only [Act.put, List.setIfInBounds_toArray, List.set_cons_zero, List.set_cons_succ]))
    (refine wpTake (i := 1) (some 26) (v := ?_) rfl (by rfl) (by kernel_rfl) (by kernel_rfl) (by kernel_rfl) (fun _ _ _ h => h) (Or.inl ⟨by rfl, ?_⟩) (by assumption) ?_; rotate_left; (focus (intro w hSw; (try dsimp only at hSw); go_simp; (try with_reducible rfl))); (simp only [Act.put, List.setIfInBounds_toArray, List.set_cons_zero, List.set_cons_succ]))
    (refine wpTake (i := 3) (some 28) (v := ?_) rfl (by rfl) (by kernel_rfl) (by kernel_rfl) (by kernel_rfl) (fun _ _ _ h => h) (Or.inl ⟨by rfl, ?_⟩) (by assumption) ?_; rotate_left; (focus (intro w hSw; (try dsimp only at hSw); go_simp; (try with_reducible rfl))); (simp only [Act.put, List.setIfInBounds_toArray, List.set_cons_zero, List.set_cons_succ]))
    (refine wpTake (i := 5) (some 30) (v := ?_) rfl (by rfl) (by kernel_rfl) (by kernel_rfl) (by kernel_rfl) (fun _ _ _ h => h) (Or.inl ⟨by rfl, ?_⟩) (by assumption) ?_; rotate_left; (focus (intro w hSw; (try dsimp only at hSw); go_simp; (try with_reducible rfl))); (simp only [Act.put, List.setIfInBounds_toArray, List.set_cons_zero, List.set_cons_succ]))
    (refine wpAnyH_ready (rs := [2]) (by kernel_rfl) (by simp) ?_; refine AllReadyH.cons rfl (fun K hK => ?_) AllReadyH.nil; go_simp)
    (go_at_call 56; (with_reducible refine (sInnB i0 i1 i2 j0 j1 j2 _).mono ?_); rintro eq wq ⟨⟨rI, rfl, iI⟩, hbs⟩)
    (go_wp2_with fail; refine hK.out _ _ (by (try dsimp only); (repeat' (first | with_reducible assumption | with_reducible exact Below.refl _ _ | with_reducible exact keepW (by with_reducible assumption) (by with_reducible assumption) (by first | exact Nat.le_refl _ | assumption | omega | (simp; done) | (simp; omega)) | with_reducible exact keepS (by with_reducible assumption) (by with_reducible assumption) (by first | exact Nat.le_refl _ | assumption | omega | (simp; done) | (simp; omega)) | (with_reducible refine Below.setCell ?_ (by first | omega | (simp; done) | (simp; omega)) _) | (with_reducible refine below_drewN ?_ _) | (with_reducible refine Below.drew ?_) | (with_reducible refine Below.trans ?_ (Below.mono (by with_reducible assumption) (by first | omega | (simp; done) | (simp; omega)))) | (with_reducible refine Below.trans ?_ (Below.mono (Grow.below (by with_reducible assumption)) (by first | omega | (simp; done) | (simp; omega)))) | (with_reducible refine Below.alloc ?_ (by first | omega | (simp; done) | (simp; omega)) _)))) (fun hHeld => ?_); clear hK K; try (simp only [Act.put, List.setIfInBounds_toArray, List.set_cons_zero, List.set_cons_succ]))
    (refine wpAnyH_ready (rs := [4]) (by kernel_rfl) (by simp) ?_; refine AllReadyH.cons rfl (fun K hK => ?_) AllReadyH.nil; go_simp)
    (go_at_call 54; (with_reducible refine (sLenB i0 i1 i2 _).mono ?_); rintro eq wq ⟨⟨rP, rfl, iP⟩, hbs⟩)
    (go_wp2_with fail; refine hK.out _ _ (by (try dsimp only); (repeat' (first | with_reducible assumption | with_reducible exact Below.refl _ _ | with_reducible exact keepW (by with_reducible assumption) (by with_reducible assumption) (by first | exact Nat.le_refl _ | assumption | omega | (simp; done) | (simp; omega)) | with_reducible exact keepS (by with_reducible assumption) (by with_reducible assumption) (by first | exact Nat.le_refl _ | assumption | omega | (simp; done) | (simp; omega)) | (with_reducible refine Below.setCell ?_ (by first | omega | (simp; done) | (simp; omega)) _) | (with_reducible refine below_drewN ?_ _) | (with_reducible refine Below.drew ?_) | (with_reducible refine Below.trans ?_ (Below.mono (by with_reducible assumption) (by first | omega | (simp; done) | (simp; omega)))) | (with_reducible refine Below.trans ?_ (Below.mono (Grow.below (by with_reducible assumption)) (by first | omega | (simp; done) | (simp; omega)))) | (with_reducible refine Below.alloc ?_ (by first | omega | (simp; done) | (simp; omega)) _)))) (fun hHeld => ?_); clear hK K; try (simp only [Act.put, List.setIfInBounds_toArray, List.set_cons_zero, List.set_cons_succ]))
    (refine wpAnyH_ready (rs := [6]) (by kernel_rfl) (by simp) ?_; refine AllReadyH.cons rfl (fun K hK => ?_) AllReadyH.nil; go_simp)
    (go_at_call 54; (with_reducible refine (sLenB j0 j1 j2 _).mono ?_); rintro eq wq ⟨⟨rD, rfl, iD⟩, hbs⟩)
    (go_wp2_with fail; refine hK.out _ _ (by (try dsimp only); (repeat' (first | with_reducible assumption | with_reducible exact Below.refl _ _ | with_reducible exact keepW (by with_reducible assumption) (by with_reducible assumption) (by first | exact Nat.le_refl _ | assumption | omega | (simp; done) | (simp; omega)) | with_reducible exact keepS (by with_reducible assumption) (by with_reducible assumption) (by first | exact Nat.le_refl _ | assumption | omega | (simp; done) | (simp; omega)) | (with_reducible refine Below.setCell ?_ (by first | omega | (simp; done) | (simp; omega)) _) | (with_reducible refine below_drewN ?_ _) | (with_reducible refine Below.drew ?_) | (with_reducible refine Below.trans ?_ (Below.mono (by with_reducible assumption) (by first | omega | (simp; done) | (simp; omega)))) | (with_reducible refine Below.trans ?_ (Below.mono (Grow.below (by with_reducible assumption)) (by first | omega | (simp; done) | (simp; omega)))) | (with_reducible refine Below.alloc ?_ (by first | omega | (simp; done) | (simp; omega)) _)))) (fun hHeld => ?_); clear hK K; try (simp only [Act.put, List.setIfInBounds_toArray, List.set_cons_zero, List.set_cons_succ]))
    (apply wpTakeA (i := 7) (some 32); rfl; rfl; rfl; kernel_rfl; rfl; simp [Arith]; rfl; rfl; exact iP; exact iD; (intro nq; (try dsimp only); (repeat' (first | with_reducible assumption | with_reducible exact Below.refl _ _ | with_reducible exact keepW (by with_reducible assumption) (by with_reducible assumption) (by first | exact Nat.le_refl _ | assumption | omega | (simp; done) | (simp; omega)) | with_reducible exact keepS (by with_reducible assumption) (by with_reducible assumption) (by first | exact Nat.le_refl _ | assumption | omega | (simp; done) | (simp; omega)) | (with_reducible refine Below.setCell ?_ (by first | omega | (simp; done) | (simp; omega)) _) | (with_reducible refine below_drewN ?_ _) | (with_reducible refine Below.drew ?_) | (with_reducible refine Below.trans ?_ (Below.mono (by with_reducible assumption) (by first | omega | (simp; done) | (simp; omega)))) | (with_reducible refine Below.trans ?_ (Below.mono (Grow.below (by with_reducible assumption)) (by first | omega | (simp; done) | (simp; omega)))) | (with_reducible refine Below.alloc ?_ (by first | omega | (simp; done) | (simp; omega)) _)))); intro rq nq hq hHeld; (simp only [Act.put, List.setIfInBounds_toArray, List.set_cons_zero, List.set_cons_succ]))
    have iM := hq
    (apply wpTakeA (i := 8) (some 33); rfl; rfl; rfl; kernel_rfl; rfl; simp [Arith]; rfl; rfl; exact iI; exact iM; (intro nq; (try dsimp only); (repeat' (first | with_reducible assumption | with_reducible exact Below.refl _ _ | with_reducible exact keepW (by with_reducible assumption) (by with_reducible assumption) (by first | exact Nat.le_refl _ | assumption | omega | (simp; done) | (simp; omega)) | with_reducible exact keepS (by with_reducible assumption) (by with_reducible assumption) (by first | exact Nat.le_refl _ | assumption | omega | (simp; done) | (simp; omega)) | (with_reducible refine Below.setCell ?_ (by first | omega | (simp; done) | (simp; omega)) _) | (with_reducible refine below_drewN ?_ _) | (with_reducible refine Below.drew ?_) | (with_reducible refine Below.trans ?_ (Below.mono (by with_reducible assumption) (by first | omega | (simp; done) | (simp; omega)))) | (with_reducible refine Below.trans ?_ (Below.mono (Grow.below (by with_reducible assumption)) (by first | omega | (simp; done) | (simp; omega)))) | (with_reducible refine Below.alloc ?_ (by first | omega | (simp; done) | (simp; omega)) _)))); intro rq nq hq hHeld; (simp only [Act.put, List.setIfInBounds_toArray, List.set_cons_zero, List.set_cons_succ]))
    have iQ := hq
    have FN := fun W => sFinN iQ W
    (try simp at hHeld)
    (refine wpAnyH_ready (rs := [9]) (by kernel_rfl) (by simp) ?_; refine AllReadyH.cons rfl (fun K hK => ?_) AllReadyH.nil; go_simp)
    (go_at_call 52; (refine (FN _).mono ?_); rintro eq wq ⟨⟨rN, rfl, iN⟩, hbs⟩)
    (go_wp2_with fail; refine hK.out _ _ (by (try dsimp only); (repeat' (first | with_reducible assumption | with_reducible exact Below.refl _ _ | with_reducible exact keepW (by with_reducible assumption) (by with_reducible assumption) (by first | exact Nat.le_refl _ | assumption | omega | (simp; done) | (simp; omega)) | with_reducible exact keepS (by with_reducible assumption) (by with_reducible assumption) (by first | exact Nat.le_refl _ | assumption | omega | (simp; done) | (simp; omega)) | (with_reducible refine Below.setCell ?_ (by first | omega | (simp; done) | (simp; omega)) _) | (with_reducible refine below_drewN ?_ _) | (with_reducible refine Below.drew ?_) | (with_reducible refine Below.trans ?_ (Below.mono (by with_reducible assumption) (by first | omega | (simp; done) | (simp; omega)))) | (with_reducible refine Below.trans ?_ (Below.mono (Grow.below (by with_reducible assumption)) (by first | omega | (simp; done) | (simp; omega)))) | (with_reducible refine Below.alloc ?_ (by first | omega | (simp; done) | (simp; omega)) _)))) (fun hHeld => ?_); clear hK K; try (simp only [Act.put, List.setIfInBounds_toArray, List.set_cons_zero, List.set_cons_succ]))
    (refine wpTake (i := 10) (some 35) (v := ?_) rfl (by rfl) (by kernel_rfl) (by kernel_rfl) (by kernel_rfl) (fun _ _ _ h => h) (Or.inl ⟨by rfl, ?_⟩) (by assumption) ?_; rotate_left; (focus (intro w hSw; (try dsimp only at hSw); go_simp; (try with_reducible rfl))); (simp only [Act.put, List.setIfInBounds_toArray, List.set_cons_zero, List.set_cons_succ]))
    (refine wpTake (i := 11) (some 36) (v := ?_) rfl (by rfl) (by kernel_rfl) (by kernel_rfl) (by kernel_rfl) (fun _ _ _ h => h) (Or.inl ⟨by rfl, ?_⟩) (by assumption) ?_; rotate_left; (focus (intro w hSw; (try dsimp only at hSw); go_simp; (try with_reducible rfl))); (simp only [Act.put, List.setIfInBounds_toArray, List.set_cons_zero, List.set_cons_succ]))
    (refine wpTake (i := 12) (some 8) (v := ?_) rfl (by rfl) (by kernel_rfl) (by kernel_rfl) (by kernel_rfl) (fun _ _ _ h => h) (Or.inl ⟨by rfl, ?_⟩) (by assumption) ?_; rotate_left; (focus (intro w hSw; (try dsimp only at hSw); go_simp; (try with_reducible rfl))); (simp only [Act.put, List.setIfInBounds_toArray, List.set_cons_zero, List.set_cons_succ]))
    (refine wpTake (i := 13) (some 9) (v := ?_) rfl (by rfl) (by kernel_rfl) (by kernel_rfl) (by kernel_rfl) (fun _ _ _ h => h) (Or.inl ⟨by rfl, ?_⟩) (by assumption) ?_; rotate_left; (focus (intro w hSw; (try dsimp only at hSw); go_simp; (try with_reducible rfl))); (simp only [Act.put, List.setIfInBounds_toArray, List.set_cons_zero, List.set_cons_succ]))
    (refine wpAnyH_done (by kernel_rfl) ?_ _)
    go_wp2_with fail
    go_ret2
    exact ⟨⟨_, rfl, iN⟩, b0Z.trans (hHeld.mono b0Z.size)⟩
end
end Go.Proofs.Ytlfcjfaddcciaaa
