/-
  Where a mark is, of the model. No condition.
-/
import Derived.Test.YtlfcjfaddcciaaaPlc
namespace Go.Proofs.Ytlfcjfaddcciaaa
open Go.RowKit

section
variable {a0 a1 a2 a3 t : Nat} {x0 x1 x2 x3 ut : Option Nat} (h0 : Is .f32 a0 x0) (h1 : Is .f32 a1 x1) (h2 : Is .f32 a2 x2) (h3 : Is .f32 a3 x3) (ht : Is .f32 t ut)
include h2 h3 ht

set_option maxHeartbeats 1600000 in
theorem sFaceP (b : Nat) (w : World) (hb : b < w.heap.size) (c2 : w.cell? ⟨b, 2, none⟩ = some (.float .f32 a2)) (c3 : w.cell? ⟨b, 3, none⟩ = some (.float .f32 a3)) :
    Calls Try.prog 76 #[.pointer (some ⟨b, 0, none⟩), .float .f32 t] w fun e w' => (∃ r, e = .returned (.float .f32 r) ∧ Is .f32 r (faceO x2 x3 ut)) ∧ Below w.heap.size w w' := by
  have k2 : ∀ w', Below w.heap.size w w' → w'.cell? ⟨b, 2, none⟩ = some (.float .f32 a2) := fun w' h => by rw [h.cell (by assumption), c2]
  have k3 : ∀ w', Below w.heap.size w w' → w'.cell? ⟨b, 3, none⟩ = some (.float .f32 a3) := fun w' h => by rw [h.cell (by assumption), c3]
  clear c2 c3
  go_enter Try.func76, Try.ntmps76
  go_wp2_with fail
  (refine wp_region_held_drew (S := fun w' => Below w.heap.size w w') (by kernel_rfl) (by (try dsimp only); (repeat' (first | with_reducible assumption | with_reducible exact Below.refl _ _ | with_reducible exact keepW (by with_reducible assumption) (by with_reducible assumption) (by first | exact Nat.le_refl _ | assumption | omega | (simp; done) | (simp; omega)) | with_reducible exact keepS (by with_reducible assumption) (by with_reducible assumption) (by first | exact Nat.le_refl _ | assumption | omega | (simp; done) | (simp; omega)) | (with_reducible refine Below.setCell ?_ (by first | omega | (simp; done) | (simp; omega)) _) | (with_reducible refine below_drewN ?_ _) | (with_reducible refine Below.drew ?_) | (with_reducible refine Below.trans ?_ (Below.mono (by with_reducible assumption) (by first | omega | (simp; done) | (simp; omega)))) | (with_reducible refine Below.trans ?_ (Below.mono (Grow.below (by with_reducible assumption)) (by first | omega | (simp; done) | (simp; omega)))) | (with_reducible refine Below.alloc ?_ (by first | omega | (simp; done) | (simp; omega)) _)))) (fun hHeld => ?_))
  (refine wpTake (i := 0) (some 5) (v := ?_) rfl (by rfl) (by kernel_rfl) (by kernel_rfl) (by kernel_rfl) (fun _ _ _ h => h) (Or.inl ⟨by rfl, ?_⟩) (by assumption) ?_; rotate_left; (focus (intro w hSw; (try dsimp only at hSw); go_simp; (try with_reducible rfl))); (simp only [Act.put, List.setIfInBounds_toArray, List.set_cons_zero, List.set_cons_succ]))
  (refine wpTake (i := 1) (some 6) (v := ?_) rfl (by rfl) (by kernel_rfl) (by kernel_rfl) (by kernel_rfl) (fun _ _ _ h => h) (Or.inl ⟨by rfl, ?_⟩) (by assumption) ?_; rotate_left; (focus (intro w hSw; (try dsimp only at hSw); go_simp; (try with_reducible rfl))); (simp only [Act.put, List.setIfInBounds_toArray, List.set_cons_zero, List.set_cons_succ]))
  (refine wpTake (i := 2) (some 7) (v := ?_) rfl (by rfl) (by kernel_rfl) (by kernel_rfl) (by kernel_rfl) (fun _ _ _ h => h) (Or.inl ⟨by rfl, ?_⟩) (by assumption) ?_; rotate_left; (focus (intro w hSw; (try dsimp only at hSw); go_simp; (try with_reducible rfl))); (simp only [Act.put, List.setIfInBounds_toArray, List.set_cons_zero, List.set_cons_succ]))
  (refine wpTake (i := 3) (some 8) (v := ?_) rfl (by rfl) (by kernel_rfl) (by kernel_rfl) (by kernel_rfl) (fun _ _ _ h => h) (Or.inl ⟨by rfl, ?_⟩) (by assumption) ?_; rotate_left; (focus (intro w hSw; (try dsimp only at hSw); go_simp; (try with_reducible rfl))); (simp only [Act.put, List.setIfInBounds_toArray, List.set_cons_zero, List.set_cons_succ]))
  (refine wpTake (i := 4) (some 9) (v := ?_) rfl (by rfl) (by kernel_rfl) (by kernel_rfl) (by kernel_rfl) (fun _ _ _ h => h) (Or.inl ⟨by rfl, ?_⟩) (by assumption) ?_; rotate_left; (focus (intro w hSw; (try dsimp only at hSw); go_simp; (try with_reducible rfl))); (simp only [Act.put, List.setIfInBounds_toArray, List.set_cons_zero, List.set_cons_succ]))
  (refine wpTake (i := 5) (some 10) (v := ?_) rfl (by rfl) (by kernel_rfl) (by kernel_rfl) (by kernel_rfl) (fun _ _ _ h => h) (Or.inl ⟨by rfl, ?_⟩) (by assumption) ?_; rotate_left; (focus (intro w hSw; (try dsimp only at hSw); go_simp; (try with_reducible rfl))); (simp only [Act.put, List.setIfInBounds_toArray, List.set_cons_zero, List.set_cons_succ]))
  (refine wpTake (i := 6) (some 11) (v := ?_) rfl (by rfl) (by kernel_rfl) (by kernel_rfl) (by kernel_rfl) (fun _ _ _ h => h) (Or.inl ⟨by rfl, ?_⟩) (by assumption) ?_; rotate_left; (focus (intro w hSw; (try dsimp only at hSw); go_simp; (try with_reducible rfl))); (simp only [Act.put, List.setIfInBounds_toArray, List.set_cons_zero, List.set_cons_succ]))
  (refine wpTake (i := 7) (some 12) (v := ?_) rfl (by rfl) (by kernel_rfl) (by kernel_rfl) (by kernel_rfl) (fun _ _ _ h => h) (Or.inl ⟨by rfl, ?_⟩) (by assumption) ?_; rotate_left; (focus (intro w hSw; (try dsimp only at hSw); go_simp; (try with_reducible rfl))); (simp only [Act.put, List.setIfInBounds_toArray, List.set_cons_zero, List.set_cons_succ]))
  (refine wpTake (i := 8) (some 13) (v := ?_) rfl (by rfl) (by kernel_rfl) (by kernel_rfl) (by kernel_rfl) (fun _ _ _ h => h) (Or.inl ⟨by rfl, ?_⟩) (by assumption) ?_; rotate_left; (focus (intro w hSw; (try dsimp only at hSw); go_simp; (try with_reducible rfl))); (simp only [Act.put, List.setIfInBounds_toArray, List.set_cons_zero, List.set_cons_succ]))
  (apply wpTakeA (i := 9) (some 14); rfl; rfl; rfl; kernel_rfl; rfl; simp [Arith]; rfl; rfl; exact h2; exact ht; (intro nq; (try dsimp only); (repeat' (first | with_reducible assumption | with_reducible exact Below.refl _ _ | with_reducible exact keepW (by with_reducible assumption) (by with_reducible assumption) (by first | exact Nat.le_refl _ | assumption | omega | (simp; done) | (simp; omega)) | with_reducible exact keepS (by with_reducible assumption) (by with_reducible assumption) (by first | exact Nat.le_refl _ | assumption | omega | (simp; done) | (simp; omega)) | (with_reducible refine Below.setCell ?_ (by first | omega | (simp; done) | (simp; omega)) _) | (with_reducible refine below_drewN ?_ _) | (with_reducible refine Below.drew ?_) | (with_reducible refine Below.trans ?_ (Below.mono (by with_reducible assumption) (by first | omega | (simp; done) | (simp; omega)))) | (with_reducible refine Below.trans ?_ (Below.mono (Grow.below (by with_reducible assumption)) (by first | omega | (simp; done) | (simp; omega)))) | (with_reducible refine Below.alloc ?_ (by first | omega | (simp; done) | (simp; omega)) _)))); intro rq nq hq hHeld; (simp only [Act.put, List.setIfInBounds_toArray, List.set_cons_zero, List.set_cons_succ]))
  have iM := hq
  (apply wpTakeA (i := 10) (some 15); rfl; rfl; rfl; kernel_rfl; rfl; simp [Arith]; rfl; rfl; exact h3; exact iM; (intro nq; (try dsimp only); (repeat' (first | with_reducible assumption | with_reducible exact Below.refl _ _ | with_reducible exact keepW (by with_reducible assumption) (by with_reducible assumption) (by first | exact Nat.le_refl _ | assumption | omega | (simp; done) | (simp; omega)) | with_reducible exact keepS (by with_reducible assumption) (by with_reducible assumption) (by first | exact Nat.le_refl _ | assumption | omega | (simp; done) | (simp; omega)) | (with_reducible refine Below.setCell ?_ (by first | omega | (simp; done) | (simp; omega)) _) | (with_reducible refine below_drewN ?_ _) | (with_reducible refine Below.drew ?_) | (with_reducible refine Below.trans ?_ (Below.mono (by with_reducible assumption) (by first | omega | (simp; done) | (simp; omega)))) | (with_reducible refine Below.trans ?_ (Below.mono (Grow.below (by with_reducible assumption)) (by first | omega | (simp; done) | (simp; omega)))) | (with_reducible refine Below.alloc ?_ (by first | omega | (simp; done) | (simp; omega)) _)))); intro rq nq hq hHeld; (simp only [Act.put, List.setIfInBounds_toArray, List.set_cons_zero, List.set_cons_succ]))
  (refine wpTake (i := 11) (some 4) (v := ?_) rfl (by rfl) (by kernel_rfl) (by kernel_rfl) (by kernel_rfl) (fun _ _ _ h => h) (Or.inl ⟨by rfl, ?_⟩) (by assumption) ?_; rotate_left; (focus (intro w hSw; (try dsimp only at hSw); go_simp; (try with_reducible rfl))); (simp only [Act.put, List.setIfInBounds_toArray, List.set_cons_zero, List.set_cons_succ]))
  (refine wpAnyH_done (by kernel_rfl) ?_ _)
  go_wp2_with fail
  go_ret
  exact ⟨⟨_, rfl, hq⟩, hHeld⟩
end

def plcS (far c f : Nat) (bn : Nat) (nn : Nat) (FA NO C F : Option Nat) (i : Nat) (v : Value) : Prop :=
  match i with
  | 0 => v = .float .f32 c
  | 1 => v = .float .f32 f
  | 2 => ∃ r, v = .float .f32 r ∧ Is .f32 r (cosT F)
  | 3 => ∃ r, v = .float .f32 r ∧ Is .f32 r (fo .mul .f32 C (cosT F))
  | 4 => v = .float .f32 c
  | 5 => v = .float .f32 f
  | 6 => ∃ r, v = .float .f32 r ∧ Is .f32 r (sinT F)
  | 7 => ∃ r, v = .float .f32 r ∧ Is .f32 r (fo .mul .f32 C (sinT F))
  | 8 => v = .float .f32 far
  | 9 => v = .pointer (some ⟨bn, 0, none⟩)
  | 10 => v = .pointer (some ⟨bn, 0, none⟩)
  | 11 => v = .pointer (some ⟨bn, 0, none⟩)
  | 12 => v = .float .f32 nn
  | 13 => ∃ r, v = .float .f32 r ∧ Is .f32 r (sinT NO)
  | 14 => ∃ r, v = .float .f32 r ∧ Is .f32 r (fo .mul .f32 FA (sinT NO))
  | _ => ∃ r0 r1 r2, v = vecV r0 r1 r2 ∧ Is .f32 r0 (fo .mul .f32 C (cosT F)) ∧ Is .f32 r1 (fo .mul .f32 C (sinT F)) ∧ Is .f32 r2 (fo .mul .f32 FA (sinT NO))

section
variable {a0 a1 a2 a3 n e h t : Nat} {x0 x1 x2 x3 un ue uh ut : Option Nat} (h1 : Is .f32 a1 x1) (h2 : Is .f32 a2 x2) (h3 : Is .f32 a3 x3) (hn : Is .f32 n un) (he : Is .f32 e ue) (hh : Is .f32 h uh) (ht : Is .f32 t ut)
include h1 h2 h3 hn he hh ht

set_option maxRecDepth 100000 in
set_option maxHeartbeats 3200000 in
theorem sPlcP (bb bm : Nat) (w : World) (hb : bb < w.heap.size) (hm : bm < w.heap.size) (c1 : w.cell? ⟨bb, 1, none⟩ = some (.float .f32 a1)) (c2 : w.cell? ⟨bb, 2, none⟩ = some (.float .f32 a2)) (c3 : w.cell? ⟨bb, 3, none⟩ = some (.float .f32 a3))
    (m0 : w.cell? ⟨bm, 0, none⟩ = some (.float .f32 n)) (m1 : w.cell? ⟨bm, 1, none⟩ = some (.float .f32 e)) (m2 : w.cell? ⟨bm, 2, none⟩ = some (.float .f32 h)) :
    Calls Try.prog 37 #[.pointer (some ⟨bb, 0, none⟩), .pointer (some ⟨bm, 0, none⟩), .float .f32 t] w
      (RetVB (finP (plX x1 x2 x3 un ue uh ut) (plY x1 x2 x3 un ue uh ut) (plZ x1 un uh) (plX x1 x2 x3 un ue uh ut)) (finP (plX x1 x2 x3 un ue uh ut) (plY x1 x2 x3 un ue uh ut) (plZ x1 un uh) (plY x1 x2 x3 un ue uh ut)) (finP (plX x1 x2 x3 un ue uh ut) (plY x1 x2 x3 un ue uh ut) (plZ x1 un uh) (plZ x1 un uh)) (finV (plX x1 x2 x3 un ue uh ut) (plY x1 x2 x3 un ue uh ut) (plZ x1 un uh)) w) := by
  have hst := run_store_float Try.prog
  have k1 : ∀ w', Below w.heap.size w w' → w'.cell? ⟨bb, 1, none⟩ = some (.float .f32 a1) := fun w' h => by rw [h.cell (by assumption), c1]
  have k2 : ∀ w', Below w.heap.size w w' → w'.cell? ⟨bb, 2, none⟩ = some (.float .f32 a2) := fun w' h => by rw [h.cell (by assumption), c2]
  have k3 : ∀ w', Below w.heap.size w w' → w'.cell? ⟨bb, 3, none⟩ = some (.float .f32 a3) := fun w' h => by rw [h.cell (by assumption), c3]
  have n0 : ∀ w', Below w.heap.size w w' → w'.cell? ⟨bm, 0, none⟩ = some (.float .f32 n) := fun w' h => by rw [h.cell (by assumption), m0]
  have n1 : ∀ w', Below w.heap.size w w' → w'.cell? ⟨bm, 1, none⟩ = some (.float .f32 e) := fun w' h => by rw [h.cell (by assumption), m1]
  have n2 : ∀ w', Below w.heap.size w w' → w'.cell? ⟨bm, 2, none⟩ = some (.float .f32 h) := fun w' h => by rw [h.cell (by assumption), m2]
  have N0 := Lib.hid n0
  have K2 := Lib.hid k2
  have K3 := Lib.hid k3
  clear c1 c2 c3 m0 m1 m2
  go_enter Try.func37, Try.ntmps37
  go_wp2_with fail
  have hR : Has w.heap.size 3 (w.alloc (.cells #[.float .f32 0, .float .f32 0, .float .f32 0] 28)) := has_alloc3 w _ _ _ _
  have bA : Below w.heap.size w (w.alloc (.cells #[.float .f32 0, .float .f32 0, .float .f32 0] 28)) := (Below.refl _ _).alloc (Nat.le_refl _) _
  have hlt : w.heap.size < (w.alloc (.cells #[.float .f32 0, .float .f32 0, .float .f32 0] 28)).heap.size := by simp
  generalize w.alloc (.cells #[.float .f32 0, .float .f32 0, .float .f32 0] 28) = V at *
  (refine wp_region_held_drew (S := fun w' => Below w.heap.size w w') (by kernel_rfl) bA.drew (fun hHeld => ?_))
  (refine wpTake (i := 0) (some 11) (v := ?_) rfl (by rfl) (by kernel_rfl) (by kernel_rfl) (by kernel_rfl) (fun _ _ _ h => h) (Or.inl ⟨by rfl, ?_⟩) (by assumption) ?_; rotate_left; (focus (intro w hSw; (try dsimp only at hSw); go_simp; (try with_reducible rfl))); (simp only [Act.put, List.setIfInBounds_toArray, List.set_cons_zero, List.set_cons_succ]))
  (refine wpTake (i := 1) (some 12) (v := ?_) rfl (by rfl) (by kernel_rfl) (by kernel_rfl) (by kernel_rfl) (fun _ _ _ h => h) (Or.inl ⟨by rfl, ?_⟩) (by assumption) ?_; rotate_left; (focus (intro w hSw; (try dsimp only at hSw); go_simp; (try with_reducible rfl))); (simp only [Act.put, List.setIfInBounds_toArray, List.set_cons_zero, List.set_cons_succ]))
  (refine wpTake (i := 2) (some 13) (v := ?_) rfl (by rfl) (by kernel_rfl) (by kernel_rfl) (by kernel_rfl) (fun _ _ _ h => h) (Or.inl ⟨by rfl, ?_⟩) (by assumption) ?_; rotate_left; (focus (intro w hSw; (try dsimp only at hSw); go_simp; (try with_reducible rfl))); (simp only [Act.put, List.setIfInBounds_toArray, List.set_cons_zero, List.set_cons_succ]))
  (refine wpTake (i := 3) (some 14) (v := ?_) rfl (by rfl) (by kernel_rfl) (by kernel_rfl) (by kernel_rfl) (fun _ _ _ h => h) (Or.inl ⟨by rfl, ?_⟩) (by assumption) ?_; rotate_left; (focus (intro w hSw; (try dsimp only at hSw); go_simp; (try with_reducible rfl))); (simp only [Act.put, List.setIfInBounds_toArray, List.set_cons_zero, List.set_cons_succ]))
  (refine wpTake (i := 4) (some 15) (v := ?_) rfl (by rfl) (by kernel_rfl) (by kernel_rfl) (by kernel_rfl) (fun _ _ _ h => h) (Or.inl ⟨by rfl, ?_⟩) (by assumption) ?_; rotate_left; (focus (intro w hSw; (try dsimp only at hSw); go_simp; (try with_reducible rfl))); (simp only [Act.put, List.setIfInBounds_toArray, List.set_cons_zero, List.set_cons_succ]))
  (refine wpTake (i := 5) (some 16) (v := ?_) rfl (by rfl) (by kernel_rfl) (by kernel_rfl) (by kernel_rfl) (fun _ _ _ h => h) (Or.inl ⟨by rfl, ?_⟩) (by assumption) ?_; rotate_left; (focus (intro w hSw; (try dsimp only at hSw); go_simp; (try with_reducible rfl))); (simp only [Act.put, List.setIfInBounds_toArray, List.set_cons_zero, List.set_cons_succ]))
  (refine wpTake (i := 6) (some 17) (v := ?_) rfl (by rfl) (by kernel_rfl) (by kernel_rfl) (by kernel_rfl) (fun _ _ _ h => h) (Or.inl ⟨by rfl, ?_⟩) (by assumption) ?_; rotate_left; (focus (intro w hSw; (try dsimp only at hSw); go_simp; (try with_reducible rfl))); (simp only [Act.put, List.setIfInBounds_toArray, List.set_cons_zero, List.set_cons_succ]))
  (refine wpTake (i := 7) (some 18) (v := ?_) rfl (by rfl) (by kernel_rfl) (by kernel_rfl) (by kernel_rfl) (fun _ _ _ h => h) (Or.inl ⟨by rfl, ?_⟩) (by assumption) ?_; rotate_left; (focus (intro w hSw; (try dsimp only at hSw); go_simp; (try with_reducible rfl))); (simp only [Act.put, List.setIfInBounds_toArray, List.set_cons_zero, List.set_cons_succ]))
  (apply wpTakeA (i := 8) (some 19); rfl; rfl; rfl; kernel_rfl; rfl; simp [Arith]; rfl; rfl; exact h1; exact hh; (intro nq; (try dsimp only); (repeat' (first | with_reducible assumption | with_reducible exact Below.refl _ _ | with_reducible exact keepW (by with_reducible assumption) (by with_reducible assumption) (by first | exact Nat.le_refl _ | assumption | omega | (simp; done) | (simp; omega)) | with_reducible exact keepS (by with_reducible assumption) (by with_reducible assumption) (by first | exact Nat.le_refl _ | assumption | omega | (simp; done) | (simp; omega)) | (with_reducible refine Below.setCell ?_ (by first | omega | (simp; done) | (simp; omega)) _) | (with_reducible refine below_drewN ?_ _) | (with_reducible refine Below.drew ?_) | (with_reducible refine Below.trans ?_ (Below.mono (by with_reducible assumption) (by first | omega | (simp; done) | (simp; omega)))) | (with_reducible refine Below.trans ?_ (Below.mono (Grow.below (by with_reducible assumption)) (by first | omega | (simp; done) | (simp; omega)))) | (with_reducible refine Below.alloc ?_ (by first | omega | (simp; done) | (simp; omega)) _)))); intro rq nq hq hHeld; (simp only [Act.put, List.setIfInBounds_toArray, List.set_cons_zero, List.set_cons_succ]))
  (refine wpTake (i := 9) (some 8) (v := ?_) rfl (by rfl) (by kernel_rfl) (by kernel_rfl) (by kernel_rfl) (fun _ _ _ h => h) (Or.inl ⟨by rfl, ?_⟩) (by assumption) ?_; rotate_left; (focus (intro w hSw; (try dsimp only at hSw); go_simp; (try with_reducible rfl))); (simp only [Act.put, List.setIfInBounds_toArray, List.set_cons_zero, List.set_cons_succ]))
  (refine wpAnyH_done (by kernel_rfl) ?_ _)
  have hR1 : Has w.heap.size 3 (V.drew.drewN nq) := hR.drew.drewN _
  have h1z : w.heap.size < (V.drew.drewN nq).heap.size := hR1.1
  revert rq hq
  intro far iFar
  generalize V.drew.drewN nq = V1 at *
  have m0 := n0 _ hHeld
  clear bA hlt hR
  go_wp2_with (first | (apply wpList_arith; rfl; simp [Arith]; rfl; rfl; (first | assumption | exact is_lit64 _ (by decide) | exact is_lit32 _ (by decide)); (first | assumption | exact is_lit64 _ (by decide) | exact is_lit32 _ (by decide)); intro Kq hKq rq nq hq; go_simp) | (go_at_call 71; refine (sCosT hn _).mono ?_; rintro eq wq ⟨rq, nq, rfl, hq, rfl⟩))
  revert rq hq
  intro c iC
  (refine wp_region_held_drew (S := (fun w' => Below w.heap.size w w')) (by kernel_rfl) (by (try dsimp only); (repeat' (first | with_reducible assumption | with_reducible exact Below.refl _ _ | with_reducible exact keepW (by with_reducible assumption) (by with_reducible assumption) (by first | exact Nat.le_refl _ | assumption | omega | (simp; done) | (simp; omega)) | with_reducible exact keepS (by with_reducible assumption) (by with_reducible assumption) (by first | exact Nat.le_refl _ | assumption | omega | (simp; done) | (simp; omega)) | (with_reducible refine Below.setCell ?_ (by first | omega | (simp; done) | (simp; omega)) _) | (with_reducible refine below_drewN ?_ _) | (with_reducible refine Below.drew ?_) | (with_reducible refine Below.trans ?_ (Below.mono (by with_reducible assumption) (by first | omega | (simp; done) | (simp; omega)))) | (with_reducible refine Below.trans ?_ (Below.mono (Grow.below (by with_reducible assumption)) (by first | omega | (simp; done) | (simp; omega)))) | (with_reducible refine Below.alloc ?_ (by first | omega | (simp; done) | (simp; omega)) _)))) (fun hHeld => ?_))
  (refine wpTake (i := 0) (some 27) (v := ?_) rfl (by rfl) (by kernel_rfl) (by kernel_rfl) (by kernel_rfl) (fun _ _ _ h => h) (Or.inl ⟨by rfl, ?_⟩) (by assumption) ?_; rotate_left; (focus (intro w hSw; (try dsimp only at hSw); go_simp; (try with_reducible rfl))); (simp only [Act.put, List.setIfInBounds_toArray, List.set_cons_zero, List.set_cons_succ]))
  (refine wpTake (i := 1) (some 28) (v := ?_) rfl (by rfl) (by kernel_rfl) (by kernel_rfl) (by kernel_rfl) (fun _ _ _ h => h) (Or.inl ⟨by rfl, ?_⟩) (by assumption) ?_; rotate_left; (focus (intro w hSw; (try dsimp only at hSw); go_simp; (try with_reducible rfl))); (simp only [Act.put, List.setIfInBounds_toArray, List.set_cons_zero, List.set_cons_succ]))
  (refine wpTake (i := 2) (some 29) (v := ?_) rfl (by rfl) (by kernel_rfl) (by kernel_rfl) (by kernel_rfl) (fun _ _ _ h => h) (Or.inl ⟨by rfl, ?_⟩) (by assumption) ?_; rotate_left; (focus (intro w hSw; (try dsimp only at hSw); go_simp; (try with_reducible rfl))); (simp only [Act.put, List.setIfInBounds_toArray, List.set_cons_zero, List.set_cons_succ]))
  (refine wpTake (i := 3) (some 30) (v := ?_) rfl (by rfl) (by kernel_rfl) (by kernel_rfl) (by kernel_rfl) (fun _ _ _ h => h) (Or.inl ⟨by rfl, ?_⟩) (by assumption) ?_; rotate_left; (focus (intro w hSw; (try dsimp only at hSw); go_simp; (try with_reducible rfl))); (simp only [Act.put, List.setIfInBounds_toArray, List.set_cons_zero, List.set_cons_succ]))
  (refine wpTake (i := 4) (some 31) (v := ?_) rfl (by rfl) (by kernel_rfl) (by kernel_rfl) (by kernel_rfl) (fun _ _ _ h => h) (Or.inl ⟨by rfl, ?_⟩) (by assumption) ?_; rotate_left; (focus (intro w hSw; (try dsimp only at hSw); go_simp; (try with_reducible rfl))); (simp only [Act.put, List.setIfInBounds_toArray, List.set_cons_zero, List.set_cons_succ]))
  (refine wpTake (i := 5) (some 32) (v := ?_) rfl (by rfl) (by kernel_rfl) (by kernel_rfl) (by kernel_rfl) (fun _ _ _ h => h) (Or.inl ⟨by rfl, ?_⟩) (by assumption) ?_; rotate_left; (focus (intro w hSw; (try dsimp only at hSw); go_simp; (try with_reducible rfl))); (simp only [Act.put, List.setIfInBounds_toArray, List.set_cons_zero, List.set_cons_succ]))
  (refine wpAnyH_ready (rs := [6]) (by kernel_rfl) (by simp) ?_; refine AllReadyH.cons rfl (fun K hK => ?_) AllReadyH.nil; go_simp)
  (go_at_call 76; (refine (sFaceP h2 h3 ht bb _ (Nat.lt_of_lt_of_le hb (Below.size (by assumption))) (K2.out _ (by assumption)) (K3.out _ (by assumption))).mono ?_); rintro eq wq ⟨⟨fc, rfl, iFc⟩, hbs⟩)
  (go_wp2_with fail; refine hK.out _ _ (by (try dsimp only); (repeat' (first | with_reducible assumption | with_reducible exact Below.refl _ _ | with_reducible exact keepW (by with_reducible assumption) (by with_reducible assumption) (by first | exact Nat.le_refl _ | assumption | omega | (simp; done) | (simp; omega)) | with_reducible exact keepS (by with_reducible assumption) (by with_reducible assumption) (by first | exact Nat.le_refl _ | assumption | omega | (simp; done) | (simp; omega)) | (with_reducible refine Below.setCell ?_ (by first | omega | (simp; done) | (simp; omega)) _) | (with_reducible refine below_drewN ?_ _) | (with_reducible refine Below.drew ?_) | (with_reducible refine Below.trans ?_ (Below.mono (by with_reducible assumption) (by first | omega | (simp; done) | (simp; omega)))) | (with_reducible refine Below.trans ?_ (Below.mono (Grow.below (by with_reducible assumption)) (by first | omega | (simp; done) | (simp; omega)))) | (with_reducible refine Below.alloc ?_ (by first | omega | (simp; done) | (simp; omega)) _)))) (fun hHeld => ?_); clear hK K; try (simp only [Act.put, List.setIfInBounds_toArray, List.set_cons_zero, List.set_cons_succ]))
  (apply wpTakeA (i := 7) (some 34); rfl; rfl; rfl; kernel_rfl; rfl; simp [Arith]; rfl; rfl; exact he; exact iFc; (intro nq; (try dsimp only); (repeat' (first | with_reducible assumption | with_reducible exact Below.refl _ _ | with_reducible exact keepW (by with_reducible assumption) (by with_reducible assumption) (by first | exact Nat.le_refl _ | assumption | omega | (simp; done) | (simp; omega)) | with_reducible exact keepS (by with_reducible assumption) (by with_reducible assumption) (by first | exact Nat.le_refl _ | assumption | omega | (simp; done) | (simp; omega)) | (with_reducible refine Below.setCell ?_ (by first | omega | (simp; done) | (simp; omega)) _) | (with_reducible refine below_drewN ?_ _) | (with_reducible refine Below.drew ?_) | (with_reducible refine Below.trans ?_ (Below.mono (by with_reducible assumption) (by first | omega | (simp; done) | (simp; omega)))) | (with_reducible refine Below.trans ?_ (Below.mono (Grow.below (by with_reducible assumption)) (by first | omega | (simp; done) | (simp; omega)))) | (with_reducible refine Below.alloc ?_ (by first | omega | (simp; done) | (simp; omega)) _)))); intro rq nq hq hHeld; (simp only [Act.put, List.setIfInBounds_toArray, List.set_cons_zero, List.set_cons_succ]))
  (refine wpTake (i := 8) (some 10) (v := ?_) rfl (by rfl) (by kernel_rfl) (by kernel_rfl) (by kernel_rfl) (fun _ _ _ h => h) (Or.inl ⟨by rfl, ?_⟩) (by assumption) ?_; rotate_left; (focus (intro w hSw; (try dsimp only at hSw); go_simp; (try with_reducible rfl))); (simp only [Act.put, List.setIfInBounds_toArray, List.set_cons_zero, List.set_cons_succ]))
  (refine wpAnyH_done (by kernel_rfl) ?_ _)
  go_wp2_with fail
  have hRq : Has w.heap.size 3 (wq.drewN nq) := (Has.at (hR1.drewN _) hbs).drewN _
  have hBq := hHeld
  have HQ := Lib.hid hq
  clear hHeld hq
  refine wp_region_in (b := 35) (m := 16) (N := 54) (Φ := plcS far c rq bm n (fo .add .f32 x1 uh) un (plC x1 un uh) (plF ue x2 x3 ut)) (S := fun w' => Below w.heap.size w w' ∧ Has w.heap.size 3 w') (by kernel_rfl) (by kernel_rfl) (by decide) (by decide) (by decide) rfl ⟨hBq.drew, hRq.drew⟩ ?_ ?_
  · intro i o T wx hi ho hT hf hd hS K hK
    have hBx := hS.1
    have hHx := hS.2
    have t8 : T[8]? = some (.float .f32 far) := hf 8 (.inl (by decide))
    have t9 : T[9]? = some (.float .f32 c) := hf 9 (.inl (by decide))
    have t10 : T[10]? = some (.float .f32 rq) := hf 10 (.inl (by decide))
    have t1 : T[1]? = some (.pointer (some ⟨bm, 0, none⟩)) := hf 1 (.inl (by decide))
    have hc : i = 0 ∨ i = 1 ∨ i = 2 ∨ i = 3 ∨ i = 4 ∨ i = 5 ∨ i = 6 ∨ i = 7 ∨ i = 8 ∨ i = 9 ∨ i = 10 ∨ i = 11 ∨ i = 12 ∨ i = 13 ∨ i = 14 ∨ i = 15 := by omega
    rcases hc with rfl | rfl | rfl | rfl | rfl | rfl | rfl | rfl | rfl | rfl | rfl | rfl | rfl | rfl | rfl | rfl <;> cases ho <;> rw [if_pos (show Region.wanted _ _ = true from rfl)]
    · exact in_move (k := 9) rfl rfl t9 (hK.out _ _ rfl hS)
    · exact in_move (k := 10) rfl rfl t10 (hK.out _ _ rfl hS)
    · obtain ⟨v1, e1, rfl⟩ := hd 1 (by kernel_rfl)
      refine in_call (d := 37) (args := #[.float .f32 rq]) rfl rfl (by simp [ev e1]) (by go_simp) (sCosT HQ.out wx) ?_
      rintro _ _ ⟨r, q, rfl, ir, rfl⟩
      exact ⟨_, rfl, hK.out _ _ ⟨r, rfl, ir⟩ ⟨below_drewN hBx _, hHx.drewN _⟩⟩
    · obtain ⟨v1, e1, rfl⟩ := hd 0 (by kernel_rfl)
      obtain ⟨v2, e2, ⟨r2, rfl, i2⟩⟩ := hd 2 (by kernel_rfl)
      exact in_arith (d := 38) rfl rfl (by simp [Arith]) e1 e2 iC i2 (fun r q ir => hK.out _ _ ⟨r, rfl, ir⟩ ⟨below_drewN hBx _, hHx.drewN _⟩)
    · exact in_move (k := 9) rfl rfl t9 (hK.out _ _ rfl hS)
    · exact in_move (k := 10) rfl rfl t10 (hK.out _ _ rfl hS)
    · obtain ⟨v1, e1, rfl⟩ := hd 5 (by kernel_rfl)
      refine in_call (d := 41) (args := #[.float .f32 rq]) rfl rfl (by simp [ev e1]) (by go_simp) (sSinT HQ.out wx) ?_
      rintro _ _ ⟨r, q, rfl, ir, rfl⟩
      exact ⟨_, rfl, hK.out _ _ ⟨r, rfl, ir⟩ ⟨below_drewN hBx _, hHx.drewN _⟩⟩
    · obtain ⟨v1, e1, rfl⟩ := hd 4 (by kernel_rfl)
      obtain ⟨v2, e2, ⟨r2, rfl, i2⟩⟩ := hd 6 (by kernel_rfl)
      exact in_arith (d := 42) rfl rfl (by simp [Arith]) e1 e2 iC i2 (fun r q ir => hK.out _ _ ⟨r, rfl, ir⟩ ⟨below_drewN hBx _, hHx.drewN _⟩)
    · exact in_move (k := 8) rfl rfl t8 (hK.out _ _ rfl hS)
    · exact in_move (k := 1) rfl rfl t1 (hK.out _ _ rfl hS)
    · obtain ⟨v1, e1, rfl⟩ := hd 9 (by kernel_rfl)
      exact in_val (d := 45) (v := .pointer (some ⟨bm, 0, none⟩)) rfl (by simp [execOp, ev e1]) (hK.out _ _ rfl hS)
    · obtain ⟨v1, e1, rfl⟩ := hd 10 (by kernel_rfl)
      exact in_val (d := 46) (v := .pointer (some ⟨bm, 0, none⟩)) rfl (by simp [execOp, ev e1]; go_simp) (hK.out _ _ rfl hS)
    · obtain ⟨v1, e1, rfl⟩ := hd 11 (by kernel_rfl)
      have kc := N0.out wx hBx
      exact in_val (d := 47) (v := .float .f32 n) rfl (by simp [execOp, ev e1]; go_simp) (hK.out _ _ rfl hS)
    · obtain ⟨v1, e1, rfl⟩ := hd 12 (by kernel_rfl)
      refine in_call (d := 48) (args := #[.float .f32 n]) rfl rfl (by simp [ev e1]) (by go_simp) (sSinT hn wx) ?_
      rintro _ _ ⟨r, q, rfl, ir, rfl⟩
      exact ⟨_, rfl, hK.out _ _ ⟨r, rfl, ir⟩ ⟨below_drewN hBx _, hHx.drewN _⟩⟩
    · obtain ⟨v1, e1, rfl⟩ := hd 8 (by kernel_rfl)
      obtain ⟨v2, e2, ⟨r2, rfl, i2⟩⟩ := hd 13 (by kernel_rfl)
      exact in_arith (d := 49) rfl rfl (by simp [Arith]) e1 e2 iFar i2 (fun r q ir => hK.out _ _ ⟨r, rfl, ir⟩ ⟨below_drewN hBx _, hHx.drewN _⟩)
    · obtain ⟨v1, e1, ⟨r1, rfl, i1⟩⟩ := hd 3 (by kernel_rfl)
      obtain ⟨v2, e2, ⟨r2, rfl, i2⟩⟩ := hd 7 (by kernel_rfl)
      obtain ⟨v3, e3, ⟨r3, rfl, i3⟩⟩ := hd 14 (by kernel_rfl)
      exact in_val (d := 50) (v := vecV r1 r2 r3) rfl (by simp [execOp, ev e1, ev e2, ev e3]; go_simp) (hK.out _ _ ⟨_, _, _, rfl, i1, i2, i3⟩ hS)
  · intro T wx hT hf hd hS
    have hBx := hS.1
    have hHx := hS.2
    obtain ⟨g, rfl, hg⟩ := lit_arr hT
    obtain ⟨v1, e1, ⟨r0, r1, r2, rfl, i0, i1, i2⟩⟩ := hd 15 (by decide)
    have t6 : g 6 = .pointer (some ⟨w.heap.size, 0, none⟩) := Option.some.inj ((hg 6 (by decide)).symm.trans (hf 6 (.inl (by decide))))
    have t50 : g 50 = vecV r0 r1 r2 := Option.some.inj ((hg 50 (by decide)).symm.trans e1)
    have hlit : ((List.range 54).map g).toArray = #[g 0, g 1, g 2, g 3, g 4, g 5, g 6, g 7, g 8, g 9, g 10, g 11, g 12, g 13, g 14, g 15, g 16, g 17, g 18, g 19, g 20, g 21, g 22, g 23, g 24, g 25, g 26, g 27, g 28, g 29, g 30, g 31, g 32, g 33, g 34, g 35, g 36, g 37, g 38, g 39, g 40, g 41, g 42, g 43, g 44, g 45, g 46, g 47, g 48, g 49, g 50, g 51, g 52, g 53] := rfl
    rw [hlit, t6, t50]
    clear hlit hf hd hg hT e1 t6 t50
    have FV := fun W => sFinVec i0 i1 i2 W
    have hHeld := hS
    (refine wpAnyH_ready (rs := [16]) (by kernel_rfl) (by simp) ?_; refine AllReadyH.cons rfl (fun K hK => ?_) AllReadyH.nil; go_simp)
    (go_at_call 77; (with_reducible refine (FV _).mono ?_); rintro _ Wf ⟨⟨s0, s1, s2, rfl, j0, j1, j2⟩, hbf⟩)
    have hzx := hBx.size
    (go_wp2_with fail; refine hK.out _ _ ⟨hBx.trans (hbf.mono (by omega)), hHx.at hbf⟩ (fun hHeld => ?_); clear hK K; (try simp only [Act.put, List.setIfInBounds_toArray, List.set_cons_zero, List.set_cons_succ]))
    (refine wpTake (i := 17) (some 52) (v := ?_) rfl (by rfl) (by kernel_rfl) (by kernel_rfl) (by kernel_rfl) (fun _ _ _ h => h) (Or.inl ⟨by rfl, ?_⟩) (by assumption) ?_; rotate_left; (focus (intro w hSw; (try dsimp only at hSw); go_simp; (try with_reducible rfl))); (simp only [Act.put, List.setIfInBounds_toArray, List.set_cons_zero, List.set_cons_succ]))
    (refine wpTake (i := 18) (some 53) (v := ?_) rfl (by rfl) (by kernel_rfl) (by kernel_rfl) (by kernel_rfl) (fun _ _ _ h => h) (Or.inl ⟨by rfl, ?_⟩) (by assumption) ?_; rotate_left; (focus (intro w hSw; (try dsimp only at hSw); go_simp; (try with_reducible rfl))); (simp only [Act.put, List.setIfInBounds_toArray, List.set_cons_zero, List.set_cons_succ]))
    have q0 := hHeld.2.cell (o := 0) (by decide)
    have q1 := hHeld.2.cell (o := 1) (by decide)
    have q2 := hHeld.2.cell (o := 2) (by decide)
    have qf := hHeld.2.frz
    have hzf := hHeld.1.size
    (refine wpAnyH_ready (rs := [19]) (by kernel_rfl) (by simp) ?_; refine AllReadyH.cons rfl (fun K hK => ?_) AllReadyH.nil; go_simp)
    refine hK.out _ _ ⟨((hHeld.1.setCell (Nat.le_refl _) _).setCell (Nat.le_refl _) _).setCell (Nat.le_refl _) _, ((hHeld.2.setCell _ _).setCell _ _).setCell _ _⟩ (fun hHeld => ?_)
    clear hK K
    (try simp only [Act.put, List.setIfInBounds_toArray, List.set_cons_zero, List.set_cons_succ])
    (refine wpTake (i := 20) (some 7) (v := ?_) rfl (by rfl) (by kernel_rfl) (by kernel_rfl) (by kernel_rfl) (fun _ _ _ h => h) (Or.inl ⟨by rfl, ?_⟩) (by assumption) ?_; rotate_left; (focus (intro w hSw; (try dsimp only at hSw); go_simp; (try with_reducible rfl))); (simp only [Act.put, List.setIfInBounds_toArray, List.set_cons_zero, List.set_cons_succ]))
    (refine wpAnyH_done (by kernel_rfl) ?_ _)
    go_wp2_with fail
    refine bodyPost_ret (v := .tuple #[vecV s0 s1 s2, .bool (finV (plX x1 x2 x3 un ue uh ut) (plY x1 x2 x3 un ue uh ut) (plZ x1 un uh))]) (by simp [results, Try.results37, go_sem, q0, q1, q2, plX, plY, plZ]) rfl ⟨⟨_, _, _, rfl, j0, j1, j2⟩, ?_⟩
    exact hHeld.1
end

/-- Where a mark is, if it is one of a ball. -/
def plcOk (x0 x1 x2 x3 un ue uh ut : Option Nat) : Bool := balB x0 x1 x2 x3 && (mrkB un ue uh && finS ut)
def plcV (x0 x1 x2 x3 un ue uh ut c : Option Nat) : Option Nat := if plcOk x0 x1 x2 x3 un ue uh ut then finP (plX x1 x2 x3 un ue uh ut) (plY x1 x2 x3 un ue uh ut) (plZ x1 un uh) c else some 0
def plcB (x0 x1 x2 x3 un ue uh ut : Option Nat) : Bool := plcOk x0 x1 x2 x3 un ue uh ut && finV (plX x1 x2 x3 un ue uh ut) (plY x1 x2 x3 un ue uh ut) (plZ x1 un uh)
def RetPlc (x0 x1 x2 x3 un ue uh ut : Option Nat) : World → Ending → World → Prop := RetVB (plcV x0 x1 x2 x3 un ue uh ut (plX x1 x2 x3 un ue uh ut)) (plcV x0 x1 x2 x3 un ue uh ut (plY x1 x2 x3 un ue uh ut)) (plcV x0 x1 x2 x3 un ue uh ut (plZ x1 un uh)) (plcB x0 x1 x2 x3 un ue uh ut)

section
variable {a0 a1 a2 a3 n e h t : Nat} {x0 x1 x2 x3 un ue uh ut : Option Nat} (h0 : Is .f32 a0 x0) (h1 : Is .f32 a1 x1) (h2 : Is .f32 a2 x2) (h3 : Is .f32 a3 x3) (hn : Is .f32 n un) (he : Is .f32 e ue) (hh : Is .f32 h uh) (ht : Is .f32 t ut)
include h0 h1 h2 h3 hn he hh ht

theorem iPlc (w : World) : Calls Try.prog 13 #[balV a0 a1 a2 a3, vecV n e h, .float .f32 t] w (RetPlc x0 x1 x2 x3 un ue uh ut w) := by
  unfold RetPlc plcV plcB
  cases ok : plcOk x0 x1 x2 x3 un ue uh ut with
  | true => simpa using iPlcT h0 h1 h2 h3 hn he hh ht w ok
  | false => simpa using iPlcF h0 h1 h2 h3 hn he hh ht w ok
end
end Go.Proofs.Ytlfcjfaddcciaaa
