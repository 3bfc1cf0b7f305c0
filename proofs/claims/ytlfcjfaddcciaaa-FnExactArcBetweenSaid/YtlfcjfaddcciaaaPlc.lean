/-
  Where a mark is, of the program. No condition.
-/
import Derived.Test.YtlfcjfaddcciaaaBal
import Derived.Test.YtlfcjfaddcciaaaMrk
import Derived.Test.YtlfcjfaddcciaaaSinT
import Derived.Test.YtlfcjfaddcciaaaVFin
import Derived.Test.YtlfcjfaddcciaaaReg
import Derived.Test.YtlfcjfaddcciaaaTakA
namespace Go.Proofs.Ytlfcjfaddcciaaa
open Go.RowKit

/-- How far a ball has turned. -/
def faceO (sp st t : Option Nat) : Option Nat := fo .add .f32 st (fo .mul .f32 sp t)
def plF (e sp st t : Option Nat) : Option Nat := fo .add .f32 e (faceO sp st t)
def plC (r n h : Option Nat) : Option Nat := fo .mul .f32 (fo .add .f32 r h) (cosT n)
def plX (r sp st n e h t : Option Nat) : Option Nat := fo .mul .f32 (plC r n h) (cosT (plF e sp st t))
def plY (r sp st n e h t : Option Nat) : Option Nat := fo .mul .f32 (plC r n h) (sinT (plF e sp st t))
def plZ (r n h : Option Nat) : Option Nat := fo .mul .f32 (fo .add .f32 r h) (sinT n)

theorem iFace {a0 a1 a2 a3 t : Nat} {x0 x1 x2 x3 v : Option Nat} (h0 : Is .f32 a0 x0) (h1 : Is .f32 a1 x1) (h2 : Is .f32 a2 x2) (h3 : Is .f32 a3 x3) (it : Is .f32 t v) (w : World) :
    Calls Try.prog 42 #[balV a0 a1 a2 a3, .float .f32 t] w fun e w' => (∃ r, e = .returned (.float .f32 r) ∧ Is .f32 r (faceO x2 x3 v)) ∧ Below w.heap.size w w' := by
  go_enter Try.func42, Try.ntmps42
  go_wp2_with (apply wpList_arith; rfl; simp [Arith]; rfl; rfl; (first | assumption | exact is_lit64 _ (by decide) | exact is_lit32 _ (by decide)); (first | assumption | exact is_lit64 _ (by decide) | exact is_lit32 _ (by decide)); intro Kq hKq rq nq hq; go_simp)
  go_ret
  refine ⟨⟨_, rfl, by assumption⟩, ?_⟩
  repeat' (first | with_reducible exact Below.refl _ _ | with_reducible assumption | (with_reducible refine Below.setCell ?_ (by first | omega | (simp; done) | (simp; omega)) _) | (with_reducible refine Below.alloc ?_ (by first | omega | (simp; done) | (simp; omega)) _) | (with_reducible refine below_drewN ?_ _) | (with_reducible refine Below.drew ?_) | (with_reducible refine Below.trans ?_ (Below.mono (by first | (with_reducible assumption) | exact Grow.below (by assumption)) (by first | omega | (simp; done) | (simp; omega)))))

/-- What the operations of the last region yield. -/
def plcI (far c f : Nat) (bn : Nat) (nn : Nat) (FA NO C F : Option Nat) (i : Nat) (v : Value) : Prop :=
  match i with
  | 0 => v = .float .f32 c
  | 1 => v = .float .f32 f
  | 2 => ∃ r, v = .float .f32 r ∧ Is .f32 r (cosT F)
  | 3 => ∃ r, v = .float .f32 r ∧ Is .f32 r (fo .mul .f32 C (cosT F))
  | 4 => v = .float .f32 c
  | 5 => v = .float .f32 f
  | 6 => ∃ r, v = .float .f32 r ∧ Is .f32 r (sinT F)
  | 7 => ∃ r, v = .float .f32 r ∧ Is .f32 r (fo .mul .f32 C (sinT F))
  | 8 => v = .float .f32 far
  | 9 => v = .pointer (some ⟨bn, 0, none⟩)
  | 10 => v = .float .f32 nn
  | 11 => ∃ r, v = .float .f32 r ∧ Is .f32 r (sinT NO)
  | 12 => ∃ r, v = .float .f32 r ∧ Is .f32 r (fo .mul .f32 FA (sinT NO))
  | _ => ∃ r0 r1 r2, v = vecV r0 r1 r2 ∧ Is .f32 r0 (fo .mul .f32 C (cosT F)) ∧ Is .f32 r1 (fo .mul .f32 C (sinT F)) ∧ Is .f32 r2 (fo .mul .f32 FA (sinT NO))

section
variable {a0 a1 a2 a3 n e h t : Nat} {x0 x1 x2 x3 un ue uh ut : Option Nat} (h0 : Is .f32 a0 x0) (h1 : Is .f32 a1 x1) (h2 : Is .f32 a2 x2) (h3 : Is .f32 a3 x3) (hn : Is .f32 n un) (he : Is .f32 e ue) (hh : Is .f32 h uh) (ht : Is .f32 t ut)
include h0 h1 h2 h3 hn he hh ht

set_option maxRecDepth 100000 in
set_option maxHeartbeats 3200000 in
theorem iPlcT (w : World) (ok : (balB x0 x1 x2 x3 && (mrkB un ue uh && finS ut)) = true) : Calls Try.prog 13 #[balV a0 a1 a2 a3, vecV n e h, .float .f32 t] w
      (RetVB (finP (plX x1 x2 x3 un ue uh ut) (plY x1 x2 x3 un ue uh ut) (plZ x1 un uh) (plX x1 x2 x3 un ue uh ut)) (finP (plX x1 x2 x3 un ue uh ut) (plY x1 x2 x3 un ue uh ut) (plZ x1 un uh) (plY x1 x2 x3 un ue uh ut)) (finP (plX x1 x2 x3 un ue uh ut) (plY x1 x2 x3 un ue uh ut) (plZ x1 un uh) (plZ x1 un uh)) (finV (plX x1 x2 x3 un ue uh ut) (plY x1 x2 x3 un ue uh ut) (plZ x1 un uh)) w) := by
  have hst := run_store_float Try.prog
  simp only [Bool.and_eq_true] at ok
  obtain ⟨oB, oM, oF⟩ := ok
  have HB := fun W => iBal h0 h1 h2 h3 W
  have HM := fun W => iMrk hn he hh W
  rw [oB] at HB
  rw [oM] at HM
  go_enter Try.func13, Try.ntmps13
  go_wp2_with fail
  (go_at_call 38; refine (HB _).mono ?_; rintro _ W0 ⟨rfl, b0⟩)
  obtain ⟨hc0, hf0⟩ := bcell b0
  have hz0 := b0.size
  simp at hz0
  have hl0 : w.heap.size + 1 < W0.heap.size := by omega
  go_wp2_with fail
  (go_at_call 39; refine (HM _).mono ?_; rintro _ W1 ⟨rfl, b1⟩)
  have hz1 := b1.size
  have bA : Below (w.heap.size + 3) (((w.alloc (Obj.cells #[.float .f32 a0, .float .f32 a1, .float .f32 a2, .float .f32 a3] 31)).alloc (Obj.cells #[.float .f32 n, .float .f32 e, .float .f32 h] 33)).alloc (Obj.cells #[.float .f32 0, .float .f32 0, .float .f32 0] 28)) W1 := (b0.trans (b1.mono (by simp; omega))).mono (by simp)
  have kb : ∀ w', Below (w.heap.size + 3) W1 w' → (w'.cell? ⟨w.heap.size, 0, none⟩ = some (.float .f32 a0) ∧ w'.cell? ⟨w.heap.size, 1, none⟩ = some (.float .f32 a1) ∧ w'.cell? ⟨w.heap.size, 2, none⟩ = some (.float .f32 a2) ∧ w'.cell? ⟨w.heap.size, 3, none⟩ = some (.float .f32 a3)) ∧ (w'.cell? ⟨w.heap.size + 1, 0, none⟩ = some (.float .f32 n) ∧ w'.cell? ⟨w.heap.size + 1, 1, none⟩ = some (.float .f32 e) ∧ w'.cell? ⟨w.heap.size + 1, 2, none⟩ = some (.float .f32 h)) := fun w' hw => by
    have hb := bA.trans hw
    exact ⟨⟨(hb.cell (p := ⟨w.heap.size, 0, none⟩) (by dsimp only; omega)).trans (by rw [World.cell?_alloc_lt _ _ _ (by simp; omega), World.cell?_alloc_lt _ _ _ (by simp)]; simp), (hb.cell (p := ⟨w.heap.size, 1, none⟩) (by dsimp only; omega)).trans (by rw [World.cell?_alloc_lt _ _ _ (by simp; omega), World.cell?_alloc_lt _ _ _ (by simp)]; simp), (hb.cell (p := ⟨w.heap.size, 2, none⟩) (by dsimp only; omega)).trans (by rw [World.cell?_alloc_lt _ _ _ (by simp; omega), World.cell?_alloc_lt _ _ _ (by simp)]; simp), (hb.cell (p := ⟨w.heap.size, 3, none⟩) (by dsimp only; omega)).trans (by rw [World.cell?_alloc_lt _ _ _ (by simp; omega), World.cell?_alloc_lt _ _ _ (by simp)]; simp)⟩, (hb.cell (p := ⟨w.heap.size + 1, 0, none⟩) (by dsimp only; omega)).trans (by rw [World.cell?_alloc_lt _ _ _ (by simp)]; simp), (hb.cell (p := ⟨w.heap.size + 1, 1, none⟩) (by dsimp only; omega)).trans (by rw [World.cell?_alloc_lt _ _ _ (by simp)]; simp), (hb.cell (p := ⟨w.heap.size + 1, 2, none⟩) (by dsimp only; omega)).trans (by rw [World.cell?_alloc_lt _ _ _ (by simp)]; simp)⟩
  have KB := Lib.hid kb
  obtain ⟨⟨kb0, kb1, kb2, kb3⟩, km0, km1, km2⟩ := kb W1 (Below.refl _ _)
  have hR0 : Has (w.heap.size + 1 + 1) 3 (((w.alloc (Obj.cells #[.float .f32 a0, .float .f32 a1, .float .f32 a2, .float .f32 a3] 31)).alloc (Obj.cells #[.float .f32 n, .float .f32 e, .float .f32 h] 33)).alloc (Obj.cells #[.float .f32 0, .float .f32 0, .float .f32 0] 28)) := by simpa using has_alloc3 ((w.alloc (Obj.cells #[.float .f32 a0, .float .f32 a1, .float .f32 a2, .float .f32 a3] 31)).alloc (Obj.cells #[.float .f32 n, .float .f32 e, .float .f32 h] 33)) (.float .f32 0) (.float .f32 0) (.float .f32 0) 28
  have hR := hR0.below bA (by omega)
  clear hR0
  have b0w : Below w.heap.size w W1 := ((((Below.refl w.heap.size w).alloc (Nat.le_refl _) _).alloc (by simp) _).alloc (by simp; omega) _).trans (bA.mono (by omega))
  clear hc0 hf0 kb b0 b1 hst
  have hst := run_store_float Try.prog
  go_wp2_with (first | (go_at_call 40; refine (sFinite ht _).mono ?_; rintro eq wq ⟨nq, rfl, rfl⟩) | (apply wpList_arith; rfl; simp [Arith]; rfl; rfl; (first | assumption | exact is_lit64 _ (by decide) | exact is_lit32 _ (by decide)); (first | assumption | exact is_lit64 _ (by decide) | exact is_lit32 _ (by decide)); intro Kq hKq rq nq hq; go_simp) | (go_at_call 41; refine (iCosT hn _).mono ?_; rintro eq wq ⟨rq, nq, rfl, hq, rfl⟩))
  rename_i dF far dA iFar cN dC iCN KK hKK
  revert rq nq hq
  intro c dM iC
  have k1 : ∀ w', Below (w.heap.size + 3) W1 w' → w'.cell? ⟨w.heap.size + 1, 1, none⟩ = some (.float .f32 e) := fun w' hw => (KB.out w' hw).2.2.1
  have kx : ∀ w', Below (w.heap.size + 3) W1 w' → w'.cell? ⟨w.heap.size, 0, none⟩ = some (.float .f32 a0) ∧ w'.cell? ⟨w.heap.size, 1, none⟩ = some (.float .f32 a1) ∧ w'.cell? ⟨w.heap.size, 2, none⟩ = some (.float .f32 a2) ∧ w'.cell? ⟨w.heap.size, 3, none⟩ = some (.float .f32 a3) := fun w' hw => (KB.out w' hw).1
  have kx0 : ∀ w', Below (w.heap.size + 3) W1 w' → w'.cell? ⟨w.heap.size, 0, none⟩ = some (.float .f32 a0) := fun w' hw => (KB.out w' hw).1.1
  have kx1 : ∀ w', Below (w.heap.size + 3) W1 w' → w'.cell? ⟨w.heap.size, 1, none⟩ = some (.float .f32 a1) := fun w' hw => (KB.out w' hw).1.2.1
  have kx2 : ∀ w', Below (w.heap.size + 3) W1 w' → w'.cell? ⟨w.heap.size, 2, none⟩ = some (.float .f32 a2) := fun w' hw => (KB.out w' hw).1.2.2.1
  have kx3 : ∀ w', Below (w.heap.size + 3) W1 w' → w'.cell? ⟨w.heap.size, 3, none⟩ = some (.float .f32 a3) := fun w' hw => (KB.out w' hw).1.2.2.2
  clear kx
  (refine wp_region_held_drew (S := (fun w' => Below (w.heap.size + 3) W1 w')) (by kernel_rfl) (by (try dsimp only); (repeat' (first | with_reducible assumption | with_reducible exact Below.refl _ _ | with_reducible exact keepW (by with_reducible assumption) (by with_reducible assumption) (by first | exact Nat.le_refl _ | assumption | omega | (simp; done) | (simp; omega)) | with_reducible exact keepS (by with_reducible assumption) (by with_reducible assumption) (by first | exact Nat.le_refl _ | assumption | omega | (simp; done) | (simp; omega)) | (with_reducible refine Below.setCell ?_ (by first | omega | (simp; done) | (simp; omega)) _) | (with_reducible refine below_drewN ?_ _) | (with_reducible refine Below.drew ?_) | (with_reducible refine Below.trans ?_ (Below.mono (by with_reducible assumption) (by first | omega | (simp; done) | (simp; omega)))) | (with_reducible refine Below.trans ?_ (Below.mono (Grow.below (by with_reducible assumption)) (by first | omega | (simp; done) | (simp; omega)))) | (with_reducible refine Below.alloc ?_ (by first | omega | (simp; done) | (simp; omega)) _)))) (fun hHeld => ?_))
  (refine wpTake (i := 0) (some 35) (v := ?_) rfl (by rfl) (by kernel_rfl) (by kernel_rfl) (by kernel_rfl) (fun _ _ _ h => h) (Or.inl ⟨by rfl, ?_⟩) (by assumption) ?_; rotate_left; (focus (intro w hSw; (try dsimp only at hSw); go_simp; (try with_reducible rfl))); (simp only [Act.put, List.setIfInBounds_toArray, List.set_cons_zero, List.set_cons_succ]))
  (refine wpTake (i := 1) (some 36) (v := ?_) rfl (by rfl) (by kernel_rfl) (by kernel_rfl) (by kernel_rfl) (fun _ _ _ h => h) (Or.inl ⟨by rfl, ?_⟩) (by assumption) ?_; rotate_left; (focus (intro w hSw; (try dsimp only at hSw); go_simp; (try with_reducible rfl))); (simp only [Act.put, List.setIfInBounds_toArray, List.set_cons_zero, List.set_cons_succ]))
  (refine wpTake (i := 2) (some 37) (v := ?_) rfl (by rfl) (by kernel_rfl) (by kernel_rfl) (by kernel_rfl) (fun _ _ _ h => h) (Or.inl ⟨by rfl, ?_⟩) (by assumption) ?_; rotate_left; (focus (intro w hSw; (try dsimp only at hSw); go_simp; (try with_reducible rfl))); (simp only [Act.put, List.setIfInBounds_toArray, List.set_cons_zero, List.set_cons_succ]))
  (refine wpTake (i := 3) (some 38) (v := ?_) rfl (by rfl) (by kernel_rfl) (by kernel_rfl) (by kernel_rfl) (fun _ _ _ h => h) (Or.inl ⟨by rfl, ?_⟩) (by assumption) ?_; rotate_left; (focus (intro w hSw; (try dsimp only at hSw); go_simp; (try with_reducible rfl))); (simp only [Act.put, List.setIfInBounds_toArray, List.set_cons_zero, List.set_cons_succ]))
  (refine wpAnyH_ready (rs := [4]) (by kernel_rfl) (by simp) ?_; refine AllReadyH.cons rfl (fun K hK => ?_) AllReadyH.nil; go_simp)
  (go_at_call 42; (with_reducible refine (iFace h0 h1 h2 h3 ht _).mono ?_); rintro eq wq ⟨⟨fc, rfl, iFc⟩, hbs⟩)
  (go_wp2_with fail; refine hK.out _ _ (by (try dsimp only); (repeat' (first | with_reducible assumption | with_reducible exact Below.refl _ _ | with_reducible exact keepW (by with_reducible assumption) (by with_reducible assumption) (by first | exact Nat.le_refl _ | assumption | omega | (simp; done) | (simp; omega)) | with_reducible exact keepS (by with_reducible assumption) (by with_reducible assumption) (by first | exact Nat.le_refl _ | assumption | omega | (simp; done) | (simp; omega)) | (with_reducible refine Below.setCell ?_ (by first | omega | (simp; done) | (simp; omega)) _) | (with_reducible refine below_drewN ?_ _) | (with_reducible refine Below.drew ?_) | (with_reducible refine Below.trans ?_ (Below.mono (by with_reducible assumption) (by first | omega | (simp; done) | (simp; omega)))) | (with_reducible refine Below.trans ?_ (Below.mono (Grow.below (by with_reducible assumption)) (by first | omega | (simp; done) | (simp; omega)))) | (with_reducible refine Below.alloc ?_ (by first | omega | (simp; done) | (simp; omega)) _)))) (fun hHeld => ?_); clear hK K; try (simp only [Act.put, List.setIfInBounds_toArray, List.set_cons_zero, List.set_cons_succ]))
  (apply wpTakeA (i := 5) (some 40); rfl; rfl; rfl; kernel_rfl; rfl; simp [Arith]; rfl; rfl; exact he; exact iFc; (intro nq; (try dsimp only); (repeat' (first | with_reducible assumption | with_reducible exact Below.refl _ _ | with_reducible exact keepW (by with_reducible assumption) (by with_reducible assumption) (by first | exact Nat.le_refl _ | assumption | omega | (simp; done) | (simp; omega)) | with_reducible exact keepS (by with_reducible assumption) (by with_reducible assumption) (by first | exact Nat.le_refl _ | assumption | omega | (simp; done) | (simp; omega)) | (with_reducible refine Below.setCell ?_ (by first | omega | (simp; done) | (simp; omega)) _) | (with_reducible refine below_drewN ?_ _) | (with_reducible refine Below.drew ?_) | (with_reducible refine Below.trans ?_ (Below.mono (by with_reducible assumption) (by first | omega | (simp; done) | (simp; omega)))) | (with_reducible refine Below.trans ?_ (Below.mono (Grow.below (by with_reducible assumption)) (by first | omega | (simp; done) | (simp; omega)))) | (with_reducible refine Below.alloc ?_ (by first | omega | (simp; done) | (simp; omega)) _)))); intro rq nq hq hHeld; (simp only [Act.put, List.setIfInBounds_toArray, List.set_cons_zero, List.set_cons_succ]))
  (refine wpTake (i := 6) (some 10) (v := ?_) rfl (by rfl) (by kernel_rfl) (by kernel_rfl) (by kernel_rfl) (fun _ _ _ h => h) (Or.inl ⟨by rfl, ?_⟩) (by assumption) ?_; rotate_left; (focus (intro w hSw; (try dsimp only at hSw); go_simp; (try with_reducible rfl))); (simp only [Act.put, List.setIfInBounds_toArray, List.set_cons_zero, List.set_cons_succ]))
  (refine wpAnyH_done (by kernel_rfl) ?_ _)
  go_wp2_with fail
  have km0 : ∀ w', Below (w.heap.size + 2) W1 w' → w'.cell? ⟨w.heap.size + 1, 0, none⟩ = some (.float .f32 n) := fun w' hw => (hw.cell (p := ⟨w.heap.size + 1, 0, none⟩) (by dsimp only; omega)).trans (KB.out W1 (Below.refl _ _)).2.1
  have hRq : Has (w.heap.size + 1 + 1) 3 (wq.drewN nq) := hR.below hHeld (by omega)
  have hBq : Below (w.heap.size + 2) W1 (wq.drewN nq) := hHeld.mono (by omega)
  have HQ := Lib.hid hq
  clear hHeld hq
  refine wp_region_in (b := 41) (m := 14) (N := 58) (Φ := plcI far c rq (w.heap.size + 1) n (fo .add .f32 x1 uh) un (plC x1 un uh) (plF ue x2 x3 ut)) (S := fun w' => Below (w.heap.size + 2) W1 w' ∧ Has (w.heap.size + 1 + 1) 3 w') (by kernel_rfl) (by kernel_rfl) (by decide) (by decide) (by decide) rfl ⟨hBq.drew, hRq.drew⟩ ?_ ?_
  · intro i o T wx hi ho hT hf hd hS K hK
    have hBx := hS.1
    have hHx := hS.2
    have t8 : T[8]? = some (.float .f32 far) := hf 8 (.inl (by decide))
    have t9 : T[9]? = some (.float .f32 c) := hf 9 (.inl (by decide))
    have t10 : T[10]? = some (.float .f32 rq) := hf 10 (.inl (by decide))
    have t4 : T[4]? = some (.pointer (some ⟨w.heap.size + 1, 0, none⟩)) := hf 4 (.inl (by decide))
    have hc : i = 0 ∨ i = 1 ∨ i = 2 ∨ i = 3 ∨ i = 4 ∨ i = 5 ∨ i = 6 ∨ i = 7 ∨ i = 8 ∨ i = 9 ∨ i = 10 ∨ i = 11 ∨ i = 12 ∨ i = 13 := by omega
    rcases hc with rfl | rfl | rfl | rfl | rfl | rfl | rfl | rfl | rfl | rfl | rfl | rfl | rfl | rfl <;> cases ho <;> rw [if_pos (show Region.wanted _ _ = true from rfl)]
    · exact in_move (k := 9) rfl rfl t9 (hK.out _ _ rfl hS)
    · exact in_move (k := 10) rfl rfl t10 (hK.out _ _ rfl hS)
    · obtain ⟨v1, e1, rfl⟩ := hd 1 (by kernel_rfl)
      refine in_call (d := 43) (args := #[.float .f32 rq]) rfl rfl (by simp [ev e1]) (by go_simp) (iCosT HQ.out wx) ?_
      rintro _ _ ⟨r, q, rfl, ir, rfl⟩
      exact ⟨_, rfl, hK.out _ _ ⟨r, rfl, ir⟩ ⟨below_drewN hBx _, hHx.drewN _⟩⟩
    · obtain ⟨v1, e1, rfl⟩ := hd 0 (by kernel_rfl)
      obtain ⟨v2, e2, ⟨r2, rfl, i2⟩⟩ := hd 2 (by kernel_rfl)
      exact in_arith (d := 44) rfl rfl (by simp [Arith]) e1 e2 iC i2 (fun r q ir => hK.out _ _ ⟨r, rfl, ir⟩ ⟨below_drewN hBx _, hHx.drewN _⟩)
    · exact in_move (k := 9) rfl rfl t9 (hK.out _ _ rfl hS)
    · exact in_move (k := 10) rfl rfl t10 (hK.out _ _ rfl hS)
    · obtain ⟨v1, e1, rfl⟩ := hd 5 (by kernel_rfl)
      refine in_call (d := 47) (args := #[.float .f32 rq]) rfl rfl (by simp [ev e1]) (by go_simp) (iSinT HQ.out wx) ?_
      rintro _ _ ⟨r, q, rfl, ir, rfl⟩
      exact ⟨_, rfl, hK.out _ _ ⟨r, rfl, ir⟩ ⟨below_drewN hBx _, hHx.drewN _⟩⟩
    · obtain ⟨v1, e1, rfl⟩ := hd 4 (by kernel_rfl)
      obtain ⟨v2, e2, ⟨r2, rfl, i2⟩⟩ := hd 6 (by kernel_rfl)
      exact in_arith (d := 48) rfl rfl (by simp [Arith]) e1 e2 iC i2 (fun r q ir => hK.out _ _ ⟨r, rfl, ir⟩ ⟨below_drewN hBx _, hHx.drewN _⟩)
    · exact in_move (k := 8) rfl rfl t8 (hK.out _ _ rfl hS)
    · exact in_val (d := 50) (v := .pointer (some ⟨w.heap.size + 1, 0, none⟩)) rfl (by simp [execOp, ev t4]; go_simp) (hK.out _ _ rfl hS)
    · obtain ⟨v1, e1, rfl⟩ := hd 9 (by kernel_rfl)
      have kc := km0 wx hBx
      exact in_val (d := 51) (v := .float .f32 n) rfl (by simp [execOp, ev e1]; go_simp) (hK.out _ _ rfl hS)
    · obtain ⟨v1, e1, rfl⟩ := hd 10 (by kernel_rfl)
      refine in_call (d := 52) (args := #[.float .f32 n]) rfl rfl (by simp [ev e1]) (by go_simp) (iSinT hn wx) ?_
      rintro _ _ ⟨r, q, rfl, ir, rfl⟩
      exact ⟨_, rfl, hK.out _ _ ⟨r, rfl, ir⟩ ⟨below_drewN hBx _, hHx.drewN _⟩⟩
    · obtain ⟨v1, e1, rfl⟩ := hd 8 (by kernel_rfl)
      obtain ⟨v2, e2, ⟨r2, rfl, i2⟩⟩ := hd 11 (by kernel_rfl)
      exact in_arith (d := 53) rfl rfl (by simp [Arith]) e1 e2 iFar i2 (fun r q ir => hK.out _ _ ⟨r, rfl, ir⟩ ⟨below_drewN hBx _, hHx.drewN _⟩)
    · obtain ⟨v1, e1, ⟨r1, rfl, i1⟩⟩ := hd 3 (by kernel_rfl)
      obtain ⟨v2, e2, ⟨r2, rfl, i2⟩⟩ := hd 7 (by kernel_rfl)
      obtain ⟨v3, e3, ⟨r3, rfl, i3⟩⟩ := hd 12 (by kernel_rfl)
      exact in_val (d := 54) (v := vecV r1 r2 r3) rfl (by simp [execOp, ev e1, ev e2, ev e3]; go_simp) (hK.out _ _ ⟨_, _, _, rfl, i1, i2, i3⟩ hS)
  · intro T wx hT hf hd hS
    have hBx := hS.1
    have hHx := hS.2
    obtain ⟨g, rfl, hg⟩ := lit_arr hT
    obtain ⟨v1, e1, ⟨r0, r1, r2, rfl, i0, i1, i2⟩⟩ := hd 13 (by decide)
    have t6 : g 6 = .pointer (some ⟨w.heap.size + 1 + 1, 0, none⟩) := Option.some.inj ((hg 6 (by decide)).symm.trans (hf 6 (.inl (by decide))))
    have t54 : g 54 = vecV r0 r1 r2 := Option.some.inj ((hg 54 (by decide)).symm.trans e1)
    have hlit : ((List.range 58).map g).toArray = #[g 0, g 1, g 2, g 3, g 4, g 5, g 6, g 7, g 8, g 9, g 10, g 11, g 12, g 13, g 14, g 15, g 16, g 17, g 18, g 19, g 20, g 21, g 22, g 23, g 24, g 25, g 26, g 27, g 28, g 29, g 30, g 31, g 32, g 33, g 34, g 35, g 36, g 37, g 38, g 39, g 40, g 41, g 42, g 43, g 44, g 45, g 46, g 47, g 48, g 49, g 50, g 51, g 52, g 53, g 54, g 55, g 56, g 57] := rfl
    rw [hlit, t6, t54]
    clear hlit hf hd hg hT e1 t6 t54
    have FV := fun W => iFinVec i0 i1 i2 W
    have hHeld := hS
    (refine wpAnyH_ready (rs := [14]) (by kernel_rfl) (by simp) ?_; refine AllReadyH.cons rfl (fun K hK => ?_) AllReadyH.nil; go_simp)
    (go_at_call 43; (with_reducible refine (FV _).mono ?_); rintro _ Wf ⟨⟨s0, s1, s2, rfl, j0, j1, j2⟩, hbf⟩)
    have hzx := hBx.size
    (go_wp2_with fail; refine hK.out _ _ ⟨hBx.trans (hbf.mono (by omega)), hHx.at hbf⟩ (fun hHeld => ?_); clear hK K; (try simp only [Act.put, List.setIfInBounds_toArray, List.set_cons_zero, List.set_cons_succ]))
    (refine wpTake (i := 15) (some 56) (v := ?_) rfl (by rfl) (by kernel_rfl) (by kernel_rfl) (by kernel_rfl) (fun _ _ _ h => h) (Or.inl ⟨by rfl, ?_⟩) (by assumption) ?_; rotate_left; (focus (intro w hSw; (try dsimp only at hSw); go_simp; (try with_reducible rfl))); (simp only [Act.put, List.setIfInBounds_toArray, List.set_cons_zero, List.set_cons_succ]))
    (refine wpTake (i := 16) (some 57) (v := ?_) rfl (by rfl) (by kernel_rfl) (by kernel_rfl) (by kernel_rfl) (fun _ _ _ h => h) (Or.inl ⟨by rfl, ?_⟩) (by assumption) ?_; rotate_left; (focus (intro w hSw; (try dsimp only at hSw); go_simp; (try with_reducible rfl))); (simp only [Act.put, List.setIfInBounds_toArray, List.set_cons_zero, List.set_cons_succ]))
    have q0 := hHeld.2.cell (o := 0) (by decide)
    have q1 := hHeld.2.cell (o := 1) (by decide)
    have q2 := hHeld.2.cell (o := 2) (by decide)
    have qf := hHeld.2.frz
    have hzf := hHeld.1.size
    (refine wpAnyH_ready (rs := [17]) (by kernel_rfl) (by simp) ?_; refine AllReadyH.cons rfl (fun K hK => ?_) AllReadyH.nil; go_simp)
    refine hK.out _ _ ⟨((hHeld.1.setCell (by dsimp only; omega) _).setCell (by dsimp only; omega) _).setCell (by dsimp only; omega) _, ((hHeld.2.setCell _ _).setCell _ _).setCell _ _⟩ (fun hHeld => ?_)
    clear hK K
    (try simp only [Act.put, List.setIfInBounds_toArray, List.set_cons_zero, List.set_cons_succ])
    (refine wpTake (i := 18) (some 7) (v := ?_) rfl (by rfl) (by kernel_rfl) (by kernel_rfl) (by kernel_rfl) (fun _ _ _ h => h) (Or.inl ⟨by rfl, ?_⟩) (by assumption) ?_; rotate_left; (focus (intro w hSw; (try dsimp only at hSw); go_simp; (try with_reducible rfl))); (simp only [Act.put, List.setIfInBounds_toArray, List.set_cons_zero, List.set_cons_succ]))
    (refine wpAnyH_done (by kernel_rfl) ?_ _)
    go_wp2_with fail
    refine bodyPost_ret (v := .tuple #[vecV s0 s1 s2, .bool (finV (plX x1 x2 x3 un ue uh ut) (plY x1 x2 x3 un ue uh ut) (plZ x1 un uh))]) (by simp [results, Try.results13, go_sem, q0, q1, q2, plX, plY, plZ]) rfl ⟨⟨_, _, _, rfl, j0, j1, j2⟩, ?_⟩
    exact b0w.trans (hHeld.1.mono (by omega))

theorem iPlcF (w : World) (ok : (balB x0 x1 x2 x3 && (mrkB un ue uh && finS ut)) = false) : Calls Try.prog 13 #[balV a0 a1 a2 a3, vecV n e h, .float .f32 t] w (RetVB (some 0) (some 0) (some 0) false w) := by
  have hst := run_store_float Try.prog
  have HB := fun W => iBal h0 h1 h2 h3 W
  have HM := fun W => iMrk hn he hh W
  rcases three_ways (balB x0 x1 x2 x3) (mrkB un ue uh) (finS ut) with oB | ⟨oB, oM | ⟨oM, oF | oF⟩⟩
  case inr.inr.inr => rw [oB, oM, oF] at ok; cases ok
  case inl =>
    rw [oB] at HB
    clear ok HM
    go_enter Try.func13, Try.ntmps13
    go_wp2_with (go_at_call 38; refine (HB _).mono ?_; rintro eq wq ⟨rfl, hb⟩; obtain ⟨hc, hf⟩ := bcell hb; have hz := hb.size; (try simp at hz); (try have hl : w.heap.size < wq.heap.size := (by omega)))
    refine bodyPost_ret (v := .tuple #[vecV 0 0 0, .bool false]) (by simp [results, Try.results13, go_sem, hc, hz]) rfl ⟨⟨_, _, _, rfl, zeroW, zeroW, zeroW⟩, ?_⟩
    repeat' (first | with_reducible exact Below.refl _ _ | with_reducible assumption | (with_reducible refine Below.setCell ?_ (by first | omega | (simp; done) | (simp; omega)) _) | (with_reducible refine Below.alloc ?_ (by first | omega | (simp; done) | (simp; omega)) _) | (with_reducible refine below_drewN ?_ _) | (with_reducible refine Below.drew ?_) | (with_reducible refine Below.trans ?_ (Below.mono (by first | (with_reducible assumption) | exact Grow.below (by assumption)) (by first | omega | (simp; done) | (simp; omega)))))
  all_goals
    rw [oB] at HB
    rw [oM] at HM
    clear ok
    go_enter Try.func13, Try.ntmps13
    go_wp2_with fail
    (go_at_call 38; refine (HB _).mono ?_; rintro _ W0 ⟨rfl, b0⟩)
    obtain ⟨hc0, hf0⟩ := bcell b0
    have hz0 := b0.size
    simp at hz0
    have hl0 : w.heap.size + 1 < W0.heap.size := by omega
    go_wp2_with fail
    (go_at_call 39; refine (HM _).mono ?_; rintro _ W1 ⟨rfl, b1⟩)
    have hz1 := b1.size
    have bA : Below (w.heap.size + 3) (((w.alloc (Obj.cells #[.float .f32 a0, .float .f32 a1, .float .f32 a2, .float .f32 a3] 31)).alloc (Obj.cells #[.float .f32 n, .float .f32 e, .float .f32 h] 33)).alloc (Obj.cells #[.float .f32 0, .float .f32 0, .float .f32 0] 28)) W1 := (b0.trans (b1.mono (by simp; omega))).mono (by simp)
    have hR0 : Has (w.heap.size + 1 + 1) 3 (((w.alloc (Obj.cells #[.float .f32 a0, .float .f32 a1, .float .f32 a2, .float .f32 a3] 31)).alloc (Obj.cells #[.float .f32 n, .float .f32 e, .float .f32 h] 33)).alloc (Obj.cells #[.float .f32 0, .float .f32 0, .float .f32 0] 28)) := by simpa using has_alloc3 ((w.alloc (Obj.cells #[.float .f32 a0, .float .f32 a1, .float .f32 a2, .float .f32 a3] 31)).alloc (Obj.cells #[.float .f32 n, .float .f32 e, .float .f32 h] 33)) (.float .f32 0) (.float .f32 0) (.float .f32 0) 28
    have hR := hR0.below bA (by omega)
    have b0w : Below w.heap.size w W1 := ((((Below.refl w.heap.size w).alloc (Nat.le_refl _) _).alloc (by simp) _).alloc (by simp; omega) _).trans (bA.mono (by omega))
    have q0 := hR.cell (o := 0) (by decide)
    have q1 := hR.cell (o := 1) (by decide)
    have q2 := hR.cell (o := 2) (by decide)
    have qf := hR.frz
    clear hc0 hf0 b0 b1 hR0 bA
    go_wp2_with (go_at_call 40; refine (sFinite ht _).mono ?_; rintro eq wq ⟨nq, rfl, rfl⟩)
    refine bodyPost_ret (v := .tuple #[vecV 0 0 0, .bool false]) (by simp [results, Try.results13, go_sem, q0, q1, q2]) rfl ⟨⟨_, _, _, rfl, zeroW, zeroW, zeroW⟩, ?_⟩
    refine b0w.trans ?_
    repeat' (first | with_reducible exact Below.refl _ _ | with_reducible assumption | (with_reducible refine Below.setCell ?_ (by first | omega | (simp; done) | (simp; omega)) _) | (with_reducible refine Below.alloc ?_ (by first | omega | (simp; done) | (simp; omega)) _) | (with_reducible refine below_drewN ?_ _) | (with_reducible refine Below.drew ?_) | (with_reducible refine Below.trans ?_ (Below.mono (by first | (with_reducible assumption) | exact Grow.below (by assumption)) (by first | omega | (simp; done) | (simp; omega)))))
end
end Go.Proofs.Ytlfcjfaddcciaaa
