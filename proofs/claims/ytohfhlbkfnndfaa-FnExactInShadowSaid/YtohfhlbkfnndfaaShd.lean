/-
  Whether a place is in a ball's shadow, of the program. No condition.
-/
import Derived.Test.YtohfhlbkfnndfaaDrk
import Derived.Test.YtohfhlbkfnndfaaInnB
import Derived.Test.YtohfhlbkfnndfaaTake
namespace Go.Proofs.Ytohfhlbkfnndfaa
open Go.RowKit

theorem iSclB {a0 a1 a2 b : Nat} {x0 x1 x2 y : Option Nat} (h0 : Is .f32 a0 x0) (h1 : Is .f32 a1 x1) (h2 : Is .f32 a2 x2) (g : Is .f32 b y) (W : World) :
    Calls Try.prog 32 #[vecV a0 a1 a2, .float .f32 b] W fun e w' => (∃ r0 r1 r2, e = .returned (vecV r0 r1 r2) ∧ Is .f32 r0 (fo .mul .f32 x0 y) ∧ Is .f32 r1 (fo .mul .f32 x1 y) ∧ Is .f32 r2 (fo .mul .f32 x2 y)) ∧ Below W.heap.size W w' :=
  (implScale h0 h1 h2 g W).mono fun _ _ ⟨r0, r1, r2, e, i0, i1, i2, g⟩ => ⟨⟨r0, r1, r2, e, i0, i1, i2⟩, g.below⟩
theorem iLesV {a0 a1 a2 b0 b1 b2 : Nat} {x0 x1 x2 y0 y1 y2 : Option Nat} (h0 : Is .f32 a0 x0) (h1 : Is .f32 a1 x1) (h2 : Is .f32 a2 x2) (g0 : Is .f32 b0 y0) (g1 : Is .f32 b1 y1) (g2 : Is .f32 b2 y2) (W : World) :
    Calls Try.prog 34 #[vecV a0 a1 a2, vecV b0 b1 b2] W fun e w' => (∃ r0 r1 r2, e = .returned (vecV r0 r1 r2) ∧ Is .f32 r0 (fo .sub .f32 x0 y0) ∧ Is .f32 r1 (fo .sub .f32 x1 y1) ∧ Is .f32 r2 (fo .sub .f32 x2 y2)) ∧ Below W.heap.size W w' :=
  (implLess h0 h1 h2 g0 g1 g2 W).mono fun _ _ ⟨r0, r1, r2, e, i0, i1, i2, g⟩ => ⟨⟨r0, r1, r2, e, i0, i1, i2⟩, g.below⟩

theorem three_ways' (b0 b1 b2 : Bool) : b0 = false ∨ b0 = true ∧ (b1 = false ∨ b1 = true ∧ (b2 = false ∨ b2 = true)) := by
  cases b0 <;> cases b1 <;> cases b2 <;> decide

/-- The world behind the boxing of a ball and two vectors. -/
abbrev stSh (w : World) (a0 a1 a2 a3 s0 s1 s2 p0 p1 p2 : Nat) : World := ((w.alloc (Obj.cells #[.float .f32 a0, .float .f32 a1, .float .f32 a2, .float .f32 a3] 29)).alloc (Obj.cells #[.float .f32 s0, .float .f32 s1, .float .f32 s2] 31)).alloc (Obj.cells #[.float .f32 p0, .float .f32 p1, .float .f32 p2] 31)

theorem stSh_at (w : World) (a0 a1 a2 a3 s0 s1 s2 p0 p1 p2 : Nat) (w' : World) (hb : Below (w.heap.size + 3) (stSh w a0 a1 a2 a3 s0 s1 s2 p0 p1 p2) w') :
    (w'.cell? ⟨w.heap.size, 0, none⟩ = some (.float .f32 a0) ∧ w'.cell? ⟨w.heap.size, 1, none⟩ = some (.float .f32 a1) ∧ w'.cell? ⟨w.heap.size, 2, none⟩ = some (.float .f32 a2) ∧ w'.cell? ⟨w.heap.size, 3, none⟩ = some (.float .f32 a3)) ∧ VecIn w' (w.heap.size + 1) s0 s1 s2 ∧ VecIn w' (w.heap.size + 1 + 1) p0 p1 p2 := by
  have hv := vec_alloc ((w.alloc (Obj.cells #[.float .f32 a0, .float .f32 a1, .float .f32 a2, .float .f32 a3] 29)).alloc (Obj.cells #[.float .f32 s0, .float .f32 s1, .float .f32 s2] 31)) p0 p1 p2 31
  have hu := (vec_alloc (w.alloc (Obj.cells #[.float .f32 a0, .float .f32 a1, .float .f32 a2, .float .f32 a3] 29)) s0 s1 s2 31).at ((Below.refl _ _).alloc (Nat.le_refl _) (Obj.cells #[.float .f32 p0, .float .f32 p1, .float .f32 p2] 31))
  simp at hv hu
  have hb' : Below (stSh w a0 a1 a2 a3 s0 s1 s2 p0 p1 p2).heap.size (stSh w a0 a1 a2 a3 s0 s1 s2 p0 p1 p2) w' := hb.mono (by simp)
  refine ⟨⟨(hb.cell (p := ⟨w.heap.size, 0, none⟩) (by dsimp only; omega)).trans (by rw [World.cell?_alloc_lt _ _ _ (by simp; omega), World.cell?_alloc_lt _ _ _ (by simp)]; simp), (hb.cell (p := ⟨w.heap.size, 1, none⟩) (by dsimp only; omega)).trans (by rw [World.cell?_alloc_lt _ _ _ (by simp; omega), World.cell?_alloc_lt _ _ _ (by simp)]; simp), (hb.cell (p := ⟨w.heap.size, 2, none⟩) (by dsimp only; omega)).trans (by rw [World.cell?_alloc_lt _ _ _ (by simp; omega), World.cell?_alloc_lt _ _ _ (by simp)]; simp), (hb.cell (p := ⟨w.heap.size, 3, none⟩) (by dsimp only; omega)).trans (by rw [World.cell?_alloc_lt _ _ _ (by simp; omega), World.cell?_alloc_lt _ _ _ (by simp)]; simp)⟩, hu.at hb', hv.at hb'⟩

section
variable {a0 a1 a2 a3 s0 s1 s2 p0 p1 p2 : Nat} {x0 x1 x2 x3 z0 z1 z2 y0 y1 y2 : Option Nat} (h0 : Is .f32 a0 x0) (h1 : Is .f32 a1 x1) (h2 : Is .f32 a2 x2) (h3 : Is .f32 a3 x3) (j0 : Is .f32 s0 z0) (j1 : Is .f32 s1 z1) (j2 : Is .f32 s2 z2) (g0 : Is .f32 p0 y0) (g1 : Is .f32 p1 y1) (g2 : Is .f32 p2 y2)
include h0 h1 h2 h3 j0 j1 j2 g0 g1 g2

set_option maxRecDepth 100000 in
set_option maxHeartbeats 3200000 in
theorem iShdF (w : World) (ok : (balB x0 x1 x2 x3 && (finV z0 z1 z2 && finV y0 y1 y2)) = false) :
    Calls Try.prog 12 #[balV a0 a1 a2 a3, vecV s0 s1 s2, vecV p0 p1 p2] w fun e w' => e = .returned (.tuple #[.bool false, .bool false]) ∧ Below w.heap.size w w' := by
  have hst := run_store_float Try.prog
  have KB := Lib.hid (stSh_at w a0 a1 a2 a3 s0 s1 s2 p0 p1 p2)
  have bw : Below w.heap.size w (stSh w a0 a1 a2 a3 s0 s1 s2 p0 p1 p2) := (((Below.refl w.heap.size w).alloc (Nat.le_refl _) _).alloc (by simp) _).alloc (by simp; omega) _
  have FS := fun W => iFinV j0 j1 j2 W
  have FV := fun W => iFinV g0 g1 g2 W
  rcases three_ways' (balB x0 x1 x2 x3) (finV z0 z1 z2) (finV y0 y1 y2) with oB | ⟨oB, oS | ⟨oS, oV | oV⟩⟩
  case inr.inr.inr => rw [oB, oS, oV] at ok; cases ok
  all_goals
    clear ok
    go_enter Try.func12, Try.ntmps12
    go_wp2_with fail
    (go_at_call 29; refine (iBal h0 h1 h2 h3 _).mono ?_; rw [oB]; rintro _ W0 ⟨rfl, b0⟩)
    have bA : Below (w.heap.size + 3) (stSh w a0 a1 a2 a3 s0 s1 s2 p0 p1 p2) W0 := b0.mono (by simp)
    have hz0 := b0.size
    simp at hz0
    obtain ⟨-, ⟨-, k0, k1, k2⟩, -⟩ := KB.out W0 bA
  · go_wp2_with fail
    go_ret2
    exact ⟨rfl, bw.trans (bA.mono (by omega))⟩
  · simp only [oS] at FS
    go_wp2_with fail
    (go_at_call 30; refine (FS _).mono ?_; rintro _ W1 ⟨rfl, f1⟩)
    have bB : Below (w.heap.size + 3) (stSh w a0 a1 a2 a3 s0 s1 s2 p0 p1 p2) W1 := bA.trans (f1.below.mono (by omega))
    go_wp2_with fail
    go_ret2
    exact ⟨rfl, bw.trans (bB.mono (by omega))⟩
  · simp only [oS] at FS
    simp only [oV] at FV
    go_wp2_with fail
    (go_at_call 30; refine (FS _).mono ?_; rintro _ W1 ⟨rfl, f1⟩)
    have bB : Below (w.heap.size + 3) (stSh w a0 a1 a2 a3 s0 s1 s2 p0 p1 p2) W1 := bA.trans (f1.below.mono (by omega))
    have hz1 := f1.below.size
    clear k0 k1 k2
    obtain ⟨-, -, -, k0, k1, k2⟩ := KB.out W1 bB
    go_wp2_with fail
    (go_at_call 30; refine (FV _).mono ?_; rintro _ W2 ⟨rfl, f2⟩)
    have bC : Below (w.heap.size + 3) (stSh w a0 a1 a2 a3 s0 s1 s2 p0 p1 p2) W2 := bB.trans (f2.below.mono (by omega))
    go_wp2_with fail
    go_ret2
    exact ⟨rfl, bw.trans (bC.mono (by omega))⟩

set_option maxRecDepth 100000 in
set_option maxHeartbeats 6400000 in
theorem iShdT (w : World) (oB : balB x0 x1 x2 x3 = true) (oS : finV z0 z1 z2 = true) (oV : finV y0 y1 y2 = true) :
    Calls Try.prog 12 #[balV a0 a1 a2 a3, vecV s0 s1 s2, vecV p0 p1 p2] w fun e w' => e = .returned (.tuple #[.bool (dkB z0 z1 z2 y0 y1 y2 x1), .bool (dkOk z0 z1 z2 y0 y1 y2)]) ∧ Below w.heap.size w w' := by
  have hst := run_store_float Try.prog
  have KB := Lib.hid (stSh_at w a0 a1 a2 a3 s0 s1 s2 p0 p1 p2)
  have bw : Below w.heap.size w (stSh w a0 a1 a2 a3 s0 s1 s2 p0 p1 p2) := (((Below.refl w.heap.size w).alloc (Nat.le_refl _) _).alloc (by simp) _).alloc (by simp; omega) _
  have FS := fun W => iFinV j0 j1 j2 W
  have FV := fun W => iFinV g0 g1 g2 W
  simp only [oS] at FS
  simp only [oV] at FV
  obtain ⟨rr, hrr⟩ : ∃ rr, rr = dkB z0 z1 z2 y0 y1 y2 x1 := ⟨_, rfl⟩
  obtain ⟨okk, hok⟩ : ∃ okk, okk = dkOk z0 z1 z2 y0 y1 y2 := ⟨_, rfl⟩
  rw [← hrr, ← hok]
  unfold dkB at hrr
  rw [← hok] at hrr
  have HR := Lib.hid hrr
  have HO := Lib.hid hok
  clear hrr hok
  go_enter Try.func12, Try.ntmps12
  go_wp2_with fail
  (go_at_call 29; refine (iBal h0 h1 h2 h3 _).mono ?_; rw [oB]; rintro _ W0 ⟨rfl, b0⟩)
  have bA : Below (w.heap.size + 3) (stSh w a0 a1 a2 a3 s0 s1 s2 p0 p1 p2) W0 := b0.mono (by simp)
  have hz0 := b0.size
  simp at hz0
  obtain ⟨-, ⟨-, k0, k1, k2⟩, -⟩ := KB.out W0 bA
  go_wp2_with fail
  (go_at_call 30; refine (FS _).mono ?_; rintro _ W1 ⟨rfl, f1⟩)
  have bB : Below (w.heap.size + 3) (stSh w a0 a1 a2 a3 s0 s1 s2 p0 p1 p2) W1 := bA.trans (f1.below.mono (by omega))
  have hz1 := f1.below.size
  clear k0 k1 k2 b0 bA
  obtain ⟨-, -, -, k0, k1, k2⟩ := KB.out W1 bB
  go_wp2_with fail
  (go_at_call 30; refine (FV _).mono ?_; rintro _ W2 ⟨rfl, f2⟩)
  have bC : Below (w.heap.size + 3) (stSh w a0 a1 a2 a3 s0 s1 s2 p0 p1 p2) W2 := bB.trans (f2.below.mono (by omega))
  have hz2 := f2.below.size
  clear k0 k1 k2 f1 bB FS FV f2
  obtain ⟨-, ⟨-, k0, k1, k2⟩, -⟩ := KB.out W2 bC
  go_wp2_with fail
  (go_at_call 31; refine (iLenB j0 j1 j2 _).mono ?_; rintro _ W3 ⟨⟨rl, rfl, iL⟩, b3⟩)
  have bD : Below (w.heap.size + 3) (stSh w a0 a1 a2 a3 s0 s1 s2 p0 p1 p2) W3 := bC.trans (b3.mono (by omega))
  have hz3 := b3.size
  clear k0 k1 k2 b3 bC
  obtain ⟨-, ⟨-, k0, k1, k2⟩, -⟩ := KB.out W3 bD
  go_wp2_with (apply wpList_arith; rfl; simp [Arith]; rfl; rfl; (first | assumption | exact is_lit64 _ (by decide) | exact is_lit32 _ (by decide)); (first | assumption | exact is_lit64 _ (by decide) | exact is_lit32 _ (by decide)); intro Kq hKq rq nq hq; go_simp)
  generalize hW : W3.drewN nq = W4
  have b4 : Below W3.heap.size W3 W4 := by rw [← hW]; exact below_drewN (Below.refl _ _) _
  have hz4 := b4.size
  clear hW k0 k1 k2
  (go_at_call 32; refine (iSclB j0 j1 j2 hq _).mono ?_; rintro _ W5 ⟨⟨u0, u1, u2, rfl, iu0, iu1, iu2⟩, b5⟩)
  have hz5 := b5.size
  have bE : Below (w.heap.size + 3) (stSh w a0 a1 a2 a3 s0 s1 s2 p0 p1 p2) W5 := (bD.trans (b4.mono (by omega))).trans (b5.mono (by omega))
  clear b4 b5 bD
  obtain ⟨-, -, m, m0, m1, m2⟩ := KB.out W5 bE
  go_wp2_with fail
  (go_at_call 33; refine (iInnB g0 g1 g2 iu0 iu1 iu2 _).mono ?_; rintro _ W6 ⟨⟨ra, rfl, iA⟩, b6⟩)
  have hz6 := b6.size
  simp at hz6
  have bV : Below W5.heap.size W5 (W5.alloc (.cells #[.float .f32 u0, .float .f32 u1, .float .f32 u2] 31)) := (Below.refl _ _).alloc (Nat.le_refl _) _
  have bF : Below (w.heap.size + 3) (stSh w a0 a1 a2 a3 s0 s1 s2 p0 p1 p2) W6 := (bE.trans (bV.mono (by omega))).trans (b6.mono (by simp; omega))
  have vU : VecIn W6 W5.heap.size u0 u1 u2 := (vec_alloc W5 u0 u1 u2 31).at b6
  have UP : ∀ w', Below W6.heap.size W6 w' → Below (w.heap.size + 3) (stSh w a0 a1 a2 a3 s0 s1 s2 p0 p1 p2) w' := fun w' k => bF.trans (k.mono (by omega))
  have e0 : ∀ w', Below W6.heap.size W6 w' → w'.cell? ⟨w.heap.size + 1 + 1, 0, none⟩ = some (.float .f32 p0) := fun w' k => (KB.out w' (UP w' k)).2.2.2.1
  have e1 : ∀ w', Below W6.heap.size W6 w' → w'.cell? ⟨w.heap.size + 1 + 1, 1, none⟩ = some (.float .f32 p1) := fun w' k => (KB.out w' (UP w' k)).2.2.2.2.1
  have e2 : ∀ w', Below W6.heap.size W6 w' → w'.cell? ⟨w.heap.size + 1 + 1, 2, none⟩ = some (.float .f32 p2) := fun w' k => (KB.out w' (UP w' k)).2.2.2.2.2
  have q0 : ∀ w', Below W6.heap.size W6 w' → w'.cell? ⟨W5.heap.size, 0, none⟩ = some (.float .f32 u0) := fun w' k => (vU.at k).2.1
  have q1 : ∀ w', Below W6.heap.size W6 w' → w'.cell? ⟨W5.heap.size, 1, none⟩ = some (.float .f32 u1) := fun w' k => (vU.at k).2.2.1
  have q2 : ∀ w', Below W6.heap.size W6 w' → w'.cell? ⟨W5.heap.size, 2, none⟩ = some (.float .f32 u2) := fun w' k => (vU.at k).2.2.2
  clear m m0 m1 m2 b6 bV bE
  go_upto_region 6 with fail
  (refine wp_region_held_drew (S := fun w' => Below W6.heap.size W6 w') (by kernel_rfl) (by (try dsimp only); (repeat' (first | with_reducible assumption | with_reducible exact Below.refl _ _ | with_reducible exact keepW (by with_reducible assumption) (by with_reducible assumption) (by first | exact Nat.le_refl _ | assumption | omega | (simp; done) | (simp; omega)) | with_reducible exact keepS (by with_reducible assumption) (by with_reducible assumption) (by first | exact Nat.le_refl _ | assumption | omega | (simp; done) | (simp; omega)) | (with_reducible refine Below.setCell ?_ (by first | omega | (simp; done) | (simp; omega)) _) | (with_reducible refine below_drewN ?_ _) | (with_reducible refine Below.drew ?_) | (with_reducible refine Below.trans ?_ (Below.mono (by with_reducible assumption) (by first | omega | (simp; done) | (simp; omega)))) | (with_reducible refine Below.trans ?_ (Below.mono (Grow.below (by with_reducible assumption)) (by first | omega | (simp; done) | (simp; omega)))) | (with_reducible refine Below.alloc ?_ (by first | omega | (simp; done) | (simp; omega)) _)))) (fun hHeld => ?_))
  (refine wpTake (i := 0) (some 34) (v := ?_) rfl (by rfl) (by kernel_rfl) (by kernel_rfl) (by kernel_rfl) (fun _ _ _ h => h) (Or.inl ⟨by rfl, ?_⟩) (by assumption) ?_; rotate_left; (focus (intro w hSw; (try dsimp only at hSw); go_simp; (try with_reducible rfl))); (simp only [Act.put, List.setIfInBounds_toArray, List.set_cons_zero, List.set_cons_succ]))
  (refine wpTake (i := 1) (some 35) (v := ?_) rfl (by rfl) (by kernel_rfl) (by kernel_rfl) (by kernel_rfl) (fun _ _ _ h => h) (Or.inl ⟨by rfl, ?_⟩) (by assumption) ?_; rotate_left; (focus (intro w hSw; (try dsimp only at hSw); go_simp; (try with_reducible rfl))); (simp only [Act.put, List.setIfInBounds_toArray, List.set_cons_zero, List.set_cons_succ]))
  (refine wpTake (i := 2) (some 36) (v := ?_) rfl (by rfl) (by kernel_rfl) (by kernel_rfl) (by kernel_rfl) (fun _ _ _ h => h) (Or.inl ⟨by rfl, ?_⟩) (by assumption) ?_; rotate_left; (focus (intro w hSw; (try dsimp only at hSw); go_simp; (try with_reducible rfl))); (simp only [Act.put, List.setIfInBounds_toArray, List.set_cons_zero, List.set_cons_succ]))
  (refine wpAnyH_ready (rs := [3]) (by kernel_rfl) (by simp) ?_; refine AllReadyH.cons rfl (fun K hK => ?_) AllReadyH.nil; go_simp)
  (go_at_call 32; (with_reducible refine (iSclB iu0 iu1 iu2 iA _).mono ?_); rintro eq wq ⟨⟨v0, v1, v2, rfl, iv0, iv1, iv2⟩, hbs⟩)
  (go_wp2_with fail; refine hK.out _ _ (by (try dsimp only); (repeat' (first | with_reducible assumption | with_reducible exact Below.refl _ _ | with_reducible exact keepW (by with_reducible assumption) (by with_reducible assumption) (by first | exact Nat.le_refl _ | assumption | omega | (simp; done) | (simp; omega)) | with_reducible exact keepS (by with_reducible assumption) (by with_reducible assumption) (by first | exact Nat.le_refl _ | assumption | omega | (simp; done) | (simp; omega)) | (with_reducible refine Below.setCell ?_ (by first | omega | (simp; done) | (simp; omega)) _) | (with_reducible refine below_drewN ?_ _) | (with_reducible refine Below.drew ?_) | (with_reducible refine Below.trans ?_ (Below.mono (by with_reducible assumption) (by first | omega | (simp; done) | (simp; omega)))) | (with_reducible refine Below.trans ?_ (Below.mono (Grow.below (by with_reducible assumption)) (by first | omega | (simp; done) | (simp; omega)))) | (with_reducible refine Below.alloc ?_ (by first | omega | (simp; done) | (simp; omega)) _)))) (fun hHeld => ?_); clear hK K; try (simp only [Act.put, List.setIfInBounds_toArray, List.set_cons_zero, List.set_cons_succ]))
  (refine wpAnyH_ready (rs := [4]) (by kernel_rfl) (by simp) ?_; refine AllReadyH.cons rfl (fun K hK => ?_) AllReadyH.nil; go_simp)
  (go_at_call 34; (with_reducible refine (iLesV g0 g1 g2 iv0 iv1 iv2 _).mono ?_); rintro eq wq ⟨⟨d0, d1, d2, rfl, i0, i1, i2⟩, hbs⟩)
  (go_wp2_with fail; refine hK.out _ _ (by (try dsimp only); (repeat' (first | with_reducible assumption | with_reducible exact Below.refl _ _ | with_reducible exact keepW (by with_reducible assumption) (by with_reducible assumption) (by first | exact Nat.le_refl _ | assumption | omega | (simp; done) | (simp; omega)) | with_reducible exact keepS (by with_reducible assumption) (by with_reducible assumption) (by first | exact Nat.le_refl _ | assumption | omega | (simp; done) | (simp; omega)) | (with_reducible refine Below.setCell ?_ (by first | omega | (simp; done) | (simp; omega)) _) | (with_reducible refine below_drewN ?_ _) | (with_reducible refine Below.drew ?_) | (with_reducible refine Below.trans ?_ (Below.mono (by with_reducible assumption) (by first | omega | (simp; done) | (simp; omega)))) | (with_reducible refine Below.trans ?_ (Below.mono (Grow.below (by with_reducible assumption)) (by first | omega | (simp; done) | (simp; omega)))) | (with_reducible refine Below.alloc ?_ (by first | omega | (simp; done) | (simp; omega)) _)))) (fun hHeld => ?_); clear hK K; try (simp only [Act.put, List.setIfInBounds_toArray, List.set_cons_zero, List.set_cons_succ]))
  (refine wpAnyH_ready (rs := [5]) (by kernel_rfl) (by simp) ?_; refine AllReadyH.cons rfl (fun K hK => ?_) AllReadyH.nil; go_simp)
  (go_at_call 31; (with_reducible refine (iLenB i0 i1 i2 _).mono ?_); rintro eq wq ⟨⟨rx, rfl, iX⟩, hbs⟩)
  (go_wp2_with fail; refine hK.out _ _ (by (try dsimp only); (repeat' (first | with_reducible assumption | with_reducible exact Below.refl _ _ | with_reducible exact keepW (by with_reducible assumption) (by with_reducible assumption) (by first | exact Nat.le_refl _ | assumption | omega | (simp; done) | (simp; omega)) | with_reducible exact keepS (by with_reducible assumption) (by with_reducible assumption) (by first | exact Nat.le_refl _ | assumption | omega | (simp; done) | (simp; omega)) | (with_reducible refine Below.setCell ?_ (by first | omega | (simp; done) | (simp; omega)) _) | (with_reducible refine below_drewN ?_ _) | (with_reducible refine Below.drew ?_) | (with_reducible refine Below.trans ?_ (Below.mono (by with_reducible assumption) (by first | omega | (simp; done) | (simp; omega)))) | (with_reducible refine Below.trans ?_ (Below.mono (Grow.below (by with_reducible assumption)) (by first | omega | (simp; done) | (simp; omega)))) | (with_reducible refine Below.alloc ?_ (by first | omega | (simp; done) | (simp; omega)) _)))) (fun hHeld => ?_); clear hK K; try (simp only [Act.put, List.setIfInBounds_toArray, List.set_cons_zero, List.set_cons_succ]))
  (refine wpTake (i := 6) (some 11) (v := ?_) rfl (by rfl) (by kernel_rfl) (by kernel_rfl) (by kernel_rfl) (fun _ _ _ h => h) (Or.inl ⟨by rfl, ?_⟩) (by assumption) ?_; rotate_left; (focus (intro w hSw; (try dsimp only at hSw); go_simp; (try with_reducible rfl))); (simp only [Act.put, List.setIfInBounds_toArray, List.set_cons_zero, List.set_cons_succ]))
  (refine wpAnyH_done (by kernel_rfl) ?_ _)
  have jA : Is .f32 ra (dkA z0 z1 z2 y0 y1 y2) := iA
  have jX : Is .f32 rx (dkX z0 z1 z2 y0 y1 y2) := iX
  have HO' := HO.out
  rw [dkOk_eq (x0 := z0) (x1 := z1) (x2 := z2) g0 g1 g2 iu0 iu1 iu2 i0 i1 i2 w] at HO'
  have bZ : Below w.heap.size w wq := bw.trans ((UP wq hHeld).mono (by omega))
  have cb : ∀ w', Below wq.heap.size wq w' → w'.cell? ⟨w.heap.size, 1, none⟩ = some (.float .f32 a1) := fun w' k => (KB.out w' ((UP wq hHeld).trans (k.mono (by have := hHeld.size; omega)))).1.2.1
  clear e0 e1 e2 q0 q1 q2 KB UP bF vU bw
  clear HO
  cases hf : (finS (lenO z0 z1 z2) && finS (dkA z0 z1 z2 y0 y1 y2) && finS (dkX z0 z1 z2 y0 y1 y2)) with
  | false =>
    obtain rfl : okk = false := by rw [HO', ← Bool.and_assoc]; exact hf
    obtain rfl : rr = false := by simpa using HR.out
    clear HO' HR
    go_wp2_with fail
    (go_at_call 35; refine (iFin3 _ iL jA jX (by simp) (by simp) (by simp)).mono ?_; rw [hf]; rintro _ W7 ⟨n7, rfl, hw7⟩)
    have b7 : Below wq.heap.size wq W7 := by rw [hw7]; exact below_drewN ((Below.refl _ _).alloc (Nat.le_refl _) _) _
    clear hw7
    go_wp2_with fail
    go_ret2
    exact ⟨rfl, bZ.trans (b7.mono bZ.size)⟩
  | true =>
    obtain rfl : okk = true := by rw [HO', ← Bool.and_assoc]; exact hf
    clear HO'
    go_wp2_with fail
    (go_at_call 35; refine (iFin3 _ iL jA jX (by simp) (by simp) (by simp)).mono ?_; rw [hf]; rintro _ W7 ⟨n7, rfl, hw7⟩)
    have b7 : Below wq.heap.size wq W7 := by rw [hw7]; exact below_drewN ((Below.refl _ _).alloc (Nat.le_refl _) _) _
    have c7 := cb W7 b7
    clear hw7 cb
    cases hA : cmpB .lss .f32 (dkA z0 z1 z2 y0 y1 y2) (some 0) with
    | false =>
      obtain rfl : rr = false := by simpa [hA] using HR.out
      go_wp2_with (apply wpList_cmp; rfl; simp [Cmp]; rfl; rfl; (first | assumption | exact is_lit64 _ (by decide) | exact is_lit32 _ (by decide)); (first | assumption | exact is_lit64 _ (by decide) | exact is_lit32 _ (by decide)); intro Kq hKq; go_simp)
      go_ret2
      exact ⟨rfl, bZ.trans (b7.mono bZ.size)⟩
    | true =>
      obtain rfl : rr = cmpB .lss .f32 (dkX z0 z1 z2 y0 y1 y2) x1 := by simpa [hA] using HR.out
      go_wp2_with (apply wpList_cmp; rfl; simp [Cmp]; rfl; rfl; (first | assumption | exact is_lit64 _ (by decide) | exact is_lit32 _ (by decide)); (first | assumption | exact is_lit64 _ (by decide) | exact is_lit32 _ (by decide)); intro Kq hKq; go_simp)
      go_ret2
      exact ⟨rfl, bZ.trans (b7.mono bZ.size)⟩
end
end Go.Proofs.Ytohfhlbkfnndfaa
