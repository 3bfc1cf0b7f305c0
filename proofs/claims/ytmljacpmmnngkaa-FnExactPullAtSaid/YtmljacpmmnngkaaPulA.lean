/-
  The pull at a place, of the program. No condition.
-/
import Derived.Test.YtmljacpmmnngkaaPulU
import Derived.Test.YtmljacpmmnngkaaFinV
namespace Go.Proofs.Ytmljacpmmnngkaa
open Go.RowKit

section
variable {f : Nat → Nat} {v : Nat → Option Nat} {n k : Nat}
/-- The words of a pull. -/
theorem pul_words {p0 p1 p2 x : Nat} {A : Nat → Option Nat} {c : Option Nat} (hA : areB v n = true) (hk : k < n) (hv : ∀ j, j < 7 * n → Is .f32 (f j) (v j)) (g0 : Is .f32 p0 (A 0)) (g1 : Is .f32 p1 (A 1)) (g2 : Is .f32 p2 (A 2)) (hF : finV (A 0) (A 1) (A 2) = true) (ic : Is .f32 x c) (hc : leastB c = true) :
    ∃ x0 x1 x2 rI rC rQ rR, (fo .sub .f32 (v (7 * k)) (A 0) = some x0 ∧ fo .sub .f32 (v (7 * k + 1)) (A 1) = some x1 ∧ fo .sub .f32 (v (7 * k + 2)) (A 2) = some x2) ∧ (Is .f32 x0 (some x0) ∧ Is .f32 x1 (some x1) ∧ Is .f32 x2 (some x2)) ∧
      innerO (some x0) (some x1) (some x2) (some x0) (some x1) (some x2) = some rI ∧ fo .mul .f32 (some x) (some x) = some rC ∧ fo .add .f32 (some rI) (some rC) = some rQ ∧ NN rQ ∧ pq v A c k = some rQ ∧ rootO (some rQ) = some rR ∧ NN rR ∧ ps v A c k = fo .quo .f32 (v (7 * k + 6)) (fo .mul .f32 (some rQ) (some rR)) ∧ Is .f32 x (some x) := by
  obtain ⟨b0, b1, b2, b3, b4, b5, b6⟩ := fin_at hA hk
  have K := fun j (hj : j < 7) => hv (7 * k + j) (by omega)
  unfold finV at hF
  simp only [Bool.and_eq_true] at hF
  obtain ⟨x0, e0, i0⟩ := sub_fin (K 0 (by decide)) g0 b0 hF.1.1
  obtain ⟨x1, e1, i1⟩ := sub_fin (K 1 (by decide)) g1 b1 hF.1.2
  obtain ⟨x2, e2, i2⟩ := sub_fin (K 2 (by decide)) g2 b2 hF.2
  rw [Nat.add_zero] at e0
  have hcf : finS c = true := by unfold leastB at hc; simp only [Bool.and_eq_true] at hc; exact hc.1
  obtain ⟨hcx, -⟩ := fin_num32 ic hcf
  obtain ⟨rI, eI, nI⟩ := inner_nn i0 i1 i2
  obtain ⟨rC, eC, nC⟩ := nn_sq (hcx ▸ ic)
  obtain ⟨rQ, eQ, nQ⟩ := nn_add nI nC
  obtain ⟨rR, eR, nR⟩ := nn_root nQ
  have hS : pq v A c k = some rQ := by unfold pq; rw [e0, e1, e2, eI, hcx, eC, eQ]
  refine ⟨x0, x1, x2, rI, rC, rQ, rR, ⟨e0, e1, e2⟩, ⟨i0, i1, i2⟩, eI, eC, eQ, nQ, hS, eR, nR, ?_, hcx ▸ ic⟩
  unfold ps
  rw [hS, eR]
end

theorem sumP_pull (v A : Nat → Option Nat) (c : Option Nat) (j : Nat) : ∀ k, sumP (pullI v A c j) k = pullS v A c j k := fun k => by
  rw [← (pull_same v A c j k).1]
  induction k with
  | zero => rfl
  | succ k ih => rw [sumP_succ, ih]; rfl

theorem iPullsTo {p0 p1 p2 x : Nat} (W : World) : Calls Try.prog 24 #[vecV p0 p1 p2, .float .f32 x] W fun e w' => e = .returned (.func (.func 38) #[] #[.pointer (some ⟨W.heap.size, 0, none⟩), .pointer (some ⟨W.heap.size + 1, 0, none⟩)]) ∧ Below W.heap.size W w' ∧ W.heap.size + 1 < w'.heap.size ∧
    w'.cell? ⟨W.heap.size, 0, none⟩ = some (.float .f32 p0) ∧ w'.cell? ⟨W.heap.size, 1, none⟩ = some (.float .f32 p1) ∧ w'.cell? ⟨W.heap.size, 2, none⟩ = some (.float .f32 p2) ∧ w'.cell? ⟨W.heap.size + 1, 0, none⟩ = some (.float .f32 x) := by
  have hst := run_store_float Try.prog
  go_enter Try.func24, Try.ntmps24
  go_wp2
  go_ret
  refine ⟨rfl, by repeat' (first | with_reducible exact Below.refl _ _ | with_reducible assumption | (with_reducible refine Below.setCell ?_ (by first | omega | (simp; done) | (simp; omega)) _) | (with_reducible refine Below.alloc ?_ (by first | omega | (simp; done) | (simp; omega)) _) | (with_reducible refine below_drewN ?_ _) | (with_reducible refine Below.drew ?_) | (with_reducible refine Below.trans ?_ (Below.mono (by first | (with_reducible assumption) | exact Grow.below (by assumption)) (by first | omega | (simp; done) | (simp; omega))))), by simp, ?_, ?_, ?_, ?_⟩
  · rw [World.cell?_alloc_lt _ _ _ (by simp)]; simp
  · rw [World.cell?_alloc_lt _ _ _ (by simp)]; simp
  · rw [World.cell?_alloc_lt _ _ _ (by simp)]; simp
  · have e : W.heap.size + 1 = (W.alloc (Obj.cells #[.float .f32 p0, .float .f32 p1, .float .f32 p2] 27)).heap.size := by simp
    rw [e]; simp

theorem pullOne {f : Nat → Nat} {v A : Nat → Option Nat} {c : Option Nat} {n k p0 p1 p2 x : Nat} (hA : areB v n = true) (hk : k < n) (hv : ∀ j, j < 7 * n → Is .f32 (f j) (v j)) (g0 : Is .f32 p0 (A 0)) (g1 : Is .f32 p1 (A 1)) (g2 : Is .f32 p2 (A 2)) (hF : finV (A 0) (A 1) (A 2) = true) (ic : Is .f32 x c) (hc : leastB c = true) (ba bc : Nat) (W : World) (hba : ba < W.heap.size) (hbc : bc < W.heap.size)
    (k0 : W.cell? ⟨ba, 0, none⟩ = some (.float .f32 p0)) (k1 : W.cell? ⟨ba, 1, none⟩ = some (.float .f32 p1)) (k2 : W.cell? ⟨ba, 2, none⟩ = some (.float .f32 p2)) (kc : W.cell? ⟨bc, 0, none⟩ = some (.float .f32 x)) :
    Calls Try.prog 38 (#[bodV (f (7 * k)) (f (7 * k + 1)) (f (7 * k + 2)) (f (7 * k + 3)) (f (7 * k + 4)) (f (7 * k + 5)) (f (7 * k + 6))] ++ #[.pointer (some ⟨ba, 0, none⟩), .pointer (some ⟨bc, 0, none⟩)]) W
      fun e w' => (∃ r0 r1 r2, e = .returned (vecV r0 r1 r2) ∧ Is .f32 r0 (pullI v A c 0 k) ∧ Is .f32 r1 (pullI v A c 1 k) ∧ Is .f32 r2 (pullI v A c 2 k)) ∧ Below W.heap.size W w' := by
  obtain ⟨x0, x1, x2, rI, rC, rQ, rR, ⟨e0, e1, e2⟩, ⟨i0, i1, i2⟩, eI, eC, eQ, nQ, eP, eR, nR, eS, ix⟩ := pul_words hA hk hv g0 g1 g2 hF ic hc
  have h := iPullOne ba bc (a3 := f (7 * k + 3)) (a4 := f (7 * k + 4)) (a5 := f (7 * k + 5)) W hba hbc k0 k1 k2 kc (hv (7 * k) (by omega)) (hv (7 * k + 1) (by omega)) (hv (7 * k + 2) (by omega)) (hv (7 * k + 6) (by omega)) g0 g1 g2 e0 e1 e2 i0 i1 i2 ix eI eC eQ nQ eR nR
  unfold pullI pullsB pullJ
  simp only [Nat.add_zero]
  rw [eP, eS, e0, e1, e2]
  exact h

/-- Whether a pull is told. -/
def pulOk (v A : Nat → Option Nat) (c : Option Nat) (n : Nat) : Bool := areB v n && (finV (A 0) (A 1) (A 2) && leastB c)
def pulF (v A : Nat → Option Nat) (c : Option Nat) (n : Nat) : Bool := pulOk v A c n && finV (pullS v A c 0 n) (pullS v A c 1 n) (pullS v A c 2 n)
def pulV (v A : Nat → Option Nat) (c : Option Nat) (n j : Nat) : Option Nat := if pulOk v A c n then finP (pullS v A c 0 n) (pullS v A c 1 n) (pullS v A c 2 n) (pullS v A c j n) else some 0

theorem pulV_t {v A : Nat → Option Nat} {c : Option Nat} {n : Nat} (h : pulOk v A c n = true) (j : Nat) : pulV v A c n j = finP (pullS v A c 0 n) (pullS v A c 1 n) (pullS v A c 2 n) (pullS v A c j n) := by simp [pulV, h]
theorem pulV_f {v A : Nat → Option Nat} {c : Option Nat} {n : Nat} (h : pulOk v A c n = false) (j : Nat) : pulV v A c n j = some 0 := by simp [pulV, h]
theorem pulF_t {v A : Nat → Option Nat} {c : Option Nat} {n : Nat} (h : pulOk v A c n = true) : pulF v A c n = finV (pullS v A c 0 n) (pullS v A c 1 n) (pullS v A c 2 n) := by simp [pulF, h]
theorem pulF_f {v A : Nat → Option Nat} {c : Option Nat} {n : Nat} (h : pulOk v A c n = false) : pulF v A c n = false := by simp [pulF, h]

/-- What three stores into a block of three leave. -/
theorem set3v {X : World} {R u0 u1 u2 : Nat} (h : Has R 3 X) : (((X.setCell ⟨R, 0, none⟩ (.float .f32 u0)).setCell ⟨R, 1, none⟩ (.float .f32 u1)).setCell ⟨R, 2, none⟩ (.float .f32 u2)).cell? ⟨R, 0, none⟩ = some (.float .f32 u0) ∧ (((X.setCell ⟨R, 0, none⟩ (.float .f32 u0)).setCell ⟨R, 1, none⟩ (.float .f32 u1)).setCell ⟨R, 2, none⟩ (.float .f32 u2)).cell? ⟨R, 1, none⟩ = some (.float .f32 u1) ∧ (((X.setCell ⟨R, 0, none⟩ (.float .f32 u0)).setCell ⟨R, 1, none⟩ (.float .f32 u1)).setCell ⟨R, 2, none⟩ (.float .f32 u2)).cell? ⟨R, 2, none⟩ = some (.float .f32 u2) := by
  have q0 := h.cell (o := 0) (by decide)
  have q1 := h.cell (o := 1) (by decide)
  have q2 := h.cell (o := 2) (by decide)
  refine ⟨?_, ?_, ?_⟩
  · rw [World.cell?_setCell_other _ _ _ _ (by simp), World.cell?_setCell_other _ _ _ _ (by simp), cell_set _ (by rw [q0]; rfl)]
  · rw [World.cell?_setCell_other _ _ _ _ (by simp), cell_set _ (by rw [World.cell?_setCell_other _ _ _ _ (by simp), q1]; rfl)]
  · rw [cell_set _ (by rw [World.cell?_setCell_other _ _ _ _ (by simp), World.cell?_setCell_other _ _ _ _ (by simp), q2]; rfl)]

set_option maxHeartbeats 3200000 in
theorem iPullAt (b off n cap : Nat) (f : Nat → Nat) (v A : Nat → Option Nat) (c : Option Nat) {p0 p1 p2 x : Nat} (w : World) (hn : n ≤ 1048576) (hb : b < w.heap.size) (hr : ∀ i, i < 7 * n → w.cell? ⟨b, off + i, none⟩ = some (.float .f32 (f i))) (hv : ∀ i, i < 7 * n → Is .f32 (f i) (v i)) (g0 : Is .f32 p0 (A 0)) (g1 : Is .f32 p1 (A 1)) (g2 : Is .f32 p2 (A 2)) (ic : Is .f32 x c) :
    Calls Try.prog 9 #[.slice (some ⟨b, off, none⟩) n cap, vecV p0 p1 p2, .float .f32 x] w (RetVB (pulV v A c n 0) (pulV v A c n 1) (pulV v A c n 2) (pulF v A c n) w) := by
  have HC : ∀ W, Below w.heap.size w W → Calls Try.prog 13 #[.slice (some ⟨b, off, none⟩) n cap] W fun e w' => e = .returned (.bool (areB v n)) ∧ Below W.heap.size W w' := fun W hW => iAre b off n cap f v W hn (Nat.lt_of_lt_of_le hb hW.size) (fun i hi => (hW.cell (p := ⟨b, _, none⟩) hb).trans (hr i hi)) hv
  have VF := fun W => iFinV g0 g1 g2 W
  have CL := fun W => iLeast ic W
  have HR := Lib.hid hr
  have HV := Lib.hid hv
  clear hr hv
  cases hA : areB v n with
  | false =>
    have hok : pulOk v A c n = false := by simp [pulOk, hA] 
    rw [pulV_f hok, pulV_f hok, pulV_f hok, pulF_f hok]
    clear hok
    rw [hA] at HC
    have hst := run_store_float Try.prog
    go_enter Try.func9, Try.ntmps9
    go_wp2_with fail
    (go_at_call 13; refine (HC _ (by repeat' (first | with_reducible exact Below.refl _ _ | with_reducible assumption | (with_reducible refine Below.setCell ?_ (by first | omega | (simp; done) | (simp; omega)) _) | (with_reducible refine Below.alloc ?_ (by first | omega | (simp; done) | (simp; omega)) _) | (with_reducible refine below_drewN ?_ _) | (with_reducible refine Below.drew ?_) | (with_reducible refine Below.trans ?_ (Below.mono (by first | (with_reducible assumption) | exact Grow.below (by assumption)) (by first | omega | (simp; done) | (simp; omega))))))).mono ?_; rintro _ W1 ⟨rfl, b1⟩)
    have hR1 : Has (w.heap.size + 1) 3 W1 := Has.at (by simpa using has_alloc3 (w.alloc (Obj.cells #[.float .f32 p0, .float .f32 p1, .float .f32 p2] 27)) (.float .f32 0) (.float .f32 0) (.float .f32 0) 27) b1
    have bA : Below w.heap.size w W1 := by
      refine Below.trans ?_ (b1.mono (by simp; omega))
      repeat' (first | with_reducible exact Below.refl _ _ | with_reducible assumption | (with_reducible refine Below.setCell ?_ (by first | omega | (simp; done) | (simp; omega)) _) | (with_reducible refine Below.alloc ?_ (by first | omega | (simp; done) | (simp; omega)) _) | (with_reducible refine below_drewN ?_ _) | (with_reducible refine Below.drew ?_) | (with_reducible refine Below.trans ?_ (Below.mono (by first | (with_reducible assumption) | exact Grow.below (by assumption)) (by first | omega | (simp; done) | (simp; omega)))))
    have y0 := hR1.cell (o := 0) (by decide)
    have y1 := hR1.cell (o := 1) (by decide)
    have y2 := hR1.cell (o := 2) (by decide)
    have yf := hR1.frz
    obtain ⟨v0, v1, v2⟩ := set3v (u0 := 0) (u1 := 0) (u2 := 0) hR1
    go_wp2_with fail
    refine bodyPost_ret (v := .tuple #[vecV 0 0 0, .bool false]) (by simp [results, Try.results9, go_sem, v0, v1, v2]) rfl ⟨⟨_, _, _, rfl, zeroW, zeroW, zeroW⟩, ?_⟩
    exact (((bA).setCell (by simp) _).setCell (by simp) _).setCell (by simp) _
  | true =>
    cases hF : finV (A 0) (A 1) (A 2) with
    | false =>
      have hok : pulOk v A c n = false := by simp [pulOk, hF] 
      rw [pulV_f hok, pulV_f hok, pulV_f hok, pulF_f hok]
      clear hok
      rw [hA] at HC
      rw [hF] at VF
      have hst := run_store_float Try.prog
      go_enter Try.func9, Try.ntmps9
      go_wp2_with fail
      (go_at_call 13; refine (HC _ (by repeat' (first | with_reducible exact Below.refl _ _ | with_reducible assumption | (with_reducible refine Below.setCell ?_ (by first | omega | (simp; done) | (simp; omega)) _) | (with_reducible refine Below.alloc ?_ (by first | omega | (simp; done) | (simp; omega)) _) | (with_reducible refine below_drewN ?_ _) | (with_reducible refine Below.drew ?_) | (with_reducible refine Below.trans ?_ (Below.mono (by first | (with_reducible assumption) | exact Grow.below (by assumption)) (by first | omega | (simp; done) | (simp; omega))))))).mono ?_; rintro _ W1 ⟨rfl, b1⟩)
      have hR1 : Has (w.heap.size + 1) 3 W1 := Has.at (by simpa using has_alloc3 (w.alloc (Obj.cells #[.float .f32 p0, .float .f32 p1, .float .f32 p2] 27)) (.float .f32 0) (.float .f32 0) (.float .f32 0) 27) b1
      have bA : Below w.heap.size w W1 := by
        refine Below.trans ?_ (b1.mono (by simp; omega))
        repeat' (first | with_reducible exact Below.refl _ _ | with_reducible assumption | (with_reducible refine Below.setCell ?_ (by first | omega | (simp; done) | (simp; omega)) _) | (with_reducible refine Below.alloc ?_ (by first | omega | (simp; done) | (simp; omega)) _) | (with_reducible refine below_drewN ?_ _) | (with_reducible refine Below.drew ?_) | (with_reducible refine Below.trans ?_ (Below.mono (by first | (with_reducible assumption) | exact Grow.below (by assumption)) (by first | omega | (simp; done) | (simp; omega)))))
      obtain ⟨hc1, hf1⟩ := bcell b1
      have hz1 := b1.size
      simp at hz1
      have hl1 : w.heap.size < W1.heap.size := by omega
      have a0 : W1.cell? ⟨w.heap.size, 0, none⟩ = some (.float .f32 p0) := by rw [hc1 _ _ (by simp; omega), World.cell?_alloc_lt _ _ _ (by simp)]; simp
      have a1 : W1.cell? ⟨w.heap.size, 1, none⟩ = some (.float .f32 p1) := by rw [hc1 _ _ (by simp; omega), World.cell?_alloc_lt _ _ _ (by simp)]; simp
      have a2 : W1.cell? ⟨w.heap.size, 2, none⟩ = some (.float .f32 p2) := by rw [hc1 _ _ (by simp; omega), World.cell?_alloc_lt _ _ _ (by simp)]; simp
      go_wp2_with fail
      (go_at_call 20; refine (VF _).mono ?_; rintro _ W2 ⟨rfl, b2⟩)
      have hR2 : Has (w.heap.size + 1) 3 W2 := hR1.at b2.1
      have y0 := hR2.cell (o := 0) (by decide)
      have y1 := hR2.cell (o := 1) (by decide)
      have y2 := hR2.cell (o := 2) (by decide)
      have yf := hR2.frz
      obtain ⟨v0, v1, v2⟩ := set3v (u0 := 0) (u1 := 0) (u2 := 0) hR2
      go_wp2_with fail
      refine bodyPost_ret (v := .tuple #[vecV 0 0 0, .bool false]) (by simp [results, Try.results9, go_sem, v0, v1, v2]) rfl ⟨⟨_, _, _, rfl, zeroW, zeroW, zeroW⟩, ?_⟩
      exact (((bA.trans (b2.1.mono bA.size)).setCell (by simp) _).setCell (by simp) _).setCell (by simp) _
    | true =>
      cases hc : leastB c with
      | false =>
        have hok : pulOk v A c n = false := by simp [pulOk, hc] 
        rw [pulV_f hok, pulV_f hok, pulV_f hok, pulF_f hok]
        clear hok
        rw [hA] at HC
        rw [hF] at VF
        rw [hc] at CL
        have hst := run_store_float Try.prog
        go_enter Try.func9, Try.ntmps9
        go_wp2_with fail
        (go_at_call 13; refine (HC _ (by repeat' (first | with_reducible exact Below.refl _ _ | with_reducible assumption | (with_reducible refine Below.setCell ?_ (by first | omega | (simp; done) | (simp; omega)) _) | (with_reducible refine Below.alloc ?_ (by first | omega | (simp; done) | (simp; omega)) _) | (with_reducible refine below_drewN ?_ _) | (with_reducible refine Below.drew ?_) | (with_reducible refine Below.trans ?_ (Below.mono (by first | (with_reducible assumption) | exact Grow.below (by assumption)) (by first | omega | (simp; done) | (simp; omega))))))).mono ?_; rintro _ W1 ⟨rfl, b1⟩)
        have hR1 : Has (w.heap.size + 1) 3 W1 := Has.at (by simpa using has_alloc3 (w.alloc (Obj.cells #[.float .f32 p0, .float .f32 p1, .float .f32 p2] 27)) (.float .f32 0) (.float .f32 0) (.float .f32 0) 27) b1
        have bA : Below w.heap.size w W1 := by
          refine Below.trans ?_ (b1.mono (by simp; omega))
          repeat' (first | with_reducible exact Below.refl _ _ | with_reducible assumption | (with_reducible refine Below.setCell ?_ (by first | omega | (simp; done) | (simp; omega)) _) | (with_reducible refine Below.alloc ?_ (by first | omega | (simp; done) | (simp; omega)) _) | (with_reducible refine below_drewN ?_ _) | (with_reducible refine Below.drew ?_) | (with_reducible refine Below.trans ?_ (Below.mono (by first | (with_reducible assumption) | exact Grow.below (by assumption)) (by first | omega | (simp; done) | (simp; omega)))))
        obtain ⟨hc1, hf1⟩ := bcell b1
        have hz1 := b1.size
        simp at hz1
        have hl1 : w.heap.size < W1.heap.size := by omega
        have a0 : W1.cell? ⟨w.heap.size, 0, none⟩ = some (.float .f32 p0) := by rw [hc1 _ _ (by simp; omega), World.cell?_alloc_lt _ _ _ (by simp)]; simp
        have a1 : W1.cell? ⟨w.heap.size, 1, none⟩ = some (.float .f32 p1) := by rw [hc1 _ _ (by simp; omega), World.cell?_alloc_lt _ _ _ (by simp)]; simp
        have a2 : W1.cell? ⟨w.heap.size, 2, none⟩ = some (.float .f32 p2) := by rw [hc1 _ _ (by simp; omega), World.cell?_alloc_lt _ _ _ (by simp)]; simp
        go_wp2_with fail
        (go_at_call 20; refine (VF _).mono ?_; rintro _ W2 ⟨rfl, b2⟩)
        obtain ⟨hc2, hf2⟩ := bcell b2.1
        have hz2 := b2.below.size
        have hR2 : Has (w.heap.size + 1) 3 W2 := hR1.at b2.1
        go_wp2_with fail
        (go_at_call 21; refine (CL _).mono ?_; rintro _ W3 ⟨n3, rfl, rfl⟩)
        have hR3 := hR2.drewN n3
        have y0 := hR3.cell (o := 0) (by decide)
        have y1 := hR3.cell (o := 1) (by decide)
        have y2 := hR3.cell (o := 2) (by decide)
        have yf := hR3.frz
        obtain ⟨v0, v1, v2⟩ := set3v (u0 := 0) (u1 := 0) (u2 := 0) hR3
        go_wp2_with fail
        refine bodyPost_ret (v := .tuple #[vecV 0 0 0, .bool false]) (by simp [results, Try.results9, go_sem, v0, v1, v2]) rfl ⟨⟨_, _, _, rfl, zeroW, zeroW, zeroW⟩, ?_⟩
        exact (((below_drewN (bA.trans (b2.1.mono bA.size)) n3).setCell (by simp) _).setCell (by simp) _).setCell (by simp) _
      | true =>
        have HA := Lib.hid hA
        have HFF := Lib.hid hF
        have HCC := Lib.hid hc
        have hok : pulOk v A c n = true := by simp [pulOk, hA, hF, hc]
        rw [pulV_t hok, pulV_t hok, pulV_t hok, pulF_t hok]
        clear hok
        rw [hA] at HC
        rw [hF] at VF
        rw [hc] at CL
        have hst := run_store_float Try.prog
        go_enter Try.func9, Try.ntmps9
        go_wp2_with fail
        (go_at_call 13; refine (HC _ (by repeat' (first | with_reducible exact Below.refl _ _ | with_reducible assumption | (with_reducible refine Below.setCell ?_ (by first | omega | (simp; done) | (simp; omega)) _) | (with_reducible refine Below.alloc ?_ (by first | omega | (simp; done) | (simp; omega)) _) | (with_reducible refine below_drewN ?_ _) | (with_reducible refine Below.drew ?_) | (with_reducible refine Below.trans ?_ (Below.mono (by first | (with_reducible assumption) | exact Grow.below (by assumption)) (by first | omega | (simp; done) | (simp; omega))))))).mono ?_; rintro _ W1 ⟨rfl, b1⟩)
        obtain ⟨hc1, hf1⟩ := bcell b1
        have hz1 := b1.size
        simp at hz1
        have hl1 : w.heap.size < W1.heap.size := by omega
        have a0 : W1.cell? ⟨w.heap.size, 0, none⟩ = some (.float .f32 p0) := by rw [hc1 _ _ (by simp; omega), World.cell?_alloc_lt _ _ _ (by simp)]; simp
        have a1 : W1.cell? ⟨w.heap.size, 1, none⟩ = some (.float .f32 p1) := by rw [hc1 _ _ (by simp; omega), World.cell?_alloc_lt _ _ _ (by simp)]; simp
        have a2 : W1.cell? ⟨w.heap.size, 2, none⟩ = some (.float .f32 p2) := by rw [hc1 _ _ (by simp; omega), World.cell?_alloc_lt _ _ _ (by simp)]; simp
        go_wp2_with fail
        (go_at_call 20; refine (VF _).mono ?_; rintro _ W2 ⟨rfl, b2⟩)
        obtain ⟨hc2, hf2⟩ := bcell b2.1
        have hz2 := b2.below.size
        go_wp2_with fail
        (go_at_call 21; refine (CL _).mono ?_; rintro _ W3 ⟨n3, rfl, rfl⟩)
        go_wp2_with fail
        (go_at_call 24; refine (iPullsTo _).mono ?_; rintro _ W4 ⟨rfl, b4, s4, q0, q1, q2, q3⟩)
        go_wp2_with fail
        have bA : Below w.heap.size w W1 := by
          refine Below.trans ?_ (b1.mono (by simp; omega))
          repeat' (first | with_reducible exact Below.refl _ _ | with_reducible assumption | (with_reducible refine Below.setCell ?_ (by first | omega | (simp; done) | (simp; omega)) _) | (with_reducible refine Below.alloc ?_ (by first | omega | (simp; done) | (simp; omega)) _) | (with_reducible refine below_drewN ?_ _) | (with_reducible refine Below.drew ?_) | (with_reducible refine Below.trans ?_ (Below.mono (by first | (with_reducible assumption) | exact Grow.below (by assumption)) (by first | omega | (simp; done) | (simp; omega)))))
        have b24 : Below w.heap.size w W2 := bA.trans (b2.1.mono bA.size)
        have bW : Below w.heap.size w W4 := (below_drewN b24 n3).trans (b4.mono b24.size)
        have eF : Enters Try.prog 38 := enters_of Try.func38 (by kernel_rfl) rfl
        have h16 : n ≤ 16 := by
          have h := HA.out
          unfold areB at h
          simp only [Bool.and_eq_true, decide_eq_true_eq] at h
          exact h.1
        (go_at_call 23; refine (iSumC _ _ (pullI v A c 0) (pullI v A c 1) (pullI v A c 2) b off n cap f W4 h16 (Nat.lt_of_lt_of_le hb bW.size) (fun i hi => (bW.cell (p := ⟨b, _, none⟩) hb).trans (HR.out i hi)) eF (fun k hk W hW => pullOne HA.out hk HV.out g0 g1 g2 HFF.out ic HCC.out _ _ W (Nat.lt_of_lt_of_le (by simp at s4 ⊢; omega) hW.size) (Nat.lt_of_lt_of_le (by simpa using s4) hW.size) (by rw [hW.cell (by simp at s4 ⊢; omega)]; exact q0) (by rw [hW.cell (by simp at s4 ⊢; omega)]; exact q1) (by rw [hW.cell (by simp at s4 ⊢; omega)]; exact q2) (by rw [hW.cell (by simpa using s4)]; exact q3))).mono ?_; rintro _ W5 ⟨⟨t0, t1, t2, rfl, j0, j1, j2⟩, b5⟩)
        rw [sumP_pull] at j0 j1 j2
        go_wp2_with fail
        (go_at_call 22; refine (iFinVec j0 j1 j2 _).mono ?_; rintro _ W6 ⟨⟨u0, u1, u2, rfl, i0, i1, i2⟩, b6⟩)
        have hR1 : Has (w.heap.size + 1) 3 W1 := Has.at (by simpa using has_alloc3 (w.alloc (Obj.cells #[.float .f32 p0, .float .f32 p1, .float .f32 p2] 27)) (.float .f32 0) (.float .f32 0) (.float .f32 0) 27) b1
        have hR6 : Has (w.heap.size + 1) 3 W6 := ((((hR1.at b2.1).drewN n3).at b4).at b5).at b6
        have y0 := hR6.cell (o := 0) (by decide)
        have y1 := hR6.cell (o := 1) (by decide)
        have y2 := hR6.cell (o := 2) (by decide)
        have yf := hR6.frz
        have bX : Below w.heap.size w W6 := bt (bt bW b5) b6
        obtain ⟨v0, v1, v2⟩ := set3v (u0 := u0) (u1 := u1) (u2 := u2) hR6
        go_wp2_with fail
        refine bodyPost_ret (v := .tuple #[vecV u0 u1 u2, .bool (finV (pullS v A c 0 n) (pullS v A c 1 n) (pullS v A c 2 n))]) (by simp [results, Try.results9, go_sem, v0, v1, v2]) rfl ⟨⟨_, _, _, rfl, i0, i1, i2⟩, ?_⟩
        exact ((bX.setCell (by simp) _).setCell (by simp) _).setCell (by simp) _
end Go.Proofs.Ytmljacpmmnngkaa
