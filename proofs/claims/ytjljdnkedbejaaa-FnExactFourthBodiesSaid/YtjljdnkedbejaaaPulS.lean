/-
  The pull at a place, of the model. No condition.
-/
import Derived.Test.YtjljdnkedbejaaaPulU
import Derived.Test.YtjljdnkedbejaaaOps
import Derived.Deep.RegionHeld3
namespace Go.Proofs.Ytjljdnkedbejaaa
open Go.RowKit

section
variable {f : Nat → Nat} {v : Nat → Option Nat} {n k : Nat}
/-- The words of a pull. -/
theorem pul_words {p0 p1 p2 x : Nat} {A : Nat → Option Nat} {c : Option Nat} (hA : areB v n = true) (hk : k < n) (hv : ∀ j, j < 7 * n → Is .f32 (f j) (v j)) (g0 : Is .f32 p0 (A 0)) (g1 : Is .f32 p1 (A 1)) (g2 : Is .f32 p2 (A 2)) (hF : finV (A 0) (A 1) (A 2) = true) (ic : Is .f32 x c) (hc : leastB c = true) :
    ∃ x0 x1 x2 rI rC rQ rR, (fo .sub .f32 (v (7 * k)) (A 0) = some x0 ∧ fo .sub .f32 (v (7 * k + 1)) (A 1) = some x1 ∧ fo .sub .f32 (v (7 * k + 2)) (A 2) = some x2) ∧ (Is .f32 x0 (some x0) ∧ Is .f32 x1 (some x1) ∧ Is .f32 x2 (some x2)) ∧
      innerO (some x0) (some x1) (some x2) (some x0) (some x1) (some x2) = some rI ∧ fo .mul .f32 (some x) (some x) = some rC ∧ fo .add .f32 (some rI) (some rC) = some rQ ∧ NN rQ ∧ pq v A c k = some rQ ∧ rootO (some rQ) = some rR ∧ NN rR ∧ ps v A c k = fo .quo .f32 (v (7 * k + 6)) (fo .mul .f32 (some rQ) (some rR)) ∧ Is .f32 x (some x) := by
  obtain ⟨b0, b1, b2, b3, b4, b5, b6⟩ := fin_at hA hk
  have K := fun j (hj : j < 7) => hv (7 * k + j) (by omega)
  unfold finV at hF
  simp only [Bool.and_eq_true] at hF
  obtain ⟨x0, e0, i0⟩ := sub_fin (K 0 (by decide)) g0 b0 hF.1.1
  obtain ⟨x1, e1, i1⟩ := sub_fin (K 1 (by decide)) g1 b1 hF.1.2
  obtain ⟨x2, e2, i2⟩ := sub_fin (K 2 (by decide)) g2 b2 hF.2
  rw [Nat.add_zero] at e0
  have hcf : finS c = true := by unfold leastB at hc; simp only [Bool.and_eq_true] at hc; exact hc.1
  obtain ⟨hcx, -⟩ := fin_num32 ic hcf
  obtain ⟨rI, eI, nI⟩ := inner_nn i0 i1 i2
  obtain ⟨rC, eC, nC⟩ := nn_sq (hcx ▸ ic)
  obtain ⟨rQ, eQ, nQ⟩ := nn_add nI nC
  obtain ⟨rR, eR, nR⟩ := nn_root nQ
  have hS : pq v A c k = some rQ := by unfold pq; rw [e0, e1, e2, eI, hcx, eC, eQ]
  refine ⟨x0, x1, x2, rI, rC, rQ, rR, ⟨e0, e1, e2⟩, ⟨i0, i1, i2⟩, eI, eC, eQ, nQ, hS, eR, nR, ?_, hcx ▸ ic⟩
  unfold ps
  rw [hS, eR]
end

theorem sumP_pull (v A : Nat → Option Nat) (c : Option Nat) (j : Nat) : ∀ k, sumP (pullI v A c j) k = pullS v A c j k := fun k => by
  rw [← (pull_same v A c j k).1]
  induction k with
  | zero => rfl
  | succ k ih => rw [sumP_succ, ih]; rfl

theorem iPullsTo {p0 p1 p2 x : Nat} (W : World) : Calls Try.prog 63 #[vecV p0 p1 p2, .float .f32 x] W fun e w' => e = .returned (.func (.func 67) #[] #[.pointer (some ⟨W.heap.size, 0, none⟩), .pointer (some ⟨W.heap.size + 1, 0, none⟩)]) ∧ Below W.heap.size W w' ∧ W.heap.size + 1 < w'.heap.size ∧
    w'.cell? ⟨W.heap.size, 0, none⟩ = some (.float .f32 p0) ∧ w'.cell? ⟨W.heap.size, 1, none⟩ = some (.float .f32 p1) ∧ w'.cell? ⟨W.heap.size, 2, none⟩ = some (.float .f32 p2) ∧ w'.cell? ⟨W.heap.size + 1, 0, none⟩ = some (.float .f32 x) := by
  have hst := run_store_float Try.prog
  go_enter Try.func63, Try.ntmps63
  go_wp2
  go_ret
  refine ⟨rfl, by repeat' (first | with_reducible exact Below.refl _ _ | with_reducible assumption | (with_reducible refine Below.setCell ?_ (by first | omega | (simp; done) | (simp; omega)) _) | (with_reducible refine Below.alloc ?_ (by first | omega | (simp; done) | (simp; omega)) _) | (with_reducible refine below_drewN ?_ _) | (with_reducible refine Below.drew ?_) | (with_reducible refine Below.trans ?_ (Below.mono (by first | (with_reducible assumption) | exact Grow.below (by assumption)) (by first | omega | (simp; done) | (simp; omega))))), by simp, ?_, ?_, ?_, ?_⟩
  · rw [World.cell?_alloc_lt _ _ _ (by simp)]; simp
  · rw [World.cell?_alloc_lt _ _ _ (by simp)]; simp
  · rw [World.cell?_alloc_lt _ _ _ (by simp)]; simp
  · have e : W.heap.size + 1 = (W.alloc (Obj.cells #[.float .f32 p0, .float .f32 p1, .float .f32 p2] 40)).heap.size := by simp
    rw [e]; simp

theorem pullOne {f : Nat → Nat} {v A : Nat → Option Nat} {c : Option Nat} {n k p0 p1 p2 x : Nat} (hA : areB v n = true) (hk : k < n) (hv : ∀ j, j < 7 * n → Is .f32 (f j) (v j)) (g0 : Is .f32 p0 (A 0)) (g1 : Is .f32 p1 (A 1)) (g2 : Is .f32 p2 (A 2)) (hF : finV (A 0) (A 1) (A 2) = true) (ic : Is .f32 x c) (hc : leastB c = true) (ba bc : Nat) (W : World) (hba : ba < W.heap.size) (hbc : bc < W.heap.size)
    (k0 : W.cell? ⟨ba, 0, none⟩ = some (.float .f32 p0)) (k1 : W.cell? ⟨ba, 1, none⟩ = some (.float .f32 p1)) (k2 : W.cell? ⟨ba, 2, none⟩ = some (.float .f32 p2)) (kc : W.cell? ⟨bc, 0, none⟩ = some (.float .f32 x)) :
    Calls Try.prog 67 (#[bodV (f (7 * k)) (f (7 * k + 1)) (f (7 * k + 2)) (f (7 * k + 3)) (f (7 * k + 4)) (f (7 * k + 5)) (f (7 * k + 6))] ++ #[.pointer (some ⟨ba, 0, none⟩), .pointer (some ⟨bc, 0, none⟩)]) W
      fun e w' => (∃ r0 r1 r2, e = .returned (vecV r0 r1 r2) ∧ Is .f32 r0 (pullI v A c 0 k) ∧ Is .f32 r1 (pullI v A c 1 k) ∧ Is .f32 r2 (pullI v A c 2 k)) ∧ Below W.heap.size W w' := by
  obtain ⟨x0, x1, x2, rI, rC, rQ, rR, ⟨e0, e1, e2⟩, ⟨i0, i1, i2⟩, eI, eC, eQ, nQ, eP, eR, nR, eS, ix⟩ := pul_words hA hk hv g0 g1 g2 hF ic hc
  have h := iPullOne ba bc (a3 := f (7 * k + 3)) (a4 := f (7 * k + 4)) (a5 := f (7 * k + 5)) W hba hbc k0 k1 k2 kc (hv (7 * k) (by omega)) (hv (7 * k + 1) (by omega)) (hv (7 * k + 2) (by omega)) (hv (7 * k + 6) (by omega)) g0 g1 g2 e0 e1 e2 i0 i1 i2 ix eI eC eQ nQ eR nR
  unfold pullI pullsB pullJ
  simp only [Nat.add_zero]
  rw [eP, eS, e0, e1, e2]
  exact h

theorem upon_arith {P : Program} {o : Oper} {a : Act} {K : Act → World → Prop} {Q : Exit → Act → World → Prop} {op : BinOp} {t : TypeId} {k : FloatKind} {x y : Nat} {va vb : Option Nat} {w : World} (hop : Arith op) (ix : Is k x va) (iy : Is k y vb)
    (h : ∀ r n, Is k r (fo op k va vb) → K (a.put o.dst (.float k r)) (w.drewN n)) :
    Oper.upon P o a K Q (((binOp op t (.float k x) (.float k y)).run P w).andThen fun v w' => .ok (.value v) w') := by
  obtain ⟨r, n, hr, hi⟩ := run_arith P w hop t k x y ix iy
  rw [hr]
  exact h r n hi

theorem sInner3 {a0 a1 a2 rI : Nat} {x0 x1 x2 : Option Nat} (h0 : Is .f32 a0 x0) (h1 : Is .f32 a1 x1) (h2 : Is .f32 a2 x2) (e : innerO x0 x1 x2 x0 x1 x2 = some rI) (W : World) :
    Calls Try.prog 58 #[vecV a0 a1 a2, vecV a0 a1 a2] W fun e w' => e = .returned (.float .f32 rI) ∧ Below W.heap.size W w' := by
  refine (sInner h0 h1 h2 h0 h1 h2 W).mono ?_
  rintro _ w' ⟨r, rfl, h, hg⟩
  rw [e] at h
  obtain rfl := h.notNaN
  exact ⟨rfl, hg.below⟩
theorem sLess3 {a0 a1 a2 b0 b1 b2 x0 x1 x2 : Nat} {u0 u1 u2 w0 w1 w2 : Option Nat} (h0 : Is .f32 a0 u0) (h1 : Is .f32 a1 u1) (h2 : Is .f32 a2 u2) (g0 : Is .f32 b0 w0) (g1 : Is .f32 b1 w1) (g2 : Is .f32 b2 w2) (e0 : fo .sub .f32 u0 w0 = some x0) (e1 : fo .sub .f32 u1 w1 = some x1) (e2 : fo .sub .f32 u2 w2 = some x2) (W : World) :
    Calls Try.prog 57 #[vecV a0 a1 a2, vecV b0 b1 b2] W fun e w' => e = .returned (vecV x0 x1 x2) ∧ Below W.heap.size W w' := by
  refine (sLess h0 h1 h2 g0 g1 g2 W).mono ?_
  rintro _ w' ⟨r0, r1, r2, rfl, k0, k1, k2, hg⟩
  rw [e0] at k0
  rw [e1] at k1
  rw [e2] at k2
  obtain rfl := k0.notNaN
  obtain rfl := k1.notNaN
  obtain rfl := k2.notNaN
  exact ⟨rfl, hg.below⟩
theorem sScale3 {a0 a1 a2 b : Nat} {x0 x1 x2 y : Option Nat} (h0 : Is .f32 a0 x0) (h1 : Is .f32 a1 x1) (h2 : Is .f32 a2 x2) (g : Is .f32 b y) (W : World) :
    Calls Try.prog 32 #[vecV a0 a1 a2, .float .f32 b] W fun e w' => (∃ r0 r1 r2, e = .returned (vecV r0 r1 r2) ∧ Is .f32 r0 (fo .mul .f32 x0 y) ∧ Is .f32 r1 (fo .mul .f32 x1 y) ∧ Is .f32 r2 (fo .mul .f32 x2 y)) ∧ Below W.heap.size W w' := by
  refine (sScale h0 h1 h2 g W).mono ?_
  rintro _ w' ⟨r0, r1, r2, rfl, k0, k1, k2, hg⟩
  exact ⟨⟨r0, r1, r2, rfl, k0, k1, k2⟩, hg.below⟩
theorem sAdd3 {a0 a1 a2 b0 b1 b2 : Nat} {x0 x1 x2 y0 y1 y2 : Option Nat} (h0 : Is .f32 a0 x0) (h1 : Is .f32 a1 x1) (h2 : Is .f32 a2 x2) (g0 : Is .f32 b0 y0) (g1 : Is .f32 b1 y1) (g2 : Is .f32 b2 y2) (W : World) :
    Calls Try.prog 31 #[vecV a0 a1 a2, vecV b0 b1 b2] W fun e w' => (∃ r0 r1 r2, e = .returned (vecV r0 r1 r2) ∧ Is .f32 r0 (fo .add .f32 x0 y0) ∧ Is .f32 r1 (fo .add .f32 x1 y1) ∧ Is .f32 r2 (fo .add .f32 x2 y2)) ∧ Below W.heap.size W w' := by
  refine (sAdd h0 h1 h2 g0 g1 g2 W).mono ?_
  rintro _ w' ⟨r0, r1, r2, rfl, k0, k1, k2, hg⟩
  exact ⟨⟨r0, r1, r2, rfl, k0, k1, k2⟩, hg.below⟩
theorem sRoot3 {x r : Nat} {v : Option Nat} (ix : Is .f32 x v) (e : rootO v = some r) (W : World) : Calls Try.prog 59 #[.float .f32 x] W fun e w' => e = .returned (.float .f32 r) ∧ Below W.heap.size W w' := by
  refine (l01Sqrt_any ix W).mono ?_
  rintro _ w' ⟨q, n, rfl, h, rfl⟩
  rw [e] at h
  obtain rfl := h.notNaN
  exact ⟨rfl, below_drewN (Below.refl _ _) _⟩

/-- A vector was stored into a new block behind the world X; what was there is as it was. -/
def NewW (X : World) (u0 u1 u2 : Option Nat) (s : Value) (wx : World) : Prop := ∃ D r0 r1 r2, s = .pointer (some ⟨D, 0, none⟩) ∧ X.heap.size ≤ D ∧ wx.rowIs D 40 3 (w3 r0 r1 r2) ∧ Is .f32 r0 u0 ∧ Is .f32 r1 u1 ∧ Is .f32 r2 u2 ∧ Below X.heap.size X wx
theorem NewW.behind {X wq : World} {m r0 r1 r2 : Nat} {u0 u1 u2 : Option Nat} (h : Grow m X wq) (i0 : Is .f32 r0 u0) (i1 : Is .f32 r1 u1) (i2 : Is .f32 r2 u2) :
    NewW X u0 u1 u2 (.pointer (some ⟨wq.heap.size, 0, none⟩)) (wq.alloc (.cells #[.float .f32 r0, .float .f32 r1, .float .f32 r2] 40)) :=
  ⟨_, _, _, _, rfl, h.1.size, alloc3 wq r0 r1 r2 _, i0, i1, i2, h.1.alloc h.1.size _⟩
theorem NewW.ahead {X wq : World} {m r0 r1 r2 : Nat} {u0 u1 u2 : Option Nat} (h : Grow m (X.alloc (.cells #[.float .f32 0, .float .f32 0, .float .f32 0] 40)) wq) (i0 : Is .f32 r0 u0) (i1 : Is .f32 r1 u1) (i2 : Is .f32 r2 u2) :
    NewW X u0 u1 u2 (.pointer (some ⟨X.heap.size, 0, none⟩)) (((wq.setCell ⟨X.heap.size, 0, none⟩ (.float .f32 r0)).setCell ⟨X.heap.size, 1, none⟩ (.float .f32 r1)).setCell ⟨X.heap.size, 2, none⟩ (.float .f32 r2)) := by
  have hb := ((Below.refl X.heap.size X).alloc (Nat.le_refl _) (.cells #[.float .f32 0, .float .f32 0, .float .f32 0] 40)).trans (h.1.mono (by simp))
  exact ⟨_, _, _, _, rfl, Nat.le_refl _, set3 (rt (alloc3 X 0 0 0 _) h.1) r0 r1 r2, i0, i1, i2, ((hb.setCell (Nat.le_refl _) _).setCell (Nat.le_refl _) _).setCell (Nat.le_refl _) _⟩

/-- The sum of the first k bodies but one, as the model makes it. -/
def pullZ (sk : Int) (v A : Nat → Option Nat) (c : Option Nat) (j : Nat) : Nat → Option Nat
  | 0 => some 0
  | k + 1 => if (k : Int) = sk then pullZ sk v A c j k else if pullsB v A c k then fo .add .f32 (pullZ sk v A c j k) (pullJ v A c j k) else pullZ sk v A c j k
theorem pullZ_t {sk : Int} {v A : Nat → Option Nat} {c : Option Nat} {k : Nat} (hk : ¬ (k : Int) = sk) (h : pullsB v A c k = true) (j : Nat) : pullZ sk v A c j (k + 1) = fo .add .f32 (pullZ sk v A c j k) (pullJ v A c j k) := by simp [pullZ, h, hk]
theorem pullZ_f {sk : Int} {v A : Nat → Option Nat} {c : Option Nat} {k : Nat} (h : pullsB v A c k = false) (j : Nat) : pullZ sk v A c j (k + 1) = pullZ sk v A c j k := by simp [pullZ, h]
theorem pullZ_s {sk : Int} {v A : Nat → Option Nat} {c : Option Nat} {k : Nat} (h : (k : Int) = sk) (j : Nat) : pullZ sk v A c j (k + 1) = pullZ sk v A c j k := by simp [pullZ, h]
theorem pullZ_none (v A : Nat → Option Nat) (c : Option Nat) (j : Nat) : ∀ k, pullZ (-1) v A c j k = pullS v A c j k
  | 0 => rfl
  | k + 1 => by
    have h : ¬ (k : Int) = -1 := by omega
    simp only [pullZ, pullS, h, if_false, pullZ_none v A c j k]

set_option maxHeartbeats 6400000 in
theorem sPullZ (sk : Int) (b off n cap : Nat) (f : Nat → Nat) (v A : Nat → Option Nat) (c : Option Nat) {p0 p1 p2 x : Nat} (w : World) (hn : n ≤ 1048576) (hA : areB v n = true) (hF : finV (A 0) (A 1) (A 2) = true) (hc : leastB c = true) (hb : b < w.heap.size) (hr : ∀ i, i < 7 * n → w.cell? ⟨b, off + i, none⟩ = some (.float .f32 (f i))) (hv : ∀ i, i < 7 * n → Is .f32 (f i) (v i)) (g0 : Is .f32 p0 (A 0)) (g1 : Is .f32 p1 (A 1)) (g2 : Is .f32 p2 (A 2)) (ic : Is .f32 x c) :
    Calls Try.prog 52 #[.slice (some ⟨b, off, none⟩) n cap, .int .i64 sk, vecV p0 p1 p2, .float .f32 x] w fun e w' => (∃ r0 r1 r2, e = .returned (vecV r0 r1 r2) ∧ Is .f32 r0 (pullZ sk v A c 0 n) ∧ Is .f32 r1 (pullZ sk v A c 1 n) ∧ Is .f32 r2 (pullZ sk v A c 2 n)) ∧ Below w.heap.size w w' := by
  have HR := Lib.hid hr
  have HV := Lib.hid hv
  have HA := Lib.hid hA
  have HFF := Lib.hid hF
  have HCC := Lib.hid hc
  have hst := run_store_float Try.prog
  clear hr hv hA hF hc
  obtain ⟨P, hP⟩ : ∃ P, P = (w.alloc (.cells #[.float .f32 p0, .float .f32 p1, .float .f32 p2] 40)).alloc (.cells #[.float .f32 0, .float .f32 0, .float .f32 0] 40) := ⟨_, rfl⟩
  have hPs : P.heap.size = w.heap.size + 1 + 1 := by rw [hP]; simp
  have hPb : Below w.heap.size w P := by rw [hP]; exact ((Below.refl _ _).alloc (Nat.le_refl _) _).alloc (by simp) _
  have hPa : P.cell? ⟨w.heap.size, 0, none⟩ = some (.float .f32 p0) ∧ P.cell? ⟨w.heap.size, 1, none⟩ = some (.float .f32 p1) ∧ P.cell? ⟨w.heap.size, 2, none⟩ = some (.float .f32 p2) := by
    rw [hP]
    exact ⟨by rw [World.cell?_alloc_lt _ _ _ (by simp)]; simp, by rw [World.cell?_alloc_lt _ _ _ (by simp)]; simp, by rw [World.cell?_alloc_lt _ _ _ (by simp)]; simp⟩
  have hPh : Has (w.heap.size + 1) 3 P := by
    rw [hP]
    simpa using has_alloc3 (w.alloc (.cells #[.float .f32 p0, .float .f32 p1, .float .f32 p2] 40)) (.float .f32 0) (.float .f32 0) (.float .f32 0) 40
  have s0 : (P.alloc (.cells #[.float .f32 0, .float .f32 0, .float .f32 0] 40)).rowIs (w.heap.size + 1 + 1) 40 3 (w3 0 0 0) := by
    rw [← hPs]; exact alloc3 P 0 0 0 40
  have bP : Below (w.heap.size + 1 + 1) P (P.alloc (.cells #[.float .f32 0, .float .f32 0, .float .f32 0] 40)) := (Below.refl _ _).alloc (by omega) _
  rw [hP] at s0
  have bP' : Below (w.heap.size + 1 + 1) P (((w.alloc (.cells #[.float .f32 p0, .float .f32 p1, .float .f32 p2] 40)).alloc (.cells #[.float .f32 0, .float .f32 0, .float .f32 0] 40)).alloc (.cells #[.float .f32 0, .float .f32 0, .float .f32 0] 40)) := by rw [← hP]; exact bP
  clear hP bP
  have HL := Lib.hid (fun (k : Nat) (hk : k < n) (W : World) (h : Below (w.heap.size + 1 + 1) P W) => cells7 (fun i hi => (h.cell (p := ⟨b, off + i, none⟩) (show b < w.heap.size + 1 + 1 by omega)).trans ((hPb.cell (p := ⟨b, off + i, none⟩) hb).trans (HR.out i hi))) hk)
  have HT := Lib.hid (fun (W : World) (h : Below (w.heap.size + 1 + 1) P W) => (show W.cell? ⟨w.heap.size, 0, none⟩ = some (.float .f32 p0) ∧ W.cell? ⟨w.heap.size, 1, none⟩ = some (.float .f32 p1) ∧ W.cell? ⟨w.heap.size, 2, none⟩ = some (.float .f32 p2) from ⟨(h.cell (p := ⟨w.heap.size, 0, none⟩) (show w.heap.size < w.heap.size + 1 + 1 by omega)).trans hPa.1, (h.cell (p := ⟨w.heap.size, 1, none⟩) (show w.heap.size < w.heap.size + 1 + 1 by omega)).trans hPa.2.1, (h.cell (p := ⟨w.heap.size, 2, none⟩) (show w.heap.size < w.heap.size + 1 + 1 by omega)).trans hPa.2.2⟩))
  clear hPa
  go_enter Try.func52, Try.ntmps52
  go_wp2
  go_loopw [10] (fun i wr => ∃ k s0 s1 s2 : Nat, k ≤ n ∧ i = .int .i64 k ∧ wr.rowIs (w.heap.size + 1 + 1) 40 3 (w3 s0 s1 s2) ∧ Is .f32 s0 (pullZ sk v A c 0 k) ∧ Is .f32 s1 (pullZ sk v A c 1 k) ∧ Is .f32 s2 (pullZ sk v A c 2 k) ∧ Below (w.heap.size + 1 + 1) P wr) (fun i _ => n - (intOf i).toNat)
  case atStart => exact ⟨0, 0, 0, 0, Nat.zero_le _, rfl, s0, is_lit32 0 (by decide), is_lit32 0 (by decide), is_lit32 0 (by decide), bP'⟩
  case round =>
    clear s0 bP'
    obtain ⟨k, s0, s1, s2, hk, rfl, hrow, j0, j1, j2, hbel⟩ := hrel
    by_cases hlt : k < n
    · have hS := hbel.size
      rw [hPs] at hS
      obtain ⟨x0, x1, x2, rI, rC, rQ, rR, ⟨e0, e1, e2⟩, ⟨i0, i1, i2⟩, eI, eC, eQ, nQ, eP, eR, nR, eS, ixx⟩ := pul_words HA.out hlt HV.out g0 g1 g2 HFF.out ic HCC.out
      have LS := fun W => sLess (HV.out (7 * k) (by omega)) (HV.out (7 * k + 1) (by omega)) (HV.out (7 * k + 2) (by omega)) g0 g1 g2 W
      rw [e0, e1, e2] at LS
      have IN := fun W => sInner3 i0 i1 i2 eI W
      have RT := fun W => sRoot3 (nn_is nQ) eR W
      have iQ := nn_is nQ
      have iR := nn_is nR
      have AC := fun w => run_fo32 eC 23 w
      have AQ := fun w => run_fo32 eQ 23 w
      have iM : Is .f32 (f (7 * k + 6)) (v (7 * k + 6)) := HV.out _ (by omega)
      have hb2 : pullsB v A c k = cmpB .gtr .f32 (some rQ) (some 0) := by unfold pullsB; rw [eP]
      have hJ : ∀ j, pullJ v A c j k = fo .mul .f32 (fo .sub .f32 (v (7 * k + j)) (A j)) (fo .quo .f32 (v (7 * k + 6)) (fo .mul .f32 (some rQ) (some rR))) := fun j => by unfold pullJ; rw [eS]
      have hJ0 := hJ 0
      have hJ1 := hJ 1
      have hJ2 := hJ 2
      rw [Nat.add_zero, e0] at hJ0
      rw [e1] at hJ1
      rw [e2] at hJ2
      have HJ := Lib.hid (And.intro hJ0 (And.intro hJ1 hJ2))
      have HB2 := Lib.hid hb2
      have HROW := Lib.hid hrow
      obtain ⟨X, rfl⟩ : ∃ X, X = wr := ⟨wr, rfl⟩
      obtain ⟨c0, c1, c2, c3, c4, c5, c6⟩ := HL.out k hlt X hbel
      obtain ⟨t0, t1, t2⟩ := HT.out X hbel
      have hlt' : (k : Int) < n := by omega
      have hb1 : b < X.heap.size := by omega
      have hs1 : w.heap.size < X.heap.size := by omega
      clear hrow hJ hJ0 hJ1 hJ2 hb2 e0 e1 e2 eI eC eQ nQ eP eR nR eS
      go_wp2_with fail
      go_cut [11] (fun s10 wx => NewW X (some x0) (some x1) (some x2) s10 wx)
      case first =>
        go_region_with (go_at_call 57; refine (LS _).mono ?_; rintro eq wq ⟨rq0, rq1, rq2, rfl, hq0, hq1, hq2, hb⟩; obtain ⟨hc, hf⟩ := bcell hb.1; have hl : X.heap.size < wq.heap.size := (by have := hb.2; (try simp at this); omega); have HZ := Lib.hid hb; clear hb)
        all_goals
          go_wp2_with fail
          go_meet
          first | with_reducible exact NewW.behind (growD HZ.out) hq0 hq1 hq2 | with_reducible exact NewW.ahead (growD HZ.out) hq0 hq1 hq2
      case rest =>
        clear c0 c1 c2 c3 c4 c5 c6 t0 t1 t2
        obtain ⟨E, y0, y1, y2, rfl, hXE, hE, m0, m1, m2, bE⟩ := hcut
        obtain rfl := m0.notNaN
        obtain rfl := m1.notNaN
        obtain rfl := m2.notNaN
        obtain ⟨Z, rfl⟩ : ∃ Z, Z = wc := ⟨wc, rfl⟩
        have bZ : Below (w.heap.size + 1 + 1) P Z := hbel.trans (bE.mono hS)
        have hZ := bZ.size
        rw [hPs] at hZ
        have HRZ := Lib.hid (rt HROW.out bE)
        have hRZ : w.heap.size + 1 + 1 < Z.heap.size := HRZ.out.lt
        obtain ⟨q0, q1, q2⟩ := row3 hE
        have sE : E < Z.heap.size := hE.lt
        have hER : w.heap.size + 1 + 1 ≠ E := by have := HROW.out.lt; omega
        clear LS m0 m1 m2 hE bE hbel hS HROW
        by_cases hsk : (k : Int) = sk
        · have HF0 := Lib.hid (fun j => pullZ_s (v := v) (A := A) (c := c) hsk j)
          have hskB : ((k : Int) == sk) = true := by simp [hsk]
          clear hsk
          go_wp2_with fail
          (go_at_call 58; refine (IN _).mono ?_; rintro _ W1 ⟨rfl, g3⟩)
          have bW : Below (w.heap.size + 1 + 1) P W1 := bZ.trans (g3.mono hZ)
          go_wp2_with (apply wpList_cmp; rfl; simp [Cmp]; rfl; rfl; (first | assumption | exact is_lit64 _ (by decide) | exact is_lit32 _ (by decide)); (first | assumption | exact is_lit64 _ (by decide) | exact is_lit32 _ (by decide)); intro Kq hKq; go_simp)
          go_roundw
          case rel => exact ⟨k + 1, s0, s1, s2, by omega, by go_num, rt HRZ.out g3, by rw [HF0.out]; exact j0, by rw [HF0.out]; exact j1, by rw [HF0.out]; exact j2, bW⟩
          case measure => simp [intOf]; omega
        have hskB : ((k : Int) == sk) = false := by simp [hsk]
        have HSK := Lib.hid hsk
        clear hsk
        cases cG : cmpB .gtr .f32 (some rQ) (some 0) with
        | false =>
          have hbF : pullsB v A c k = false := HB2.out.trans cG
          have HF0 := Lib.hid (fun j => pullZ_f (sk := sk) hbF j)
          clear hbF
          go_wp2_with fail
          (go_at_call 58; refine (IN _).mono ?_; rintro _ W1 ⟨rfl, g3⟩)
          have bW : Below (w.heap.size + 1 + 1) P W1 := bZ.trans (g3.mono hZ)
          go_wp2_with (apply wpList_cmp; rfl; simp [Cmp]; rfl; rfl; (first | assumption | exact is_lit64 _ (by decide) | exact is_lit32 _ (by decide)); (first | assumption | exact is_lit64 _ (by decide) | exact is_lit32 _ (by decide)); intro Kq hKq; go_simp)
          go_roundw
          case rel => exact ⟨k + 1, s0, s1, s2, by omega, by go_num, rt HRZ.out g3, by rw [HF0.out]; exact j0, by rw [HF0.out]; exact j1, by rw [HF0.out]; exact j2, bW⟩
          case measure => simp [intOf]; omega
        | true =>
          have hbT : pullsB v A c k = true := HB2.out.trans cG
          have HT0 := Lib.hid (fun j => pullZ_t HSK.out hbT j)
          clear hbT
          go_wp2_with fail
          (go_at_call 58; refine (IN _).mono ?_; rintro _ W1 ⟨rfl, g3⟩)
          have bW : Below (w.heap.size + 1 + 1) P W1 := bZ.trans (g3.mono hZ)
          go_wp2_with (apply wpList_cmp; rfl; simp [Cmp]; rfl; rfl; (first | assumption | exact is_lit64 _ (by decide) | exact is_lit32 _ (by decide)); (first | assumption | exact is_lit64 _ (by decide) | exact is_lit32 _ (by decide)); intro Kq hKq; go_simp)
          obtain ⟨u0, u1, u2⟩ := row3 (rt HRZ.out g3)
          have ue0 := (g3.cell (p := ⟨E, 0, none⟩) sE).trans q0
          have ue1 := (g3.cell (p := ⟨E, 1, none⟩) sE).trans q1
          have ue2 := (g3.cell (p := ⟨E, 2, none⟩) sE).trans q2
          have hW := bW.size
          rw [hPs] at hW
          have sE1 : E < W1.heap.size := Nat.lt_of_lt_of_le sE g3.size
          have sR1 : w.heap.size + 1 + 1 ≤ W1.heap.size := by omega
          have HRC := Lib.hid (fun (W : World) (h : Below W1.heap.size W1 W) => row3 (rt (rt HRZ.out g3) h))
          have hH1 : Has (w.heap.size + 1 + 1) 3 W1 := by have h := rt HRZ.out g3; exact ⟨h.lt, fun o ho => by rw [h.cell ho]; rfl, h.frozen⟩
          have km : ∀ w', Below (w.heap.size + 1 + 1) W1 w' → w'.cell? ⟨b, off + k * 7 + 6, none⟩ = some (.float .f32 (f (7 * k + 6))) := fun w' h => (HL.out k hlt w' (bW.trans h)).2.2.2.2.2.2
          have bC : Below W1.heap.size W1 W1.drew := (Below.refl _ _).drew
          have HRW := Lib.hid (rt HRZ.out g3)
          clear q0 q1 q2 g3 u0 u1 u2 HL HT
          refine wp_region_held_drew (S := PulS W1 (w.heap.size + 1 + 1) E y0 y1 y2) (by kernel_rfl) ⟨(Below.refl _ _).drew, hH1.drew, ue0, ue1, ue2⟩ (fun hHeld => ?_)
          (refine wpTake (i := 1) (some 43) (v := ?_) rfl (by rfl) (by kernel_rfl) (by kernel_rfl) (by kernel_rfl) (fun _ _ _ h => h) (Or.inl ⟨by rfl, ?_⟩) hHeld ?_; rotate_left; (focus (intro wx hSw; obtain ⟨hSA, hSB, hS0, hS1, hS2⟩ := hSw; (try dsimp only); go_simp; (try with_reducible rfl))); (simp only [Act.put, List.setIfInBounds_toArray, List.set_cons_zero, List.set_cons_succ]))
          (refine wpTake (i := 2) (some 44) (v := ?_) rfl (by rfl) (by kernel_rfl) (by kernel_rfl) (by kernel_rfl) (fun _ _ _ h => h) (Or.inl ⟨by rfl, ?_⟩) hHeld ?_; rotate_left; (focus (intro wx hSw; obtain ⟨hSA, hSB, hS0, hS1, hS2⟩ := hSw; (try dsimp only); go_simp; (try with_reducible rfl))); (simp only [Act.put, List.setIfInBounds_toArray, List.set_cons_zero, List.set_cons_succ]))
          (refine wpTake (i := 3) (some 45) (v := ?_) rfl (by rfl) (by kernel_rfl) (by kernel_rfl) (by kernel_rfl) (fun _ _ _ h => h) (Or.inl ⟨by rfl, ?_⟩) hHeld ?_; rotate_left; (focus (intro wx hSw; obtain ⟨hSA, hSB, hS0, hS1, hS2⟩ := hSw; (try dsimp only); go_simp; (try with_reducible rfl))); (simp only [Act.put, List.setIfInBounds_toArray, List.set_cons_zero, List.set_cons_succ]))
          (refine wpTake (i := 4) (some 46) (v := ?_) rfl (by rfl) (by kernel_rfl) (by kernel_rfl) (by kernel_rfl) (fun _ _ _ h => h) (Or.inl ⟨by rfl, ?_⟩) hHeld ?_; rotate_left; (focus (intro wx hSw; obtain ⟨hSA, hSB, hS0, hS1, hS2⟩ := hSw; (try dsimp only); go_simp; (try with_reducible rfl))); (simp only [Act.put, List.setIfInBounds_toArray, List.set_cons_zero, List.set_cons_succ]))
          (refine wpTake (i := 5) (some 47) (v := ?_) rfl (by rfl) (by kernel_rfl) (by kernel_rfl) (by kernel_rfl) (fun _ _ _ h => h) (Or.inl ⟨by rfl, ?_⟩) hHeld ?_; rotate_left; (focus (intro wx hSw; obtain ⟨hSA, hSB, hS0, hS1, hS2⟩ := hSw; (try dsimp only); go_simp; (try with_reducible rfl))); (simp only [Act.put, List.setIfInBounds_toArray, List.set_cons_zero, List.set_cons_succ]))
          (refine wpTake (i := 6) (some 48) (v := ?_) rfl (by rfl) (by kernel_rfl) (by kernel_rfl) (by kernel_rfl) (fun _ _ _ h => h) (Or.inl ⟨by rfl, ?_⟩) hHeld ?_; rotate_left; (focus (intro wx hSw; obtain ⟨hSA, hSB, hS0, hS1, hS2⟩ := hSw; (try dsimp only); go_simp; (try with_reducible rfl))); (simp only [Act.put, List.setIfInBounds_toArray, List.set_cons_zero, List.set_cons_succ]))
          (refine wpTake (i := 7) (some 49) (v := ?_) rfl (by rfl) (by kernel_rfl) (by kernel_rfl) (by kernel_rfl) (fun _ _ _ h => h) (Or.inl ⟨by rfl, ?_⟩) hHeld ?_; rotate_left; (focus (intro wx hSw; obtain ⟨hSA, hSB, hS0, hS1, hS2⟩ := hSw; (try dsimp only); go_simp; (try with_reducible rfl))); (simp only [Act.put, List.setIfInBounds_toArray, List.set_cons_zero, List.set_cons_succ]))
          (refine wpTake (i := 8) (some 50) (v := ?_) rfl (by rfl) (by kernel_rfl) (by kernel_rfl) (by kernel_rfl) (fun _ _ _ h => h) (Or.inl ⟨by rfl, ?_⟩) hHeld ?_; rotate_left; (focus (intro wx hSw; obtain ⟨hSA, hSB, hS0, hS1, hS2⟩ := hSw; (try dsimp only); go_simp; (try with_reducible rfl))); (simp only [Act.put, List.setIfInBounds_toArray, List.set_cons_zero, List.set_cons_succ]))
          (refine wpAnyH_ready (rs := [0, 9]) (by kernel_rfl) (by simp) ?_; refine AllReadyH.cons rfl (fun K hK => ?_) (AllReadyH.cons rfl (fun K hK => ?_) AllReadyH.nil))
          · obtain ⟨rc0, rc1, rc2⟩ := HRC.out _ bC; have rd0 := rc0; have rd1 := rc1; have rd2 := rc2; (try simp at rd0); (try simp at rd1); (try simp at rd2)
            go_simp
            refine hK.out _ _ (by first | exact hHeld | (simpa using hHeld)) (fun hHeld => ?_)
            clear hK K rc0 rc1 rc2 rd0 rd1 rd2
            (try simp only [Act.put, List.setIfInBounds_toArray, List.set_cons_zero, List.set_cons_succ])
            (refine wpAnyH_ready (rs := [9]) (by kernel_rfl) (by simp) ?_; refine AllReadyH.cons rfl (fun K hK => ?_) AllReadyH.nil; go_simp)
            (go_at_call 59; (with_reducible refine (RT _).mono ?_); rintro eq wq ⟨rfl, hbs⟩)
            replace bC : Below W1.heap.size W1 wq := (by refine Below.trans ?_ (hbs.mono ?_); (first | exact bC | (simpa using bC)); (first | exact bC.size | (simpa using bC.size)))
            (go_wp2_with fail; refine hK.out _ _ (hHeld.at (by simpa using hbs) sE1 sR1) (fun hHeld => ?_); clear hK K; (try simp only [Act.put, List.setIfInBounds_toArray, List.set_cons_zero, List.set_cons_succ]))
            (apply wpTakeA (i := 10) (some 52); rfl; rfl; rfl; kernel_rfl; rfl; simp [Arith]; rfl; rfl; exact iQ; exact iR; exact hHeld.drewN; intro rq nq hq hHeld; (try simp only [Act.put, List.setIfInBounds_toArray, List.set_cons_zero, List.set_cons_succ]))
            have hq1 := hq
            replace bC := below_drewN bC nq
            (apply wpTakeA (i := 11) (some 53); rfl; rfl; rfl; kernel_rfl; rfl; simp [Arith]; rfl; rfl; exact iM; exact hq1; exact hHeld.drewN; intro rq nq hq hHeld; (try simp only [Act.put, List.setIfInBounds_toArray, List.set_cons_zero, List.set_cons_succ]))
            have hq2 := hq
            replace bC := below_drewN bC nq
            (refine wpAnyH_ready (rs := [12]) (by kernel_rfl) (by simp) ?_; refine AllReadyH.cons rfl (fun K hK => ?_) AllReadyH.nil; go_simp)
            (go_at_call 32; (with_reducible refine (sScale3 i0 i1 i2 hq2 _).mono ?_); rintro eq wq ⟨⟨r0, r1, r2, rfl, hr0, hr1, hr2⟩, hbs⟩)
            replace bC : Below W1.heap.size W1 wq := (by refine Below.trans ?_ (hbs.mono ?_); (first | exact bC | (simpa using bC)); (first | exact bC.size | (simpa using bC.size)))
            (go_wp2_with fail; refine hK.out _ _ (hHeld.at (by simpa using hbs) sE1 sR1) (fun hHeld => ?_); clear hK K; (try simp only [Act.put, List.setIfInBounds_toArray, List.set_cons_zero, List.set_cons_succ]))
            (refine wpAnyH_ready (rs := [13]) (by kernel_rfl) (by simp) ?_; refine AllReadyH.cons rfl (fun K hK => ?_) AllReadyH.nil; go_simp)
            (go_at_call 31; (with_reducible refine (sAdd3 j0 j1 j2 hr0 hr1 hr2 _).mono ?_); rintro eq wq ⟨⟨t0, t1, t2, rfl, ht0, ht1, ht2⟩, hbs⟩)
            replace bC : Below W1.heap.size W1 wq := (by refine Below.trans ?_ (hbs.mono ?_); (first | exact bC | (simpa using bC)); (first | exact bC.size | (simpa using bC.size)))
            (go_wp2_with fail; refine hK.out _ _ (hHeld.at (by simpa using hbs) sE1 sR1) (fun hHeld => ?_); clear hK K; (try simp only [Act.put, List.setIfInBounds_toArray, List.set_cons_zero, List.set_cons_succ]))
            have z0 := hHeld.2.1.cell (o := 0) (by decide)
            have z1 := hHeld.2.1.cell (o := 1) (by decide)
            have z2 := hHeld.2.1.cell (o := 2) (by decide)
            have zf := hHeld.2.1.frz
            (refine wpAnyH_ready (rs := [14]) (by kernel_rfl) (by simp) ?_; refine AllReadyH.cons rfl (fun K hK => ?_) AllReadyH.nil; go_simp)
            refine hK.out _ _ (((hHeld.set hER 0 _).set hER 1 _).set hER 2 _) (fun hHeld => ?_)
            clear hK K
            (try simp only [Act.put, List.setIfInBounds_toArray, List.set_cons_zero, List.set_cons_succ])
            (refine wpAnyH_done (by kernel_rfl) ?_ _)
            go_wp2_with fail
            go_roundw
            case rel => exact ⟨k + 1, t0, t1, t2, by omega, by go_num, set3 (rt HRW.out bC) t0 t1 t2, by rw [HT0.out, HJ.out.1]; exact ht0, by rw [HT0.out, HJ.out.2.1]; exact ht1, by rw [HT0.out, HJ.out.2.2]; exact ht2, (((bW.trans (bC.mono hW)).setCell (Nat.le_refl _) _).setCell (Nat.le_refl _) _).setCell (Nat.le_refl _) _⟩
            case measure => simp [intOf]; omega
          · go_simp
            (go_at_call 59; (with_reducible refine (RT _).mono ?_); rintro eq wq ⟨rfl, hbs⟩)
            replace bC : Below W1.heap.size W1 wq := (by refine Below.trans ?_ (hbs.mono ?_); (first | exact bC | (simpa using bC)); (first | exact bC.size | (simpa using bC.size)))
            (go_wp2_with fail; refine hK.out _ _ (hHeld.at (by simpa using hbs) sE1 sR1) (fun hHeld => ?_); clear hK K; (try simp only [Act.put, List.setIfInBounds_toArray, List.set_cons_zero, List.set_cons_succ]))
            (refine wpAnyH_ready (rs := [0, 10]) (by kernel_rfl) (by simp) ?_; refine AllReadyH.cons rfl (fun K hK => ?_) (AllReadyH.cons rfl (fun K hK => ?_) AllReadyH.nil))
            · obtain ⟨rc0, rc1, rc2⟩ := HRC.out _ bC; have rd0 := rc0; have rd1 := rc1; have rd2 := rc2; (try simp at rd0); (try simp at rd1); (try simp at rd2)
              go_simp
              refine hK.out _ _ (by first | exact hHeld | (simpa using hHeld)) (fun hHeld => ?_)
              clear hK K rc0 rc1 rc2 rd0 rd1 rd2
              (try simp only [Act.put, List.setIfInBounds_toArray, List.set_cons_zero, List.set_cons_succ])
              (apply wpTakeA (i := 10) (some 52); rfl; rfl; rfl; kernel_rfl; rfl; simp [Arith]; rfl; rfl; exact iQ; exact iR; exact hHeld.drewN; intro rq nq hq hHeld; (try simp only [Act.put, List.setIfInBounds_toArray, List.set_cons_zero, List.set_cons_succ]))
              have hq1 := hq
              replace bC := below_drewN bC nq
              (apply wpTakeA (i := 11) (some 53); rfl; rfl; rfl; kernel_rfl; rfl; simp [Arith]; rfl; rfl; exact iM; exact hq1; exact hHeld.drewN; intro rq nq hq hHeld; (try simp only [Act.put, List.setIfInBounds_toArray, List.set_cons_zero, List.set_cons_succ]))
              have hq2 := hq
              replace bC := below_drewN bC nq
              (refine wpAnyH_ready (rs := [12]) (by kernel_rfl) (by simp) ?_; refine AllReadyH.cons rfl (fun K hK => ?_) AllReadyH.nil; go_simp)
              (go_at_call 32; (with_reducible refine (sScale3 i0 i1 i2 hq2 _).mono ?_); rintro eq wq ⟨⟨r0, r1, r2, rfl, hr0, hr1, hr2⟩, hbs⟩)
              replace bC : Below W1.heap.size W1 wq := (by refine Below.trans ?_ (hbs.mono ?_); (first | exact bC | (simpa using bC)); (first | exact bC.size | (simpa using bC.size)))
              (go_wp2_with fail; refine hK.out _ _ (hHeld.at (by simpa using hbs) sE1 sR1) (fun hHeld => ?_); clear hK K; (try simp only [Act.put, List.setIfInBounds_toArray, List.set_cons_zero, List.set_cons_succ]))
              (refine wpAnyH_ready (rs := [13]) (by kernel_rfl) (by simp) ?_; refine AllReadyH.cons rfl (fun K hK => ?_) AllReadyH.nil; go_simp)
              (go_at_call 31; (with_reducible refine (sAdd3 j0 j1 j2 hr0 hr1 hr2 _).mono ?_); rintro eq wq ⟨⟨t0, t1, t2, rfl, ht0, ht1, ht2⟩, hbs⟩)
              replace bC : Below W1.heap.size W1 wq := (by refine Below.trans ?_ (hbs.mono ?_); (first | exact bC | (simpa using bC)); (first | exact bC.size | (simpa using bC.size)))
              (go_wp2_with fail; refine hK.out _ _ (hHeld.at (by simpa using hbs) sE1 sR1) (fun hHeld => ?_); clear hK K; (try simp only [Act.put, List.setIfInBounds_toArray, List.set_cons_zero, List.set_cons_succ]))
              have z0 := hHeld.2.1.cell (o := 0) (by decide)
              have z1 := hHeld.2.1.cell (o := 1) (by decide)
              have z2 := hHeld.2.1.cell (o := 2) (by decide)
              have zf := hHeld.2.1.frz
              (refine wpAnyH_ready (rs := [14]) (by kernel_rfl) (by simp) ?_; refine AllReadyH.cons rfl (fun K hK => ?_) AllReadyH.nil; go_simp)
              refine hK.out _ _ (((hHeld.set hER 0 _).set hER 1 _).set hER 2 _) (fun hHeld => ?_)
              clear hK K
              (try simp only [Act.put, List.setIfInBounds_toArray, List.set_cons_zero, List.set_cons_succ])
              (refine wpAnyH_done (by kernel_rfl) ?_ _)
              go_wp2_with fail
              go_roundw
              case rel => exact ⟨k + 1, t0, t1, t2, by omega, by go_num, set3 (rt HRW.out bC) t0 t1 t2, by rw [HT0.out, HJ.out.1]; exact ht0, by rw [HT0.out, HJ.out.2.1]; exact ht1, by rw [HT0.out, HJ.out.2.2]; exact ht2, (((bW.trans (bC.mono hW)).setCell (Nat.le_refl _) _).setCell (Nat.le_refl _) _).setCell (Nat.le_refl _) _⟩
              case measure => simp [intOf]; omega
            · go_simp
              (refine upon_arith (by simp [Arith]) (by first | assumption | exact is_lit64 _ (by decide) | exact is_lit32 _ (by decide)) (by first | assumption | exact is_lit64 _ (by decide) | exact is_lit32 _ (by decide)) ?_; intro rq nq hq; go_simp)
              refine hK.out _ _ (by first | exact hHeld.drewN _ | (simpa using hHeld.drewN _)) (fun hHeld => ?_)
              clear hK K
              (try simp only [Act.put, List.setIfInBounds_toArray, List.set_cons_zero, List.set_cons_succ])
              have hq1 := hq
              replace bC := below_drewN bC nq
              (refine wpAnyH_ready (rs := [0, 11]) (by kernel_rfl) (by simp) ?_; refine AllReadyH.cons rfl (fun K hK => ?_) (AllReadyH.cons rfl (fun K hK => ?_) AllReadyH.nil))
              · obtain ⟨rc0, rc1, rc2⟩ := HRC.out _ bC; have rd0 := rc0; have rd1 := rc1; have rd2 := rc2; (try simp at rd0); (try simp at rd1); (try simp at rd2)
                go_simp
                refine hK.out _ _ (by first | exact hHeld | (simpa using hHeld)) (fun hHeld => ?_)
                clear hK K rc0 rc1 rc2 rd0 rd1 rd2
                (try simp only [Act.put, List.setIfInBounds_toArray, List.set_cons_zero, List.set_cons_succ])
                (apply wpTakeA (i := 11) (some 53); rfl; rfl; rfl; kernel_rfl; rfl; simp [Arith]; rfl; rfl; exact iM; exact hq1; exact hHeld.drewN; intro rq nq hq hHeld; (try simp only [Act.put, List.setIfInBounds_toArray, List.set_cons_zero, List.set_cons_succ]))
                have hq2 := hq
                replace bC := below_drewN bC nq
                (refine wpAnyH_ready (rs := [12]) (by kernel_rfl) (by simp) ?_; refine AllReadyH.cons rfl (fun K hK => ?_) AllReadyH.nil; go_simp)
                (go_at_call 32; (with_reducible refine (sScale3 i0 i1 i2 hq2 _).mono ?_); rintro eq wq ⟨⟨r0, r1, r2, rfl, hr0, hr1, hr2⟩, hbs⟩)
                replace bC : Below W1.heap.size W1 wq := (by refine Below.trans ?_ (hbs.mono ?_); (first | exact bC | (simpa using bC)); (first | exact bC.size | (simpa using bC.size)))
                (go_wp2_with fail; refine hK.out _ _ (hHeld.at (by simpa using hbs) sE1 sR1) (fun hHeld => ?_); clear hK K; (try simp only [Act.put, List.setIfInBounds_toArray, List.set_cons_zero, List.set_cons_succ]))
                (refine wpAnyH_ready (rs := [13]) (by kernel_rfl) (by simp) ?_; refine AllReadyH.cons rfl (fun K hK => ?_) AllReadyH.nil; go_simp)
                (go_at_call 31; (with_reducible refine (sAdd3 j0 j1 j2 hr0 hr1 hr2 _).mono ?_); rintro eq wq ⟨⟨t0, t1, t2, rfl, ht0, ht1, ht2⟩, hbs⟩)
                replace bC : Below W1.heap.size W1 wq := (by refine Below.trans ?_ (hbs.mono ?_); (first | exact bC | (simpa using bC)); (first | exact bC.size | (simpa using bC.size)))
                (go_wp2_with fail; refine hK.out _ _ (hHeld.at (by simpa using hbs) sE1 sR1) (fun hHeld => ?_); clear hK K; (try simp only [Act.put, List.setIfInBounds_toArray, List.set_cons_zero, List.set_cons_succ]))
                have z0 := hHeld.2.1.cell (o := 0) (by decide)
                have z1 := hHeld.2.1.cell (o := 1) (by decide)
                have z2 := hHeld.2.1.cell (o := 2) (by decide)
                have zf := hHeld.2.1.frz
                (refine wpAnyH_ready (rs := [14]) (by kernel_rfl) (by simp) ?_; refine AllReadyH.cons rfl (fun K hK => ?_) AllReadyH.nil; go_simp)
                refine hK.out _ _ (((hHeld.set hER 0 _).set hER 1 _).set hER 2 _) (fun hHeld => ?_)
                clear hK K
                (try simp only [Act.put, List.setIfInBounds_toArray, List.set_cons_zero, List.set_cons_succ])
                (refine wpAnyH_done (by kernel_rfl) ?_ _)
                go_wp2_with fail
                go_roundw
                case rel => exact ⟨k + 1, t0, t1, t2, by omega, by go_num, set3 (rt HRW.out bC) t0 t1 t2, by rw [HT0.out, HJ.out.1]; exact ht0, by rw [HT0.out, HJ.out.2.1]; exact ht1, by rw [HT0.out, HJ.out.2.2]; exact ht2, (((bW.trans (bC.mono hW)).setCell (Nat.le_refl _) _).setCell (Nat.le_refl _) _).setCell (Nat.le_refl _) _⟩
                case measure => simp [intOf]; omega
              · go_simp
                (refine upon_arith (by simp [Arith]) (by first | assumption | exact is_lit64 _ (by decide) | exact is_lit32 _ (by decide)) (by first | assumption | exact is_lit64 _ (by decide) | exact is_lit32 _ (by decide)) ?_; intro rq nq hq; go_simp)
                refine hK.out _ _ (by first | exact hHeld.drewN _ | (simpa using hHeld.drewN _)) (fun hHeld => ?_)
                clear hK K
                (try simp only [Act.put, List.setIfInBounds_toArray, List.set_cons_zero, List.set_cons_succ])
                have hq2 := hq
                replace bC := below_drewN bC nq
                (refine wpAnyH_ready (rs := [0, 12]) (by kernel_rfl) (by simp) ?_; refine AllReadyH.cons rfl (fun K hK => ?_) (AllReadyH.cons rfl (fun K hK => ?_) AllReadyH.nil))
                · obtain ⟨rc0, rc1, rc2⟩ := HRC.out _ bC; have rd0 := rc0; have rd1 := rc1; have rd2 := rc2; (try simp at rd0); (try simp at rd1); (try simp at rd2)
                  go_simp
                  refine hK.out _ _ (by first | exact hHeld | (simpa using hHeld)) (fun hHeld => ?_)
                  clear hK K rc0 rc1 rc2 rd0 rd1 rd2
                  (try simp only [Act.put, List.setIfInBounds_toArray, List.set_cons_zero, List.set_cons_succ])
                  (refine wpAnyH_ready (rs := [12]) (by kernel_rfl) (by simp) ?_; refine AllReadyH.cons rfl (fun K hK => ?_) AllReadyH.nil; go_simp)
                  (go_at_call 32; (with_reducible refine (sScale3 i0 i1 i2 hq2 _).mono ?_); rintro eq wq ⟨⟨r0, r1, r2, rfl, hr0, hr1, hr2⟩, hbs⟩)
                  replace bC : Below W1.heap.size W1 wq := (by refine Below.trans ?_ (hbs.mono ?_); (first | exact bC | (simpa using bC)); (first | exact bC.size | (simpa using bC.size)))
                  (go_wp2_with fail; refine hK.out _ _ (hHeld.at (by simpa using hbs) sE1 sR1) (fun hHeld => ?_); clear hK K; (try simp only [Act.put, List.setIfInBounds_toArray, List.set_cons_zero, List.set_cons_succ]))
                  (refine wpAnyH_ready (rs := [13]) (by kernel_rfl) (by simp) ?_; refine AllReadyH.cons rfl (fun K hK => ?_) AllReadyH.nil; go_simp)
                  (go_at_call 31; (with_reducible refine (sAdd3 j0 j1 j2 hr0 hr1 hr2 _).mono ?_); rintro eq wq ⟨⟨t0, t1, t2, rfl, ht0, ht1, ht2⟩, hbs⟩)
                  replace bC : Below W1.heap.size W1 wq := (by refine Below.trans ?_ (hbs.mono ?_); (first | exact bC | (simpa using bC)); (first | exact bC.size | (simpa using bC.size)))
                  (go_wp2_with fail; refine hK.out _ _ (hHeld.at (by simpa using hbs) sE1 sR1) (fun hHeld => ?_); clear hK K; (try simp only [Act.put, List.setIfInBounds_toArray, List.set_cons_zero, List.set_cons_succ]))
                  have z0 := hHeld.2.1.cell (o := 0) (by decide)
                  have z1 := hHeld.2.1.cell (o := 1) (by decide)
                  have z2 := hHeld.2.1.cell (o := 2) (by decide)
                  have zf := hHeld.2.1.frz
                  (refine wpAnyH_ready (rs := [14]) (by kernel_rfl) (by simp) ?_; refine AllReadyH.cons rfl (fun K hK => ?_) AllReadyH.nil; go_simp)
                  refine hK.out _ _ (((hHeld.set hER 0 _).set hER 1 _).set hER 2 _) (fun hHeld => ?_)
                  clear hK K
                  (try simp only [Act.put, List.setIfInBounds_toArray, List.set_cons_zero, List.set_cons_succ])
                  (refine wpAnyH_done (by kernel_rfl) ?_ _)
                  go_wp2_with fail
                  go_roundw
                  case rel => exact ⟨k + 1, t0, t1, t2, by omega, by go_num, set3 (rt HRW.out bC) t0 t1 t2, by rw [HT0.out, HJ.out.1]; exact ht0, by rw [HT0.out, HJ.out.2.1]; exact ht1, by rw [HT0.out, HJ.out.2.2]; exact ht2, (((bW.trans (bC.mono hW)).setCell (Nat.le_refl _) _).setCell (Nat.le_refl _) _).setCell (Nat.le_refl _) _⟩
                  case measure => simp [intOf]; omega
                · go_simp
                  (go_at_call 32; (with_reducible refine (sScale3 i0 i1 i2 hq2 _).mono ?_); rintro eq wq ⟨⟨r0, r1, r2, rfl, hr0, hr1, hr2⟩, hbs⟩)
                  replace bC : Below W1.heap.size W1 wq := (by refine Below.trans ?_ (hbs.mono ?_); (first | exact bC | (simpa using bC)); (first | exact bC.size | (simpa using bC.size)))
                  (go_wp2_with fail; refine hK.out _ _ (hHeld.at (by simpa using hbs) sE1 sR1) (fun hHeld => ?_); clear hK K; (try simp only [Act.put, List.setIfInBounds_toArray, List.set_cons_zero, List.set_cons_succ]))
                  obtain ⟨rc0, rc1, rc2⟩ := HRC.out _ bC; have rd0 := rc0; have rd1 := rc1; have rd2 := rc2; (try simp at rd0); (try simp at rd1); (try simp at rd2)
                  (refine wpAnyH_ready (rs := [0]) (by kernel_rfl) (by simp) ?_; refine AllReadyH.cons rfl (fun K hK => ?_) AllReadyH.nil; go_simp)
                  refine hK.out _ _ (by first | exact hHeld | (simpa using hHeld)) (fun hHeld => ?_)
                  clear hK K rc0 rc1 rc2 rd0 rd1 rd2
                  (try simp only [Act.put, List.setIfInBounds_toArray, List.set_cons_zero, List.set_cons_succ])
                  (refine wpAnyH_ready (rs := [13]) (by kernel_rfl) (by simp) ?_; refine AllReadyH.cons rfl (fun K hK => ?_) AllReadyH.nil; go_simp)
                  (go_at_call 31; (with_reducible refine (sAdd3 j0 j1 j2 hr0 hr1 hr2 _).mono ?_); rintro eq wq ⟨⟨t0, t1, t2, rfl, ht0, ht1, ht2⟩, hbs⟩)
                  replace bC : Below W1.heap.size W1 wq := (by refine Below.trans ?_ (hbs.mono ?_); (first | exact bC | (simpa using bC)); (first | exact bC.size | (simpa using bC.size)))
                  (go_wp2_with fail; refine hK.out _ _ (hHeld.at (by simpa using hbs) sE1 sR1) (fun hHeld => ?_); clear hK K; (try simp only [Act.put, List.setIfInBounds_toArray, List.set_cons_zero, List.set_cons_succ]))
                  have z0 := hHeld.2.1.cell (o := 0) (by decide)
                  have z1 := hHeld.2.1.cell (o := 1) (by decide)
                  have z2 := hHeld.2.1.cell (o := 2) (by decide)
                  have zf := hHeld.2.1.frz
                  (refine wpAnyH_ready (rs := [14]) (by kernel_rfl) (by simp) ?_; refine AllReadyH.cons rfl (fun K hK => ?_) AllReadyH.nil; go_simp)
                  refine hK.out _ _ (((hHeld.set hER 0 _).set hER 1 _).set hER 2 _) (fun hHeld => ?_)
                  clear hK K
                  (try simp only [Act.put, List.setIfInBounds_toArray, List.set_cons_zero, List.set_cons_succ])
                  (refine wpAnyH_done (by kernel_rfl) ?_ _)
                  go_wp2_with fail
                  go_roundw
                  case rel => exact ⟨k + 1, t0, t1, t2, by omega, by go_num, set3 (rt HRW.out bC) t0 t1 t2, by rw [HT0.out, HJ.out.1]; exact ht0, by rw [HT0.out, HJ.out.2.1]; exact ht1, by rw [HT0.out, HJ.out.2.2]; exact ht2, (((bW.trans (bC.mono hW)).setCell (Nat.le_refl _) _).setCell (Nat.le_refl _) _).setCell (Nat.le_refl _) _⟩
                  case measure => simp [intOf]; omega
    · have hkn : Hid (k = n) := (show k = n by omega)
      have hS := hbel.size
      rw [hPs] at hS
      obtain ⟨q0, q1, q2⟩ := row3 hrow
      have z0 := (hPh.below hbel (by omega)).cell (o := 0) (by decide)
      have z1 := (hPh.below hbel (by omega)).cell (o := 1) (by decide)
      have z2 := (hPh.below hbel (by omega)).cell (o := 2) (by decide)
      have zf := (hPh.below hbel (by omega)).frz
      go_wp2_with fail
      refine bodyPost_ret (v := vecV s0 s1 s2) (by simp [results, Try.results52, go_sem, *]) rfl ⟨⟨_, _, _, rfl, by rw [← hkn.out]; exact j0, by rw [← hkn.out]; exact j1, by rw [← hkn.out]; exact j2⟩, ?_⟩
      have hw := hPb.trans (hbel.mono (show w.heap.size ≤ w.heap.size + 1 + 1 by omega))
      repeat' (first | with_reducible exact Below.refl _ _ | with_reducible assumption | (with_reducible refine Below.setCell ?_ (by first | omega | (simp; done) | (simp; omega)) _) | (with_reducible refine Below.alloc ?_ (by first | omega | (simp; done) | (simp; omega)) _) | (with_reducible refine below_drewN ?_ _) | (with_reducible refine Below.drew ?_) | (with_reducible refine Below.trans ?_ (Below.mono (by first | (with_reducible assumption) | exact Grow.below (by assumption)) (by first | omega | (simp; done) | (simp; omega)))))

theorem sPull (b off n cap : Nat) (f : Nat → Nat) (v A : Nat → Option Nat) (c : Option Nat) {p0 p1 p2 x : Nat} (w : World) (hn : n ≤ 1048576) (hA : areB v n = true) (hF : finV (A 0) (A 1) (A 2) = true) (hc : leastB c = true) (hb : b < w.heap.size) (hr : ∀ i, i < 7 * n → w.cell? ⟨b, off + i, none⟩ = some (.float .f32 (f i))) (hv : ∀ i, i < 7 * n → Is .f32 (f i) (v i)) (g0 : Is .f32 p0 (A 0)) (g1 : Is .f32 p1 (A 1)) (g2 : Is .f32 p2 (A 2)) (ic : Is .f32 x c) :
    Calls Try.prog 52 #[.slice (some ⟨b, off, none⟩) n cap, .int .i64 (-1), vecV p0 p1 p2, .float .f32 x] w fun e w' => (∃ r0 r1 r2, e = .returned (vecV r0 r1 r2) ∧ Is .f32 r0 (pullS v A c 0 n) ∧ Is .f32 r1 (pullS v A c 1 n) ∧ Is .f32 r2 (pullS v A c 2 n)) ∧ Below w.heap.size w w' := by
  rw [← pullZ_none, ← pullZ_none, ← pullZ_none]
  exact sPullZ (-1) b off n cap f v A c w hn hA hF hc hb hr hv g0 g1 g2 ic
end Go.Proofs.Ytjljdnkedbejaaa
