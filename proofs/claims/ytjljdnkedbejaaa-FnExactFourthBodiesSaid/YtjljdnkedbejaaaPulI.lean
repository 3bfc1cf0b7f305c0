/-
  The pull of one body, of the program. No condition.
-/
import Derived.Test.YtjljdnkedbejaaaPul
import Derived.Test.YtjljdnkedbejaaaHas
import Derived.Test.YtjljdnkedbejaaaTakA
import Derived.Test.YtjljdnkedbejaaaVScale
import Derived.Test.YtjljdnkedbejaaaCon3
namespace Go.Proofs.Ytjljdnkedbejaaa
open Go.RowKit

theorem iScale3 {a0 a1 a2 b : Nat} {x0 x1 x2 y : Option Nat} (h0 : Is .f32 a0 x0) (h1 : Is .f32 a1 x1) (h2 : Is .f32 a2 x2) (g : Is .f32 b y) (W : World) :
    Calls Try.prog 49 #[vecV a0 a1 a2, .float .f32 b] W fun e w' => (∃ r0 r1 r2, e = .returned (vecV r0 r1 r2) ∧ Is .f32 r0 (fo .mul .f32 x0 y) ∧ Is .f32 r1 (fo .mul .f32 x1 y) ∧ Is .f32 r2 (fo .mul .f32 x2 y)) ∧ Below W.heap.size W w' := by
  refine (implScale h0 h1 h2 g W).mono ?_
  rintro _ w' ⟨r0, r1, r2, rfl, k0, k1, k2, hg⟩
  exact ⟨⟨r0, r1, r2, rfl, k0, k1, k2⟩, hg.below⟩

/-- What stands in a region that ends in a store into the block R: all below it, R's cells, and a vector in the block E. -/
def PulS (W : World) (R E x0 x1 x2 : Nat) (w' : World) : Prop := Below R W w' ∧ Has R 3 w' ∧ w'.cell? ⟨E, 0, none⟩ = some (.float .f32 x0) ∧ w'.cell? ⟨E, 1, none⟩ = some (.float .f32 x1) ∧ w'.cell? ⟨E, 2, none⟩ = some (.float .f32 x2)
theorem PulS.at {W X Y : World} {R E x0 x1 x2 : Nat} (h : PulS W R E x0 x1 x2 X) (g : Below X.heap.size X Y) (hE : E < W.heap.size) (hR : R ≤ W.heap.size) : PulS W R E x0 x1 x2 Y := by
  obtain ⟨a, b, c0, c1, c2⟩ := h
  have hz := a.size
  have hE' : E < X.heap.size := by omega
  exact ⟨a.trans (g.mono (by omega)), b.at g, by rw [g.cell (p := ⟨E, 0, none⟩) hE', c0], by rw [g.cell (p := ⟨E, 1, none⟩) hE', c1], by rw [g.cell (p := ⟨E, 2, none⟩) hE', c2]⟩
theorem PulS.drewN {W X : World} {R E x0 x1 x2 : Nat} (h : PulS W R E x0 x1 x2 X) (n : Nat) : PulS W R E x0 x1 x2 (X.drewN n) := ⟨below_drewN h.1 _, h.2.1.drewN n, h.2.2⟩
theorem PulS.drew {W X : World} {R E x0 x1 x2 : Nat} (h : PulS W R E x0 x1 x2 X) : PulS W R E x0 x1 x2 X.drew := ⟨h.1.drew, h.2.1.drew, h.2.2⟩
theorem PulS.set {W X : World} {R E x0 x1 x2 : Nat} (h : PulS W R E x0 x1 x2 X) (hRE : R ≠ E) (o : Nat) (v : Value) : PulS W R E x0 x1 x2 (X.setCell ⟨R, o, none⟩ v) := by
  obtain ⟨a, b, c0, c1, c2⟩ := h
  have ne : ∀ q, (⟨R, o, none⟩ : Addr) ≠ ⟨E, q, none⟩ := fun q h => hRE (by cases h; rfl)
  exact ⟨a.setCell (Nat.le_refl _) _, b.setCell _ _, by rw [World.cell?_setCell_other _ _ _ _ (ne 0), c0], by rw [World.cell?_setCell_other _ _ _ _ (ne 1), c1], by rw [World.cell?_setCell_other _ _ _ _ (ne 2), c2]⟩

set_option maxHeartbeats 3200000 in
theorem iPullOne (ba bc : Nat) {p0 p1 p2 x a0 a1 a2 a3 a4 a5 a6 x0 x1 x2 rI rC rQ rR : Nat} {u0 u1 u2 um w0 w1 w2 : Option Nat} (w : World) (hba : ba < w.heap.size) (hbc : bc < w.heap.size)
    (k0 : w.cell? ⟨ba, 0, none⟩ = some (.float .f32 p0)) (k1 : w.cell? ⟨ba, 1, none⟩ = some (.float .f32 p1)) (k2 : w.cell? ⟨ba, 2, none⟩ = some (.float .f32 p2)) (kc : w.cell? ⟨bc, 0, none⟩ = some (.float .f32 x))
    (h0 : Is .f32 a0 u0) (h1 : Is .f32 a1 u1) (h2 : Is .f32 a2 u2) (h6 : Is .f32 a6 um) (g0 : Is .f32 p0 w0) (g1 : Is .f32 p1 w1) (g2 : Is .f32 p2 w2) (e0 : fo .sub .f32 u0 w0 = some x0) (e1 : fo .sub .f32 u1 w1 = some x1) (e2 : fo .sub .f32 u2 w2 = some x2)
    (i0 : Is .f32 x0 (some x0)) (i1 : Is .f32 x1 (some x1)) (i2 : Is .f32 x2 (some x2)) (ix : Is .f32 x (some x)) (eI : innerO (some x0) (some x1) (some x2) (some x0) (some x1) (some x2) = some rI) (eC : fo .mul .f32 (some x) (some x) = some rC) (eQ : fo .add .f32 (some rI) (some rC) = some rQ) (nQ : NN rQ) (eR : rootO (some rQ) = some rR) (nR : NN rR) :
    Calls Try.prog 67 #[.agg #[.float .f32 a0, .float .f32 a1, .float .f32 a2, .float .f32 a3, .float .f32 a4, .float .f32 a5, .float .f32 a6], .pointer (some ⟨ba, 0, none⟩), .pointer (some ⟨bc, 0, none⟩)] w
      fun e w' => (∃ r0 r1 r2, e = .returned (vecV r0 r1 r2) ∧ Is .f32 r0 (if cmpB .gtr .f32 (some rQ) (some 0) then fo .mul .f32 (some x0) (fo .quo .f32 um (fo .mul .f32 (some rQ) (some rR))) else some 0) ∧ Is .f32 r1 (if cmpB .gtr .f32 (some rQ) (some 0) then fo .mul .f32 (some x1) (fo .quo .f32 um (fo .mul .f32 (some rQ) (some rR))) else some 0) ∧ Is .f32 r2 (if cmpB .gtr .f32 (some rQ) (some 0) then fo .mul .f32 (some x2) (fo .quo .f32 um (fo .mul .f32 (some rQ) (some rR))) else some 0)) ∧ Below w.heap.size w w' := by
  have LS := fun W => iLess3 h0 h1 h2 g0 g1 g2 e0 e1 e2 W
  have SQ := fun W => iSqOf i0 i1 i2 ix eI eC eQ W
  have RT := fun W => iRoot3 (nn_is nQ) eR W
  have iQ := nn_is nQ
  have iR := nn_is nR
  have hst := run_store_float Try.prog
  clear h0 h1 h2 g0 g1 g2 e0 e1 e2 eI eC eQ eR nQ nR
  cases cG : cmpB .gtr .f32 (some rQ) (some 0) with
  | false =>
    simp only [Bool.false_eq_true, if_false]
    go_enter Try.func67, Try.ntmps67
    go_wp2_with fail
    (go_at_call 68; refine (LS _).mono ?_; rintro _ W1 ⟨rfl, g1⟩)
    obtain ⟨hc1, hf1⟩ := bcell g1
    have hz1 := g1.size
    simp at hz1
    have hl1 : w.heap.size + 1 < W1.heap.size := by omega
    have hl0 : w.heap.size < W1.heap.size := by omega
    have hlc : bc < W1.heap.size := by omega
    have kcW : W1.cell? ⟨bc, 0, none⟩ = some (.float .f32 x) := by
      rw [hc1 bc 0 (by simp; omega), World.cell?_alloc_lt _ _ _ (by simp; omega), World.cell?_alloc_lt _ _ _ hbc, kc]
    have k6W : W1.cell? ⟨w.heap.size, 6, none⟩ = some (.float .f32 a6) := by
      rw [hc1 _ _ (by simp; omega), World.cell?_alloc_lt _ _ _ (by simp)]; simp
    go_wp2_with fail
    (go_at_call 69; refine (SQ _).mono ?_; rintro _ W2 ⟨rfl, g2⟩)
    obtain ⟨hc2, hf2⟩ := bcell g2
    have hz2 := g2.size
    simp at hz2
    have hR1 : Has (w.heap.size + 1) 3 W1 := Has.at (by simpa using has_alloc3 (w.alloc (Obj.cells #[.float .f32 a0, .float .f32 a1, .float .f32 a2, .float .f32 a3, .float .f32 a4, .float .f32 a5, .float .f32 a6] 42)) (.float .f32 0) (.float .f32 0) (.float .f32 0) 40) g1
    have hR2 : Has (w.heap.size + 1) 3 W2 := (hR1.alloc _).at g2
    have bA : Below w.heap.size w ((w.alloc (Obj.cells #[.float .f32 a0, .float .f32 a1, .float .f32 a2, .float .f32 a3, .float .f32 a4, .float .f32 a5, .float .f32 a6] 42)).alloc (Obj.cells #[.float .f32 0, .float .f32 0, .float .f32 0] 40)) := ((Below.refl _ _).alloc (Nat.le_refl _) _).alloc (by simp) _
    have bB := bA.trans (g1.mono (by simp; omega))
    have bC : Below w.heap.size w W2 := (bB.alloc (by omega) _).trans (g2.mono (by simp; omega))
    have z0 : ∀ o, o < 3 → W2.cell? ⟨w.heap.size + 1, o, none⟩ = some (.float .f32 0) := fun o ho => by
      rw [hc2 _ _ (by simp; omega), World.cell?_alloc_lt _ _ _ (by simp; omega), hc1 _ _ (by simp)]
      match o, ho with
      | 0, _ => simp
      | 1, _ => simp
      | 2, _ => simp
    have z1 := z0 0 (by decide)
    have z2 := z0 1 (by decide)
    have z3 := z0 2 (by decide)
    go_wp2_with (apply wpList_cmp; rfl; simp [Cmp]; rfl; rfl; (first | assumption | exact is_lit64 _ (by decide) | exact is_lit32 _ (by decide)); (first | assumption | exact is_lit64 _ (by decide) | exact is_lit32 _ (by decide)); intro Kq hKq; go_simp)
    refine bodyPost_ret (v := vecV 0 0 0) (by simp [results, Try.results67, go_sem, z1, z2, z3]) rfl ⟨⟨_, _, _, rfl, is_lit32 0 (by decide), is_lit32 0 (by decide), is_lit32 0 (by decide)⟩, ?_⟩
    exact ((bC.setCell (by simp) _).setCell (by simp) _).setCell (by simp) _
  | true =>
    simp only [if_true]
    go_enter Try.func67, Try.ntmps67
    go_wp2_with fail
    (go_at_call 68; refine (LS _).mono ?_; rintro _ W1 ⟨rfl, g1⟩)
    obtain ⟨hc1, hf1⟩ := bcell g1
    have hz1 := g1.size
    simp at hz1
    have hl1 : w.heap.size + 1 < W1.heap.size := by omega
    have hl0 : w.heap.size < W1.heap.size := by omega
    have hlc : bc < W1.heap.size := by omega
    have kcW : W1.cell? ⟨bc, 0, none⟩ = some (.float .f32 x) := by
      rw [hc1 bc 0 (by simp; omega), World.cell?_alloc_lt _ _ _ (by simp; omega), World.cell?_alloc_lt _ _ _ hbc, kc]
    have k6W : W1.cell? ⟨w.heap.size, 6, none⟩ = some (.float .f32 a6) := by
      rw [hc1 _ _ (by simp; omega), World.cell?_alloc_lt _ _ _ (by simp)]; simp
    go_wp2_with fail
    (go_at_call 69; refine (SQ _).mono ?_; rintro _ W2 ⟨rfl, g2⟩)
    obtain ⟨hc2, hf2⟩ := bcell g2
    have hz2 := g2.size
    simp at hz2
    have hR1 : Has (w.heap.size + 1) 3 W1 := Has.at (by simpa using has_alloc3 (w.alloc (Obj.cells #[.float .f32 a0, .float .f32 a1, .float .f32 a2, .float .f32 a3, .float .f32 a4, .float .f32 a5, .float .f32 a6] 42)) (.float .f32 0) (.float .f32 0) (.float .f32 0) 40) g1
    have hR2 : Has (w.heap.size + 1) 3 W2 := (hR1.alloc _).at g2
    have bA : Below w.heap.size w ((w.alloc (Obj.cells #[.float .f32 a0, .float .f32 a1, .float .f32 a2, .float .f32 a3, .float .f32 a4, .float .f32 a5, .float .f32 a6] 42)).alloc (Obj.cells #[.float .f32 0, .float .f32 0, .float .f32 0] 40)) := ((Below.refl _ _).alloc (Nat.le_refl _) _).alloc (by simp) _
    have bB := bA.trans (g1.mono (by simp; omega))
    have bC : Below w.heap.size w W2 := (bB.alloc (by omega) _).trans (g2.mono (by simp; omega))
    have d0 : W2.cell? ⟨W1.heap.size, 0, none⟩ = some (.float .f32 x0) := by rw [hc2 _ _ (by simp)]; simp
    have d1 : W2.cell? ⟨W1.heap.size, 1, none⟩ = some (.float .f32 x1) := by rw [hc2 _ _ (by simp)]; simp
    have d2 : W2.cell? ⟨W1.heap.size, 2, none⟩ = some (.float .f32 x2) := by rw [hc2 _ _ (by simp)]; simp
    have m6 : W2.cell? ⟨w.heap.size, 6, none⟩ = some (.float .f32 a6) := by rw [hc2 _ _ (by simp; omega), World.cell?_alloc_lt _ _ _ (by simp; omega), k6W]
    have km : ∀ w', Below (w.heap.size + 1) W2 w' → w'.cell? ⟨w.heap.size, 6, none⟩ = some (.float .f32 a6) := fun w' h => by rw [h.cell (by simp), m6]
    go_wp2_with (apply wpList_cmp; rfl; simp [Cmp]; rfl; rfl; (first | assumption | exact is_lit64 _ (by decide) | exact is_lit32 _ (by decide)); (first | assumption | exact is_lit64 _ (by decide) | exact is_lit32 _ (by decide)); intro Kq hKq; go_simp)
    have sE : W1.heap.size < W2.heap.size := by omega
    have sR : w.heap.size + 1 ≤ W2.heap.size := by omega
    refine wp_region_held_drew (S := PulS W2 (w.heap.size + 1) W1.heap.size x0 x1 x2) (by kernel_rfl) ⟨(Below.refl _ _).drew, hR2.drew, d0, d1, d2⟩ (fun hHeld => ?_)
    (refine wpTake (i := 0) (some 16) (v := ?_) rfl (by rfl) (by kernel_rfl) (by kernel_rfl) (by kernel_rfl) (fun _ _ _ h => h) (Or.inl ⟨by rfl, ?_⟩) hHeld ?_; rotate_left; (focus (intro wx hSw; obtain ⟨hSA, hSB, hS0, hS1, hS2⟩ := hSw; (try dsimp only); go_simp; (try with_reducible rfl))); (simp only [Act.put, List.setIfInBounds_toArray, List.set_cons_zero, List.set_cons_succ]))
    (refine wpTake (i := 1) (some 17) (v := ?_) rfl (by rfl) (by kernel_rfl) (by kernel_rfl) (by kernel_rfl) (fun _ _ _ h => h) (Or.inl ⟨by rfl, ?_⟩) hHeld ?_; rotate_left; (focus (intro wx hSw; obtain ⟨hSA, hSB, hS0, hS1, hS2⟩ := hSw; (try dsimp only); go_simp; (try with_reducible rfl))); (simp only [Act.put, List.setIfInBounds_toArray, List.set_cons_zero, List.set_cons_succ]))
    (refine wpTake (i := 2) (some 18) (v := ?_) rfl (by rfl) (by kernel_rfl) (by kernel_rfl) (by kernel_rfl) (fun _ _ _ h => h) (Or.inl ⟨by rfl, ?_⟩) hHeld ?_; rotate_left; (focus (intro wx hSw; obtain ⟨hSA, hSB, hS0, hS1, hS2⟩ := hSw; (try dsimp only); go_simp; (try with_reducible rfl))); (simp only [Act.put, List.setIfInBounds_toArray, List.set_cons_zero, List.set_cons_succ]))
    (refine wpTake (i := 3) (some 19) (v := ?_) rfl (by rfl) (by kernel_rfl) (by kernel_rfl) (by kernel_rfl) (fun _ _ _ h => h) (Or.inl ⟨by rfl, ?_⟩) hHeld ?_; rotate_left; (focus (intro wx hSw; obtain ⟨hSA, hSB, hS0, hS1, hS2⟩ := hSw; (try dsimp only); go_simp; (try with_reducible rfl))); (simp only [Act.put, List.setIfInBounds_toArray, List.set_cons_zero, List.set_cons_succ]))
    (refine wpTake (i := 4) (some 20) (v := ?_) rfl (by rfl) (by kernel_rfl) (by kernel_rfl) (by kernel_rfl) (fun _ _ _ h => h) (Or.inl ⟨by rfl, ?_⟩) hHeld ?_; rotate_left; (focus (intro wx hSw; obtain ⟨hSA, hSB, hS0, hS1, hS2⟩ := hSw; (try dsimp only); go_simp; (try with_reducible rfl))); (simp only [Act.put, List.setIfInBounds_toArray, List.set_cons_zero, List.set_cons_succ]))
    (refine wpAnyH_ready (rs := [5]) (by kernel_rfl) (by simp) ?_; refine AllReadyH.cons rfl (fun K hK => ?_) AllReadyH.nil; go_simp)
    (go_at_call 70; (with_reducible refine (RT _).mono ?_); rintro eq wq ⟨rfl, hbs⟩)
    (go_wp2_with fail; refine hK.out _ _ (hHeld.at hbs sE sR) (fun hHeld => ?_); clear hK K; (try simp only [Act.put, List.setIfInBounds_toArray, List.set_cons_zero, List.set_cons_succ]))
    (apply wpTakeA (i := 6) (some 22); rfl; rfl; rfl; kernel_rfl; rfl; simp [Arith]; rfl; rfl; exact iQ; exact iR; exact hHeld.drewN; intro rq nq hq hHeld; (try simp only [Act.put, List.setIfInBounds_toArray, List.set_cons_zero, List.set_cons_succ]))
    have hq1 := hq
    (apply wpTakeA (i := 7) (some 23); rfl; rfl; rfl; kernel_rfl; rfl; simp [Arith]; rfl; rfl; exact h6; exact hq1; exact hHeld.drewN; intro rq nq hq hHeld; (try simp only [Act.put, List.setIfInBounds_toArray, List.set_cons_zero, List.set_cons_succ]))
    have hq2 := hq
    (refine wpAnyH_ready (rs := [8]) (by kernel_rfl) (by simp) ?_; refine AllReadyH.cons rfl (fun K hK => ?_) AllReadyH.nil; go_simp)
    (go_at_call 49; (with_reducible refine (iScale3 i0 i1 i2 hq2 _).mono ?_); rintro eq wq ⟨⟨r0, r1, r2, rfl, hr0, hr1, hr2⟩, hbs⟩)
    (go_wp2_with fail; refine hK.out _ _ (hHeld.at (by simpa using hbs) sE sR) (fun hHeld => ?_); clear hK K; (try simp only [Act.put, List.setIfInBounds_toArray, List.set_cons_zero, List.set_cons_succ]))
    have q0 := hHeld.2.1.cell (o := 0) (by decide)
    have q1 := hHeld.2.1.cell (o := 1) (by decide)
    have q2 := hHeld.2.1.cell (o := 2) (by decide)
    have qf := hHeld.2.1.frz
    (refine wpAnyH_ready (rs := [9]) (by kernel_rfl) (by simp) ?_; refine AllReadyH.cons rfl (fun K hK => ?_) AllReadyH.nil; go_simp)
    have hRE : w.heap.size + 1 ≠ W1.heap.size := by omega
    refine hK.out _ _ (((hHeld.set hRE 0 _).set hRE 1 _).set hRE 2 _) (fun hHeld => ?_)
    clear hK K
    (try simp only [Act.put, List.setIfInBounds_toArray, List.set_cons_zero, List.set_cons_succ])
    have v0 : (((wq.setCell ⟨w.heap.size + 1, 0, none⟩ (.float .f32 r0)).setCell ⟨w.heap.size + 1, 1, none⟩ (.float .f32 r1)).setCell ⟨w.heap.size + 1, 2, none⟩ (.float .f32 r2)).cell? ⟨w.heap.size + 1, 0, none⟩ = some (.float .f32 r0) := by
      rw [World.cell?_setCell_other _ _ _ _ (by simp), World.cell?_setCell_other _ _ _ _ (by simp), cell_set _ (by rw [q0]; rfl)]
    have v1 : (((wq.setCell ⟨w.heap.size + 1, 0, none⟩ (.float .f32 r0)).setCell ⟨w.heap.size + 1, 1, none⟩ (.float .f32 r1)).setCell ⟨w.heap.size + 1, 2, none⟩ (.float .f32 r2)).cell? ⟨w.heap.size + 1, 1, none⟩ = some (.float .f32 r1) := by
      rw [World.cell?_setCell_other _ _ _ _ (by simp), cell_set _ (by rw [World.cell?_setCell_other _ _ _ _ (by simp), q1]; rfl)]
    have v2 : (((wq.setCell ⟨w.heap.size + 1, 0, none⟩ (.float .f32 r0)).setCell ⟨w.heap.size + 1, 1, none⟩ (.float .f32 r1)).setCell ⟨w.heap.size + 1, 2, none⟩ (.float .f32 r2)).cell? ⟨w.heap.size + 1, 2, none⟩ = some (.float .f32 r2) := by
      rw [cell_set _ (by rw [World.cell?_setCell_other _ _ _ _ (by simp), World.cell?_setCell_other _ _ _ _ (by simp), q2]; rfl)]
    (refine wpAnyH_done (by kernel_rfl) ?_ _)
    go_wp2_with fail
    refine bodyPost_ret (v := vecV r0 r1 r2) (by simp [results, Try.results67, go_sem, v0, v1, v2]) rfl ⟨⟨_, _, _, rfl, hr0, hr1, hr2⟩, ?_⟩
    exact bC.trans (hHeld.1.mono (by omega))
end Go.Proofs.Ytjljdnkedbejaaa
