/-
  The normals of orbits, of the program and of the model. No condition.
-/
import Derived.Test.YtbkbmhancklpdaaVec3
import Derived.Test.YtbkbmhancklpdaaAngS
import Derived.Test.YtbkbmhancklpdaaOrbSD
import Derived.Test.YtbkbmhancklpdaaNarF
import Derived.Test.YtbkbmhancklpdaaSmS
import Derived.Test.YtbkbmhancklpdaaHas
import Derived.Deep.RegionHeld3
namespace Go.Proofs.Ytbkbmhancklpdaa
open Go.RowKit

theorem le_cosO {y : Nat} {v : Option Nat} (_ : Is .f64 y v) : LeO .f64 (cosO v) 110 := by
  obtain ⟨z, iz⟩ := is_fo (op := .add) (a := v) (b := some 4598175219545276416)
  exact le_sinP iz

theorem iMulA {x y T B : Nat} {u v : Option Nat} (W : World) (ix : Is .f64 x u) (iy : Is .f64 y v) (hB : B = W.heap.size) :
    Calls Try.prog 40 #[.slice (some ⟨B, 0, none⟩) 2 2] (W.alloc (.cells #[.float .f64 x, .float .f64 y] T)) (RetF .f64 (fo .mul .f64 u v) (W.alloc (.cells #[.float .f64 x, .float .f64 y] T))) := by
  subst hB
  exact iMul2 _ ix iy (by simp) (by simp)

theorem is_lt {k : FloatKind} {x b : Nat} {v : Option Nat} (ix : Is k x v) (hb : v = some b) : b < 2 ^ k.format.width := by
  subst hb
  obtain rfl := ix.notNaN
  exact ix.2
theorem is_fo_some {op : BinOp} {a b : Option Nat} {r : Nat} (h : fo op .f64 a b = some r) : Is .f64 r (fo op .f64 a b) := by
  rw [h]
  obtain ⟨x, y, _, _, hf⟩ := fo_some h
  exact ⟨floatBits_notNaN hf, fo_lt h⟩
theorem is_some_sinF {f : Option Nat} {r : Nat} (h : sinF f = some r) : Is .f64 r (sinF f) := by
  have hR : ∀ z c, sinR z = some c → Is .f64 c (sinR z) := fun z c h => is_fo_some h
  unfold sinF at h ⊢
  split at h
  · rename_i ht
    rw [if_pos ht]
    unfold negO at h
    cases hz : sinR (up1 f) with
    | none => rw [hz] at h; cases h
    | some c =>
      rw [hz] at h
      have := hR _ _ hz
      rw [hz] at this
      simp only [Option.map_some, Option.some.injEq] at h
      subst h
      exact is_neg this
  · rename_i ht
    rw [if_neg ht]
    exact hR _ _ h
theorem is_some_sinP {y r : Nat} {v : Option Nat} (_ : Is .f64 y v) (h : sinP v = some r) : Is .f64 r (sinP v) := is_some_sinF h
theorem is_some_cosO {r : Nat} {v : Option Nat} (h : cosO v = some r) : Is .f64 r (cosO v) := is_some_sinF h

/-- The normal of an orbit. -/
def nX (t n : Option Nat) : Option Nat := fo .mul .f64 (sinP (cv .f32 .f64 t)) (sinP (cv .f32 .f64 n))
def nY (t n : Option Nat) : Option Nat := negO .f64 (fo .mul .f64 (sinP (cv .f32 .f64 t)) (cosO (cv .f32 .f64 n)))
def nZ (t : Option Nat) : Option Nat := cosO (cv .f32 .f64 t)

set_option maxHeartbeats 1600000 in
theorem iNormal {a0 a1 a2 a3 a4 a5 : Nat} {x2 x3 : Option Nat} (h2 : Is .f32 a2 x2) (h3 : Is .f32 a3 x3) (f2 : finS x2 = true) (f3 : finS x3 = true) (w : World) :
    Calls Try.prog 19 #[orbV a0 a1 a2 a3 a4 a5] w (RetW (nX x2 x3) (nY x2 x3) (nZ x2) w) := by
  obtain ⟨z2, e2, i2⟩ := conv_fin h2 f2
  obtain ⟨z3, e3, i3⟩ := conv_fin h3 f3
  have hst := run_store_float Try.prog
  unfold nX nY nZ
  go_enter Try.func19, Try.ntmps19
  go_wp2_with fail
  go_region
  go_wp2_with (first | (apply wpList_neg; rfl; rfl; assumption; intro Kq hKq rq hq; go_simp) | (go_at_call 39; refine (sineP_any (by assumption) _).mono ?_; rintro eq wq ⟨rq, nq, rfl, hq, rfl⟩) | (go_at_call 41; refine (iCos (by assumption) _).mono ?_; rintro eq wq ⟨rq, nq, rfl, hq, rfl⟩) | (go_at_call 40; refine (iMulA _ (by assumption) (by assumption) (by simp)).mono ?_; rintro eq wq ⟨rq, nq, rfl, hq, rfl⟩))
  refine bodyPost_ret (v := vec3 _ _ _) (by simp [results, Try.results19, go_sem]; exact ⟨rfl, rfl, rfl⟩) rfl ⟨⟨_, _, _, rfl, by assumption, by assumption, by assumption⟩, ?_⟩
  repeat' (first | with_reducible exact Below.refl _ _ | with_reducible assumption | (with_reducible refine Below.setCell ?_ (by first | omega | (simp; done) | (simp; omega)) _) | (with_reducible refine Below.alloc ?_ (by first | omega | (simp; done) | (simp; omega)) _) | (with_reducible refine below_drewN ?_ _) | (with_reducible refine Below.drew ?_) | (with_reducible refine Below.trans ?_ (Below.mono (by first | (with_reducible assumption) | exact Grow.below (by assumption)) (by first | omega | (simp; done) | (simp; omega)))))

set_option maxHeartbeats 1600000 in
theorem sNormal {a2 a3 : Nat} {x2 x3 : Option Nat} (h2 : Is .f32 a2 x2) (h3 : Is .f32 a3 x3) (f2 : finS x2 = true) (f3 : finS x3 = true) (b o : Nat) (w : World) (hb : b < w.heap.size) (c2 : w.cell? ⟨b, o + 2, none⟩ = some (.float .f32 a2)) (c3 : w.cell? ⟨b, o + 3, none⟩ = some (.float .f32 a3)) :
    Calls Try.prog 12 #[.pointer (some ⟨b, o, none⟩)] w (RetW (nX x2 x3) (nY x2 x3) (nZ x2) w) := by
  obtain ⟨z2, e2, i2⟩ := conv_fin h2 f2
  obtain ⟨z3, e3, i3⟩ := conv_fin h3 f3
  have hst := run_store_float Try.prog
  have k2 : ∀ w', Below w.heap.size w w' → w'.cell? ⟨b, o + 2, none⟩ = some (.float .f32 a2) := fun w' h => by rw [h.cell (by exact hb), c2]
  have k3 : ∀ w', Below w.heap.size w w' → w'.cell? ⟨b, o + 3, none⟩ = some (.float .f32 a3) := fun w' h => by rw [h.cell (by exact hb), c3]
  have hs0 := has_alloc3 w (.float .f64 0) (.float .f64 0) (.float .f64 0) 37
  have r0 : ∀ w', Has w.heap.size 3 w' → w'.cell? ⟨w.heap.size, 0, none⟩ = some (rdc w' w.heap.size 0) := fun w' h => h.cell (by decide)
  have r1 : ∀ w', Has w.heap.size 3 w' → w'.cell? ⟨w.heap.size, 1, none⟩ = some (rdc w' w.heap.size 1) := fun w' h => h.cell (by decide)
  have r2 : ∀ w', Has w.heap.size 3 w' → w'.cell? ⟨w.heap.size, 2, none⟩ = some (rdc w' w.heap.size 2) := fun w' h => h.cell (by decide)
  have rf : ∀ w', Has w.heap.size 3 w' → ∀ o, w'.frozen? ⟨w.heap.size, o, none⟩ = false := fun w' h o => h.frz o
  have m2 := sm_cv h2 f2
  have m3 := sm_cv h3 f3
  have s2 := sm_sinP m2 (fun b hb => is_lt i2 hb)
  have s3 := sm_sinP m3 (fun b hb => is_lt i3 hb)
  have d3 := sm_cosO m3 (by decide) (by decide)
  have d2 := sm_cosO m2 (by decide) (by decide)
  have p1 := sm_mul s2 s3 (by decide) (by decide)
  have p2 := sm_mul s2 d3 (by decide) (by decide)
  obtain ⟨⟨n2, en2⟩, -⟩ := s2
  obtain ⟨⟨n3, en3⟩, -⟩ := s3
  obtain ⟨⟨k3', ek3⟩, -⟩ := d3
  obtain ⟨⟨k2', ek2⟩, -⟩ := d2
  obtain ⟨⟨q1, eq1⟩, -⟩ := p1
  obtain ⟨⟨q2, eq2⟩, -⟩ := p2
  have in2 : Is .f64 n2 (sinP (cv .f32 .f64 x2)) := is_some_sinP i2 en2
  have in3 : Is .f64 n3 (sinP (cv .f32 .f64 x3)) := is_some_sinP i3 en3
  have ic3 : Is .f64 k3' (cosO (cv .f32 .f64 x3)) := is_some_cosO ek3
  have ic2 : Is .f64 k2' (cosO (cv .f32 .f64 x2)) := is_some_cosO ek2
  have ip1 := is_fo_some eq1
  have ip2 := is_fo_some eq2
  have A1 := arith_sm in2 in3 eq1 30
  have A2 := arith_sm in2 ic3 eq2 30
  have in4 := is_neg ip2
  have A3 := neg_run Try.prog .f64 q2
  have C1 := fun w => (specSineP_any i2 w).mono fun _ _ h => RetF.word en2 h
  have C2 := fun w => (specSineP_any i3 w).mono fun _ _ h => RetF.word en3 h
  have C3 := fun w => (sCos i3 w).mono fun _ _ h => RetF.word ek3 h
  have C4 := fun w => (sCos i2 w).mono fun _ _ h => RetF.word ek2 h
  have RN : RetW (nX x2 x3) (nY x2 x3) (nZ x2) w = RetW (some q1) (negO .f64 (some q2)) (some k2') w := by
    unfold nX nY nZ
    rw [eq1, eq2, ek2]
  rw [RN]
  rw [eq2] at in4
  rw [eq1] at ip1
  rw [ek2] at ic2
  clear en2 en3 ek3 ek2 eq1 eq2 RN
  go_enter Try.func12, Try.ntmps12
  go_wp2_with (go_at_call 29; refine (C1 _).mono ?_; rintro eq wq ⟨nq, rfl, rfl⟩)
  go_region_held3 (fun w' => Below w.heap.size w w' ∧ Has w.heap.size 3 w') ((go_split_ands; refine ⟨?_, ?_⟩; (repeat' (first | with_reducible assumption | with_reducible exact Below.refl _ _ | with_reducible exact keepW (by with_reducible assumption) (by with_reducible assumption) (by first | exact Nat.le_refl _ | omega | (simp; done) | (simp; omega)) | (with_reducible refine Below.setCell ?_ (by first | omega | (simp; done) | (simp; omega)) _) | (with_reducible refine below_drewN ?_ _) | (with_reducible refine Below.drew ?_) | (with_reducible refine Below.trans ?_ (Below.mono (by with_reducible assumption) (by first | omega | (simp; done) | (simp; omega)))) | (with_reducible refine Below.alloc ?_ (by first | omega | (simp; done) | (simp; omega)) _))); (repeat' (first | with_reducible assumption | (with_reducible refine Has.setCell ?_ _ _) | (with_reducible refine Has.drewN ?_ _) | (with_reducible refine Has.drew ?_) | (with_reducible refine Has.at ?_ (by with_reducible assumption)) | (with_reducible refine Has.alloc ?_ _)))))
    (first | (go_at_call 29; refine (C2 _).mono ?_; rintro eq wq ⟨nq, rfl, rfl⟩) | (go_at_call 30; refine (C3 _).mono ?_; rintro eq wq ⟨nq, rfl, rfl⟩) | (go_at_call 30; refine (C4 _).mono ?_; rintro eq wq ⟨nq, rfl, rfl⟩))
  all_goals
    rename_i hHeld
    obtain ⟨hB, hH⟩ := hHeld
    go_wp2_with fail
    refine bodyPost_ret (v := vec3 _ _ _) (by simp [results, Try.results12, go_sem]; exact ⟨rfl, rfl, rfl⟩) rfl ⟨⟨_, _, _, rfl, by assumption, by assumption, by assumption⟩, ?_⟩
    repeat' (first | with_reducible exact Below.refl _ _ | with_reducible assumption | (with_reducible refine Below.setCell ?_ (by first | omega | (simp; done) | (simp; omega)) _) | (with_reducible refine Below.alloc ?_ (by first | omega | (simp; done) | (simp; omega)) _) | (with_reducible refine below_drewN ?_ _) | (with_reducible refine Below.drew ?_) | (with_reducible refine Below.trans ?_ (Below.mono (by first | (with_reducible assumption) | exact Grow.below (by assumption)) (by first | omega | (simp; done) | (simp; omega)))))
end Go.Proofs.Ytbkbmhancklpdaa
