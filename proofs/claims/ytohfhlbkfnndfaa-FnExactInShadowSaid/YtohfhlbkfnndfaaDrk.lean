/-
  Whether a place is in a ball's shadow, of the model. No condition.
-/
import Derived.Test.YtohfhlbkfnndfaaFinI
import Derived.Test.YtohfhlbkfnndfaaVScale
import Derived.Test.YtohfhlbkfnndfaaVLess
import Derived.Test.YtohfhlbkfnndfaaBal
import Derived.Test.YtohfhlbkfnndfaaVecI
namespace Go.Proofs.Ytohfhlbkfnndfaa
open Go.RowKit

section
variable (x0 x1 x2 y0 y1 y2 : Option Nat)
def dkU (c : Option Nat) : Option Nat := fo .mul .f32 c (fo .quo .f32 (some 1065353216) (lenO x0 x1 x2))
def dkA : Option Nat := innerO y0 y1 y2 (dkU x0 x1 x2 x0) (dkU x0 x1 x2 x1) (dkU x0 x1 x2 x2)
def dkD (y c : Option Nat) : Option Nat := fo .sub .f32 y (fo .mul .f32 (dkU x0 x1 x2 c) (dkA x0 x1 x2 y0 y1 y2))
def dkX : Option Nat := lenO (dkD x0 x1 x2 y0 y1 y2 y0 x0) (dkD x0 x1 x2 y0 y1 y2 y1 x1) (dkD x0 x1 x2 y0 y1 y2 y2 x2)
def dkOk : Bool := finS (lenO x0 x1 x2) && finV (dkU x0 x1 x2 x0) (dkU x0 x1 x2 x1) (dkU x0 x1 x2 x2) && finS (dkA x0 x1 x2 y0 y1 y2) && finV (dkD x0 x1 x2 y0 y1 y2 y0 x0) (dkD x0 x1 x2 y0 y1 y2 y1 x1) (dkD x0 x1 x2 y0 y1 y2 y2 x2) && finS (dkX x0 x1 x2 y0 y1 y2)
def dkB (vr : Option Nat) : Bool := dkOk x0 x1 x2 y0 y1 y2 && (cmpB .lss .f32 (dkA x0 x1 x2 y0 y1 y2) (some 0) && cmpB .lss .f32 (dkX x0 x1 x2 y0 y1 y2) vr)
end

/-- What is finite at last was finite on the way. -/
theorem dkOk_eq {p0 p1 p2 u0 u1 u2 d0 d1 d2 : Nat} {x0 x1 x2 y0 y1 y2 : Option Nat} (g0 : Is .f32 p0 y0) (g1 : Is .f32 p1 y1) (g2 : Is .f32 p2 y2) (j0 : Is .f32 u0 (dkU x0 x1 x2 x0)) (j1 : Is .f32 u1 (dkU x0 x1 x2 x1)) (j2 : Is .f32 u2 (dkU x0 x1 x2 x2))
    (i0 : Is .f32 d0 (dkD x0 x1 x2 y0 y1 y2 y0 x0)) (i1 : Is .f32 d1 (dkD x0 x1 x2 y0 y1 y2 y1 x1)) (i2 : Is .f32 d2 (dkD x0 x1 x2 y0 y1 y2 y2 x2)) (w : World) :
    dkOk x0 x1 x2 y0 y1 y2 = (finS (lenO x0 x1 x2) && (finS (dkA x0 x1 x2 y0 y1 y2) && finS (dkX x0 x1 x2 y0 y1 y2))) := by
  unfold dkOk
  cases hU : finV (dkU x0 x1 x2 x0) (dkU x0 x1 x2 x1) (dkU x0 x1 x2 x2) with
  | false =>
    have hA : finS (dkA x0 x1 x2 y0 y1 y2) = false := nf_inner g0 g1 g2 j0 j1 j2 w hU
    rw [hA]; simp
  | true =>
  cases hD : finV (dkD x0 x1 x2 y0 y1 y2 y0 x0) (dkD x0 x1 x2 y0 y1 y2 y1 x1) (dkD x0 x1 x2 y0 y1 y2 y2 x2) with
  | false =>
    have hX : finS (dkX x0 x1 x2 y0 y1 y2) = false := nf_len i0 i1 i2 w hD
    rw [hX]; simp
  | true => simp [Bool.and_assoc]

theorem sSclB {a0 a1 a2 b : Nat} {x0 x1 x2 y : Option Nat} (h0 : Is .f32 a0 x0) (h1 : Is .f32 a1 x1) (h2 : Is .f32 a2 x2) (g : Is .f32 b y) (W : World) :
    Calls Try.prog 61 #[vecV a0 a1 a2, .float .f32 b] W fun e w' => (∃ r0 r1 r2, e = .returned (vecV r0 r1 r2) ∧ Is .f32 r0 (fo .mul .f32 x0 y) ∧ Is .f32 r1 (fo .mul .f32 x1 y) ∧ Is .f32 r2 (fo .mul .f32 x2 y)) ∧ Below W.heap.size W w' :=
  (sScale h0 h1 h2 g W).mono fun _ _ ⟨r0, r1, r2, e, i0, i1, i2, g⟩ => ⟨⟨r0, r1, r2, e, i0, i1, i2⟩, g.below⟩
theorem sLesV {a0 a1 a2 b0 b1 b2 : Nat} {x0 x1 x2 y0 y1 y2 : Option Nat} (h0 : Is .f32 a0 x0) (h1 : Is .f32 a1 x1) (h2 : Is .f32 a2 x2) (g0 : Is .f32 b0 y0) (g1 : Is .f32 b1 y1) (g2 : Is .f32 b2 y2) (W : World) :
    Calls Try.prog 63 #[vecV a0 a1 a2, vecV b0 b1 b2] W fun e w' => (∃ r0 r1 r2, e = .returned (vecV r0 r1 r2) ∧ Is .f32 r0 (fo .sub .f32 x0 y0) ∧ Is .f32 r1 (fo .sub .f32 x1 y1) ∧ Is .f32 r2 (fo .sub .f32 x2 y2)) ∧ Below W.heap.size W w' :=
  (sLess h0 h1 h2 g0 g1 g2 W).mono fun _ _ ⟨r0, r1, r2, e, i0, i1, i2, g⟩ => ⟨⟨r0, r1, r2, e, i0, i1, i2⟩, g.below⟩
theorem sFinB {x : Nat} {v : Option Nat} (ix : Is .f32 x v) (W : World) :
    Calls Try.prog 37 #[.float .f32 x] W fun e w' => e = .returned (.bool (finS v)) ∧ Below W.heap.size W w' :=
  (finite_any ix W).mono fun _ _ ⟨n, e, h⟩ => ⟨e, by rw [h]; exact below_drewN (Below.refl _ _) _⟩
theorem sFinVB {a0 a1 a2 : Nat} {x0 x1 x2 : Option Nat} (h0 : Is .f32 a0 x0) (h1 : Is .f32 a1 x1) (h2 : Is .f32 a2 x2) (W : World) :
    Calls Try.prog 27 #[vecV a0 a1 a2] W fun e w' => e = .returned (.bool (finV x0 x1 x2)) ∧ Below W.heap.size W w' :=
  (sFinV h0 h1 h2 W).mono fun _ _ ⟨e, g⟩ => ⟨e, g.below⟩

abbrev stDk (w : World) (s0 s1 s2 p0 p1 p2 : Nat) : World := (w.alloc (.cells #[.float .f32 s0, .float .f32 s1, .float .f32 s2] 31)).alloc (.cells #[.float .f32 p0, .float .f32 p1, .float .f32 p2] 31)

section
variable {s0 s1 s2 p0 p1 p2 a1 : Nat} {x0 x1 x2 y0 y1 y2 vr : Option Nat} (h0 : Is .f32 s0 x0) (h1 : Is .f32 s1 x1) (h2 : Is .f32 s2 x2) (g0 : Is .f32 p0 y0) (g1 : Is .f32 p1 y1) (g2 : Is .f32 p2 y2) (hr : Is .f32 a1 vr)
include h0 h1 h2 g0 g1 g2 hr

set_option maxRecDepth 100000 in
set_option maxHeartbeats 6400000 in
theorem sDarkP (bb : Nat) (w : World) (hb : bb < w.heap.size) (c1 : w.cell? ⟨bb, 1, none⟩ = some (.float .f32 a1)) :
    Calls Try.prog 28 #[.pointer (some ⟨bb, 0, none⟩), vecV s0 s1 s2, vecV p0 p1 p2] w fun e w' => e = .returned (.tuple #[.bool (dkB x0 x1 x2 y0 y1 y2 vr), .bool (dkOk x0 x1 x2 y0 y1 y2)]) ∧ Below w.heap.size w w' := by
  have hst := run_store_float Try.prog
  obtain ⟨rr, hrr⟩ : ∃ rr, rr = dkB x0 x1 x2 y0 y1 y2 vr := ⟨_, rfl⟩
  obtain ⟨okk, hok⟩ : ∃ okk, okk = dkOk x0 x1 x2 y0 y1 y2 := ⟨_, rfl⟩
  rw [← hrr, ← hok]
  unfold dkB at hrr
  unfold dkOk at hrr hok
  have kb : ∀ w', Below (w.heap.size + 2) (stDk w s0 s1 s2 p0 p1 p2) w' → VecIn w' w.heap.size s0 s1 s2 ∧ VecIn w' (w.heap.size + 1) p0 p1 p2 ∧ w'.cell? ⟨bb, 1, none⟩ = some (.float .f32 a1) := fun w' k => by
    have vA : VecIn (stDk w s0 s1 s2 p0 p1 p2) w.heap.size s0 s1 s2 := ⟨by simp; omega, by rw [World.cell?_alloc_lt _ _ _ (by simp)]; simp, by rw [World.cell?_alloc_lt _ _ _ (by simp)]; simp, by rw [World.cell?_alloc_lt _ _ _ (by simp)]; simp⟩
    have vB : VecIn (stDk w s0 s1 s2 p0 p1 p2) (w.heap.size + 1) p0 p1 p2 := by simpa using vec_alloc (w.alloc (.cells #[.float .f32 s0, .float .f32 s1, .float .f32 s2] 31)) p0 p1 p2 31
    have k' : Below (stDk w s0 s1 s2 p0 p1 p2).heap.size (stDk w s0 s1 s2 p0 p1 p2) w' := k.mono (by simp)
    refine ⟨vA.at k', vB.at k', ?_⟩
    rw [k.cell (p := ⟨bb, 1, none⟩) (by dsimp only; omega), World.cell?_alloc_lt _ _ _ (by simp; omega), World.cell?_alloc_lt _ _ _ hb]
    exact c1
  have KB := Lib.hid kb
  have bw : Below w.heap.size w (stDk w s0 s1 s2 p0 p1 p2) := ((Below.refl _ _).alloc (Nat.le_refl _) _).alloc (by simp) _
  clear kb c1
  go_enter Try.func28, Try.ntmps28
  go_wp2_with fail
  (go_at_call 60; refine (sLenB h0 h1 h2 _).mono ?_; rintro _ W1 ⟨⟨rl, rfl, iL⟩, b1⟩)
  have hz1 := b1.size
  simp at hz1
  have bA : Below (w.heap.size + 2) (stDk w s0 s1 s2 p0 p1 p2) W1 := b1.mono (by simp)
  obtain ⟨⟨-, k0, k1, k2⟩, -⟩ := KB.out W1 bA
  clear b1
  go_wp2_with (apply wpList_arith; rfl; simp [Arith]; rfl; rfl; (first | assumption | exact is_lit64 _ (by decide) | exact is_lit32 _ (by decide)); (first | assumption | exact is_lit64 _ (by decide) | exact is_lit32 _ (by decide)); intro Kq hKq rq nq hq; go_simp)
  generalize hW : W1.drewN nq = W2
  have b2 : Below W1.heap.size W1 W2 := by rw [← hW]; exact below_drewN (Below.refl _ _) _
  have hz2 := b2.size
  clear hW k0 k1 k2
  (go_at_call 61; refine (sSclB h0 h1 h2 hq _).mono ?_; rintro _ W3 ⟨⟨u0, u1, u2, rfl, iu0, iu1, iu2⟩, b3⟩)
  have hz3 := b3.size
  have bB : Below (w.heap.size + 2) (stDk w s0 s1 s2 p0 p1 p2) W3 := (bA.trans (b2.mono (by omega))).trans (b3.mono (by omega))
  have l3 : w.heap.size + 1 < W3.heap.size := by omega
  obtain ⟨-, ⟨-, m0, m1, m2⟩, -⟩ := KB.out W3 bB
  clear b2 b3 bA
  go_wp2_with fail
  (go_at_call 62; refine (sInnB g0 g1 g2 iu0 iu1 iu2 _).mono ?_; rintro _ W4 ⟨⟨ra, rfl, iA⟩, b4⟩)
  have hz4 := b4.size
  simp at hz4
  have bV : Below W3.heap.size W3 (W3.alloc (.cells #[.float .f32 u0, .float .f32 u1, .float .f32 u2] 31)) := (Below.refl _ _).alloc (Nat.le_refl _) _
  have bC : Below (w.heap.size + 2) (stDk w s0 s1 s2 p0 p1 p2) W4 := (bB.trans (bV.mono (by omega))).trans (b4.mono (by simp; omega))
  have vU : VecIn W4 W3.heap.size u0 u1 u2 := (vec_alloc W3 u0 u1 u2 31).at b4
  have UP : ∀ w', Below W4.heap.size W4 w' → Below (w.heap.size + 2) (stDk w s0 s1 s2 p0 p1 p2) w' := fun w' k => bC.trans (k.mono (by omega))
  have e0 : ∀ w', Below W4.heap.size W4 w' → w'.cell? ⟨w.heap.size + 1, 0, none⟩ = some (.float .f32 p0) := fun w' k => (KB.out w' (UP w' k)).2.1.2.1
  have e1 : ∀ w', Below W4.heap.size W4 w' → w'.cell? ⟨w.heap.size + 1, 1, none⟩ = some (.float .f32 p1) := fun w' k => (KB.out w' (UP w' k)).2.1.2.2.1
  have e2 : ∀ w', Below W4.heap.size W4 w' → w'.cell? ⟨w.heap.size + 1, 2, none⟩ = some (.float .f32 p2) := fun w' k => (KB.out w' (UP w' k)).2.1.2.2.2
  have q0 : ∀ w', Below W4.heap.size W4 w' → w'.cell? ⟨W3.heap.size, 0, none⟩ = some (.float .f32 u0) := fun w' k => (vU.at k).2.1
  have q1 : ∀ w', Below W4.heap.size W4 w' → w'.cell? ⟨W3.heap.size, 1, none⟩ = some (.float .f32 u1) := fun w' k => (vU.at k).2.2.1
  have q2 : ∀ w', Below W4.heap.size W4 w' → w'.cell? ⟨W3.heap.size, 2, none⟩ = some (.float .f32 u2) := fun w' k => (vU.at k).2.2.2
  have r0 : ∀ R w', Has R 3 w' → w'.cell? ⟨R, 0, none⟩ = some (rdc w' R 0) := fun R w' h => h.cell (by decide)
  have r1 : ∀ R w', Has R 3 w' → w'.cell? ⟨R, 1, none⟩ = some (rdc w' R 1) := fun R w' h => h.cell (by decide)
  have r2 : ∀ R w', Has R 3 w' → w'.cell? ⟨R, 2, none⟩ = some (rdc w' R 2) := fun R w' h => h.cell (by decide)
  have rf : ∀ R w', Has R 3 w' → ∀ o, w'.frozen? ⟨R, o, none⟩ = false := fun R w' h o => h.frz o
  have HR := Lib.hid hrr
  have HO := Lib.hid hok
  clear m0 m1 m2 b4 bV bB hrr hok
  go_upto_region 4 with fail
  go_cut [11] (fun s11 wx => (∃ R c0 c1 c2, s11 = .pointer (some ⟨R, 0, none⟩) ∧ VecIn wx R c0 c1 c2 ∧ Is .f32 c0 (dkD x0 x1 x2 y0 y1 y2 y0 x0) ∧ Is .f32 c1 (dkD x0 x1 x2 y0 y1 y2 y1 x1) ∧ Is .f32 c2 (dkD x0 x1 x2 y0 y1 y2 y2 x2)) ∧ Below W4.heap.size W4 wx)
  case first =>
    clear KB UP HR HO vU bC
    go_region_held3 (fun w' => Below W4.heap.size W4 w') ((repeat' (first | with_reducible assumption | with_reducible exact Below.refl _ _ | with_reducible exact keepW (by with_reducible assumption) (by with_reducible assumption) (by first | exact Nat.le_refl _ | assumption | omega | (simp; done) | (simp; omega)) | with_reducible exact keepS (by with_reducible assumption) (by with_reducible assumption) (by first | exact Nat.le_refl _ | assumption | omega | (simp; done) | (simp; omega)) | (with_reducible refine Below.setCell ?_ (by first | omega | (simp; done) | (simp; omega)) _) | (with_reducible refine below_drewN ?_ _) | (with_reducible refine Below.drew ?_) | (with_reducible refine Below.trans ?_ (Below.mono (by with_reducible assumption) (by first | omega | (simp; done) | (simp; omega)))) | (with_reducible refine Below.trans ?_ (Below.mono (Grow.below (by with_reducible assumption)) (by first | omega | (simp; done) | (simp; omega)))) | (with_reducible refine Below.alloc ?_ (by first | omega | (simp; done) | (simp; omega)) _))))
      (first | (go_at_call 61; refine (sSclB iu0 iu1 iu2 iA _).mono ?_; rintro eq wq ⟨⟨v0, v1, v2, rfl, iv0, iv1, iv2⟩, hb⟩; have hz := hb.size; (try simp at hz); (first | (have hR := Has.at (by assumption) hb) | ((have hR := Has.at (has_alloc3 _ _ _ _ _) hb); (try simp at hR)) | ((have hR := Has.at (Has.drewN (has_alloc3 _ _ _ _ _) _) hb); (try simp at hR)) | ((have hR := Has.at (Has.drew (has_alloc3 _ _ _ _ _)) hb); (try simp at hR)) | skip)) | (go_at_call 63; refine (sLesV g0 g1 g2 iv0 iv1 iv2 _).mono ?_; rintro eq wq ⟨⟨d0, d1, d2, rfl, i0, i1, i2⟩, hb⟩; have hz := hb.size; (try simp at hz); (first | (have hR := Has.at (by assumption) hb) | ((have hR := Has.at (has_alloc3 _ _ _ _ _) hb); (try simp at hR)) | ((have hR := Has.at (Has.drewN (has_alloc3 _ _ _ _ _) _) hb); (try simp at hR)) | ((have hR := Has.at (Has.drew (has_alloc3 _ _ _ _ _)) hb); (try simp at hR)) | skip)))
    all_goals
      go_wp2_with fail
      go_meet
      exact ⟨⟨_, _, _, _, rfl, by first | exact vec_put hR _ _ _ | exact ⟨by simp, by simp, by simp, by simp⟩, i0, i1, i2⟩, by with_reducible assumption⟩
  case rest =>
    obtain ⟨⟨R, c0, c1, c2, rfl, hV, i0, i1, i2⟩, hY⟩ := hcut
    obtain ⟨Y, rfl⟩ : ∃ Y, Y = wc := ⟨wc, rfl⟩
    have hzy := hY.size
    have vU4 := vU.at hY
    have bY : Below w.heap.size w Y := (bw.trans (bC.mono (by omega))).trans (hY.mono (by omega))
    have jA : Is .f32 ra (dkA x0 x1 x2 y0 y1 y2) := iA
    have ju0 : Is .f32 u0 (dkU x0 x1 x2 x0) := iu0
    have ju1 : Is .f32 u1 (dkU x0 x1 x2 x1) := iu1
    have ju2 : Is .f32 u2 (dkU x0 x1 x2 x2) := iu2
    have hV' := hV
    obtain ⟨-, d0, d1, d2⟩ := hV'
    clear e0 e1 e2 q0 q1 q2 r0 r1 r2 rf iA iu0 iu1 iu2 vU
    go_wp2_with fail
    (go_at_call 60; refine (sLenB i0 i1 i2 _).mono ?_; rintro _ W5 ⟨⟨rx, rfl, iX⟩, b5⟩)
    have jX : Is .f32 rx (dkX x0 x1 x2 y0 y1 y2) := iX
    have vD5 := hV.at b5
    have vU5 := vU4.at b5
    have b5w := bY.trans (b5.mono bY.size)
    have B5 := hY.trans (b5.mono hzy)
    clear iX d0 d1 d2 b5 hV vU4 bY
    have F1 := fun W => sFinB iL W
    have F2 := fun W => sFinVB ju0 ju1 ju2 W
    have F3 := fun W => sFinB jA W
    have F4 := fun W => sFinVB i0 i1 i2 W
    have F5 := fun W => sFinB jX W
    generalize finS (lenO x0 x1 x2) = f1 at F1 HR HO
    generalize finV (dkU x0 x1 x2 x0) (dkU x0 x1 x2 x1) (dkU x0 x1 x2 x2) = f2 at F2 HR HO
    generalize finS (dkA x0 x1 x2 y0 y1 y2) = f3 at F3 HR HO
    generalize finV (dkD x0 x1 x2 y0 y1 y2 y0 x0) (dkD x0 x1 x2 y0 y1 y2 y1 x1) (dkD x0 x1 x2 y0 y1 y2 y2 x2) = f4 at F4 HR HO
    generalize finS (dkX x0 x1 x2 y0 y1 y2) = f5 at F5 HR HO
    cases f1 with
    | false =>
      obtain rfl : okk = false := by simpa using HO.out
      obtain rfl : rr = false := by simpa using HR.out
      go_wp2_with fail
      (go_at_call 37; refine (F1 _).mono ?_; rintro _ W6 ⟨rfl, b6⟩)
      go_wp2_with fail
      go_ret2
      exact ⟨rfl, b5w.trans (b6.mono b5w.size)⟩
    | true =>
    go_wp2_with fail
    (go_at_call 37; refine (F1 _).mono ?_; rintro _ W6 ⟨rfl, b6⟩)
    have b6w := b5w.trans (b6.mono b5w.size)
    have B6 := B5.trans (b6.mono B5.size)
    have vU6 := vU5.at b6
    have vD6 := vD5.at b6
    clear vU5 vD5
    obtain ⟨-, k0, k1, k2⟩ := vU6
    cases f2 with
    | false =>
      obtain rfl : okk = false := by simpa using HO.out
      obtain rfl : rr = false := by simpa using HR.out
      go_wp2_with fail
      (go_at_call 27; refine (F2 _).mono ?_; rintro _ W7 ⟨rfl, b7⟩)
      go_wp2_with fail
      go_ret2
      exact ⟨rfl, b6w.trans (b7.mono b6w.size)⟩
    | true =>
    go_wp2_with fail
    (go_at_call 27; refine (F2 _).mono ?_; rintro _ W7 ⟨rfl, b7⟩)
    have b7w := b6w.trans (b7.mono b6w.size)
    have B7 := B6.trans (b7.mono B6.size)
    have vD7 := vD6.at b7
    clear k0 k1 k2 vD6
    cases f3 with
    | false =>
      obtain rfl : okk = false := by simpa using HO.out
      obtain rfl : rr = false := by simpa using HR.out
      go_wp2_with fail
      (go_at_call 37; refine (F3 _).mono ?_; rintro _ W8 ⟨rfl, b8⟩)
      go_wp2_with fail
      go_ret2
      exact ⟨rfl, b7w.trans (b8.mono b7w.size)⟩
    | true =>
    go_wp2_with fail
    (go_at_call 37; refine (F3 _).mono ?_; rintro _ W8 ⟨rfl, b8⟩)
    have b8w := b7w.trans (b8.mono b7w.size)
    have B8 := B7.trans (b8.mono B7.size)
    have vD8 := vD7.at b8
    clear vD7
    obtain ⟨-, m0, m1, m2⟩ := vD8
    cases f4 with
    | false =>
      obtain rfl : okk = false := by simpa using HO.out
      obtain rfl : rr = false := by simpa using HR.out
      go_wp2_with fail
      (go_at_call 27; refine (F4 _).mono ?_; rintro _ W9 ⟨rfl, b9⟩)
      go_wp2_with fail
      go_ret2
      exact ⟨rfl, b8w.trans (b9.mono b8w.size)⟩
    | true =>
    go_wp2_with fail
    (go_at_call 27; refine (F4 _).mono ?_; rintro _ W9 ⟨rfl, b9⟩)
    have b9w := b8w.trans (b9.mono b8w.size)
    have B9 := B8.trans (b9.mono B8.size)
    clear m0 m1 m2
    cases f5 with
    | false =>
      obtain rfl : okk = false := by simpa using HO.out
      obtain rfl : rr = false := by simpa using HR.out
      go_wp2_with fail
      (go_at_call 37; refine (F5 _).mono ?_; rintro _ W10 ⟨rfl, b10⟩)
      go_wp2_with fail
      go_ret2
      exact ⟨rfl, b9w.trans (b10.mono b9w.size)⟩
    | true =>
    go_wp2_with fail
    (go_at_call 37; refine (F5 _).mono ?_; rintro _ W10 ⟨rfl, b10⟩)
    have b10w := b9w.trans (b10.mono b9w.size)
    have B10 := B9.trans (b10.mono B9.size)
    have cb := (KB.out W10 (UP W10 B10)).2.2
    obtain rfl : okk = true := by simpa using HO.out
    clear KB UP
    cases hA : cmpB .lss .f32 (dkA x0 x1 x2 y0 y1 y2) (some 0) with
    | false =>
      obtain rfl : rr = false := by simpa [hA] using HR.out
      go_wp2_with (apply wpList_cmp; rfl; simp [Cmp]; rfl; rfl; (first | assumption | exact is_lit64 _ (by decide) | exact is_lit32 _ (by decide)); (first | assumption | exact is_lit64 _ (by decide) | exact is_lit32 _ (by decide)); intro Kq hKq; go_simp)
      go_ret2
      exact ⟨rfl, b10w⟩
    | true =>
      obtain rfl : rr = cmpB .lss .f32 (dkX x0 x1 x2 y0 y1 y2) vr := by simpa [hA] using HR.out
      go_wp2_with (apply wpList_cmp; rfl; simp [Cmp]; rfl; rfl; (first | assumption | exact is_lit64 _ (by decide) | exact is_lit32 _ (by decide)); (first | assumption | exact is_lit64 _ (by decide) | exact is_lit32 _ (by decide)); intro Kq hKq; go_simp)
      go_ret2
      exact ⟨rfl, b10w⟩
end
end Go.Proofs.Ytohfhlbkfnndfaa
