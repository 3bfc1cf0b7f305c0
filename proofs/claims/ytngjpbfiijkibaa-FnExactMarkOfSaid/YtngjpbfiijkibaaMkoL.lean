/-
  The mark of a place: for every ball, place and time the law's text returns true, and writes nothing that was there. No condition.
-/
import Derived.Test.YtngjpbfiijkibaaMkoS
import Derived.Test.YtngjpbfiijkibaaTo
namespace Go.Proofs.Ytngjpbfiijkibaa
open Go.RowKit

section
variable {a0 a1 a2 a3 p0 p1 p2 tw : Nat} {x0 x1 x2 x3 y0 y1 y2 t : Option Nat} (h0 : Is .f32 a0 x0) (h1 : Is .f32 a1 x1) (h2 : Is .f32 a2 x2) (h3 : Is .f32 a3 x3) (g0 : Is .f32 p0 y0) (g1 : Is .f32 p1 y1) (g2 : Is .f32 p2 y2) (it : Is .f32 tw t)
include h0 h1 h2 h3 g0 g1 g2 it

set_option maxHeartbeats 3200000 in
theorem sMkoF (w : World) (ok : mkOk x0 x1 x2 x3 y0 y1 y2 t = false) :
    Calls Try.prog 7 #[balV a0 a1 a2 a3, vecV p0 p1 p2, .float .f32 tw] w (RetVB (some 0) (some 0) (some 0) false w) := by
  have hst := run_store_float Try.prog
  have FV := fun W => sFinV g0 g1 g2 W
  have hS := stMk_start w a0 a1 a2 a3 p0 p1 p2
  unfold mkOk at ok
  obtain ⟨⟨b0, b1, b2, b3⟩, -⟩ := stMk_at hS
  rcases three_ways4 (balB x0 x1 x2 x3) (finV y0 y1 y2) (finS t) with oB | ⟨oB, oM | ⟨oM, oF | oF⟩⟩
  case inr.inr.inr => rw [oB, oM, oF] at ok; cases ok
  all_goals
    clear ok
    try rw [oM] at FV
    go_enter Try.func7, Try.ntmps7
    go_wp2_with fail
    refine (sBalP h0 h1 h2 h3 w.heap.size 0 (stMk w a0 a1 a2 a3 p0 p1 p2) (by simp; omega) b0 b1 b2 b3).mono ?_
    rw [oB]
    rintro _ W0 ⟨rfl, bb⟩
    have H0 := hS.at bb
    obtain ⟨-, k0, k1, k2⟩ := stMk_at H0
    obtain ⟨q0, q1, q2, qf⟩ := H0.cells
    clear hS bb b0 b1 b2 b3
  · go_wp2_with fail
    refine bodyPost_ret (v := .tuple #[vecV 0 0 0, .bool false]) (by simp [results, Try.results7, go_sem, q0, q1, q2]) rfl ⟨⟨_, _, _, rfl, zeroW, zeroW, zeroW⟩, ?_⟩
    exact stMk_below (H0.set3 (by omega) _ _ _)
  · go_wp2_with fail
    (go_at_call 22; refine (FV _).mono ?_; rintro _ W1 ⟨rfl, b1⟩)
    have H1 := H0.at b1.below
    clear q0 q1 q2 qf
    obtain ⟨q0, q1, q2, qf⟩ := H1.cells
    go_wp2_with fail
    refine bodyPost_ret (v := .tuple #[vecV 0 0 0, .bool false]) (by simp [results, Try.results7, go_sem, q0, q1, q2]) rfl ⟨⟨_, _, _, rfl, zeroW, zeroW, zeroW⟩, ?_⟩
    exact stMk_below (H1.set3 (by omega) _ _ _)
  · go_wp2_with fail
    (go_at_call 22; refine (FV _).mono ?_; rintro _ W1 ⟨rfl, b1⟩)
    have H1 := H0.at b1.below
    clear q0 q1 q2 qf k0 k1 k2
    obtain ⟨q0, q1, q2, qf⟩ := H1.cells
    go_wp2_with (go_at_call 23; refine (finite_any it _).mono ?_; rw [oF]; rintro _ _ ⟨n2, rfl, rfl⟩)
    refine bodyPost_ret (v := .tuple #[vecV 0 0 0, .bool false]) (by simp [results, Try.results7, go_sem, q0, q1, q2]) rfl ⟨⟨_, _, _, rfl, zeroW, zeroW, zeroW⟩, ?_⟩
    exact stMk_below ((H1.drewN n2).set3 (by omega) _ _ _)

set_option maxHeartbeats 3200000 in
theorem sMkoT (w : World) (ok : mkOk x0 x1 x2 x3 y0 y1 y2 t = true) :
    Calls Try.prog 7 #[balV a0 a1 a2 a3, vecV p0 p1 p2, .float .f32 tw] w
      (RetVB (if finS (mkR x2 x3 y0 y1 t) && mkG x1 x2 x3 y0 y1 y2 t then mkN y0 y1 y2 else some 0) (if finS (mkR x2 x3 y0 y1 t) && mkG x1 x2 x3 y0 y1 y2 t then wrapV (mkR x2 x3 y0 y1 t) else some 0) (if finS (mkR x2 x3 y0 y1 t) && mkG x1 x2 x3 y0 y1 y2 t then mkH x1 y0 y1 y2 else some 0) (finS (mkR x2 x3 y0 y1 t) && mkG x1 x2 x3 y0 y1 y2 t) w) := by
  have hst := run_store_float Try.prog
  have FV := fun W => sFinV g0 g1 g2 W
  have FT := fun W => finite_any it W
  have SM := fun bb W hb b1 b2 b3 => sMkoP h1 h2 h3 g0 g1 g2 it bb W hb b1 b2 b3
  have hS := stMk_start w a0 a1 a2 a3 p0 p1 p2
  unfold mkOk at ok
  simp only [Bool.and_eq_true] at ok
  obtain ⟨oB, oV, oF⟩ := ok
  rw [oV] at FV
  rw [oF] at FT
  generalize (if finS (mkR x2 x3 y0 y1 t) && mkG x1 x2 x3 y0 y1 y2 t then mkN y0 y1 y2 else some 0) = vN at SM ⊢
  generalize (if finS (mkR x2 x3 y0 y1 t) && mkG x1 x2 x3 y0 y1 y2 t then wrapV (mkR x2 x3 y0 y1 t) else some 0) = vE at SM ⊢
  generalize (if finS (mkR x2 x3 y0 y1 t) && mkG x1 x2 x3 y0 y1 y2 t then mkH x1 y0 y1 y2 else some 0) = vH at SM ⊢
  generalize (finS (mkR x2 x3 y0 y1 t) && mkG x1 x2 x3 y0 y1 y2 t) = ff at SM ⊢
  obtain ⟨⟨b0, b1, b2, b3⟩, -⟩ := stMk_at hS
  go_enter Try.func7, Try.ntmps7
  go_wp2_with fail
  refine (sBalP h0 h1 h2 h3 w.heap.size 0 (stMk w a0 a1 a2 a3 p0 p1 p2) (by simp; omega) b0 b1 b2 b3).mono ?_
  rw [oB]
  rintro _ W0 ⟨rfl, bb⟩
  have H0 := hS.at bb
  obtain ⟨-, k0, k1, k2⟩ := stMk_at H0
  clear hS bb b0 b1 b2 b3
  go_wp2_with fail
  (go_at_call 22; refine (FV _).mono ?_; rintro _ W1 ⟨rfl, bb⟩)
  have H1 := H0.at bb.below
  clear k0 k1 k2 H0 bb
  obtain ⟨⟨-, b1, b2, b3⟩, k0, k1, k2⟩ := stMk_at H1
  have hsz := H1.2.1.size
  simp at hsz
  go_wp2_with (go_at_call 23; refine (FT _).mono ?_; rintro _ _ ⟨n2, rfl, rfl⟩)
  (go_at_call 24; refine (SM w.heap.size (W1.drewN n2) (by show w.heap.size < W1.heap.size; omega) b1 b2 b3).mono ?_; rintro _ W3 ⟨⟨s0, s1, s2, rfl, j0, j1, j2⟩, bb⟩)
  have H3 := (H1.drewN n2).at bb
  obtain ⟨c0, c1, c2, cf⟩ := H3.cells
  clear bb k0 k1 k2 b1 b2 b3
  go_wp2_with fail
  refine bodyPost_ret (v := .tuple #[vecV s0 s1 s2, .bool ff]) (by simp [results, Try.results7, go_sem, c0, c1, c2]) rfl ⟨⟨_, _, _, rfl, j0, j1, j2⟩, ?_⟩
  exact stMk_below (H3.set3 (by omega) _ _ _)

theorem iMko (w : World) : Calls Try.prog 10 #[balV a0 a1 a2 a3, vecV p0 p1 p2, .float .f32 tw] w
    (RetVB (mkV x0 x1 x2 x3 y0 y1 y2 t (mkN y0 y1 y2)) (mkV x0 x1 x2 x3 y0 y1 y2 t (wrapV (mkR x2 x3 y0 y1 t))) (mkV x0 x1 x2 x3 y0 y1 y2 t (mkH x1 y0 y1 y2)) (mkB x0 x1 x2 x3 y0 y1 y2 t) w) := by
  unfold mkV mkB
  cases ok : mkOk x0 x1 x2 x3 y0 y1 y2 t with
  | false => exact iMkoF h0 h1 h2 h3 g0 g1 g2 it w ok
  | true => simpa only [Bool.true_and] using iMkoT h0 h1 h2 h3 g0 g1 g2 it w ok
theorem sMko (w : World) : Calls Try.prog 7 #[balV a0 a1 a2 a3, vecV p0 p1 p2, .float .f32 tw] w
    (RetVB (mkV x0 x1 x2 x3 y0 y1 y2 t (mkN y0 y1 y2)) (mkV x0 x1 x2 x3 y0 y1 y2 t (wrapV (mkR x2 x3 y0 y1 t))) (mkV x0 x1 x2 x3 y0 y1 y2 t (mkH x1 y0 y1 y2)) (mkB x0 x1 x2 x3 y0 y1 y2 t) w) := by
  unfold mkV mkB
  cases ok : mkOk x0 x1 x2 x3 y0 y1 y2 t with
  | false => exact sMkoF h0 h1 h2 h3 g0 g1 g2 it w ok
  | true => simpa only [Bool.true_and] using sMkoT h0 h1 h2 h3 g0 g1 g2 it w ok
end

theorem toVecM {a0 a1 a2 : Nat} (W : World) : Calls Try.prog 9 #[vecV a0 a1 a2] W fun e w' => e = .returned (vecV a0 a1 a2) ∧ Below W.heap.size W w' :=
  (toVec_any W).mono fun _ _ ⟨h, g⟩ => ⟨h, g.below⟩

theorem eqMrk_any {a0 a1 a2 b0 b1 b2 : Nat} {x0 x1 x2 : Option Nat} (h0 : Is .f32 a0 x0) (h1 : Is .f32 a1 x1) (h2 : Is .f32 a2 x2) (g0 : Is .f32 b0 x0) (g1 : Is .f32 b1 x1) (g2 : Is .f32 b2 x2) (w : World) :
    Calls Try.prog 11 #[vecV a0 a1 a2, vecV b0 b1 b2] w fun e w' => e = .returned (.bool true) ∧ Below w.heap.size w w' := by
  go_enter Try.func11, Try.ntmps11
  go_wp2_with (first | (apply wpList_wide und32 Try.underlying40; rfl; rfl; (first | assumption | exact is_lit64 _ (by decide) | exact is_lit32 _ (by decide)); intro Kq hKq rq nq hq; go_simp) | (go_at_call 14; refine (sameFloat_any (by assumption) (by assumption) _).mono ?_; rintro eq wq ⟨nq, rfl, rfl⟩))
  go_ret
  refine ⟨rfl, ?_⟩
  repeat' (first | with_reducible exact Below.refl _ _ | with_reducible assumption | (with_reducible refine Below.setCell ?_ (by first | omega | (simp; done) | (simp; omega)) _) | (with_reducible refine Below.alloc ?_ (by first | omega | (simp; done) | (simp; omega)) _) | (with_reducible refine below_drewN ?_ _) | (with_reducible refine Below.drew ?_) | (with_reducible refine Below.trans ?_ (Below.mono (by first | (with_reducible assumption) | exact Grow.below (by assumption)) (by first | omega | (simp; done) | (simp; omega)))))

abbrev stPm (w : World) (a0 a1 a2 a3 n e h : Nat) : World := (w.alloc (.cells #[.float .f32 a0, .float .f32 a1, .float .f32 a2, .float .f32 a3] 24)).alloc (.cells #[.float .f32 n, .float .f32 e, .float .f32 h] 26)

set_option maxHeartbeats 3200000 in
theorem walk_FnExactMarkOf (a0 a1 a2 a3 n e h t : Nat) (w : World) (k0 : a0 < 2 ^ 32) (k1 : a1 < 2 ^ 32) (k2 : a2 < 2 ^ 32) (k3 : a3 < 2 ^ 32) (kn : n < 2 ^ 32) (ke : e < 2 ^ 32) (kh : h < 2 ^ 32) (kt : t < 2 ^ 32) :
    Calls Try.prog 3 #[balV a0 a1 a2 a3, vecV n e h, .float .f32 t] w fun e w' => e = .returned (.bool true) ∧ Below w.heap.size w w' := by
  have h0 := Is.self (k := .f32) k0
  have h1 := Is.self (k := .f32) k1
  have h2 := Is.self (k := .f32) k2
  have h3 := Is.self (k := .f32) k3
  have hn := Is.self (k := .f32) kn
  have he := Is.self (k := .f32) ke
  have hh := Is.self (k := .f32) kh
  have ht := Is.self (k := .f32) kt
  have hst := run_store_float Try.prog
  have TB := fun W => toBal (a0 := a0) (a1 := a1) (a2 := a2) (a3 := a3) W
  have TM := fun W => toVecM (a0 := n) (a1 := e) (a2 := h) W
  have SP := fun W => sMko h0 h1 h2 h3 hn he hh ht W
  have IP := fun W => iMko h0 h1 h2 h3 hn he hh ht W
  generalize mkV (nrm .f32 a0) (nrm .f32 a1) (nrm .f32 a2) (nrm .f32 a3) (nrm .f32 n) (nrm .f32 e) (nrm .f32 h) (nrm .f32 t) (mkN (nrm .f32 n) (nrm .f32 e) (nrm .f32 h)) = v0 at SP IP
  generalize mkV (nrm .f32 a0) (nrm .f32 a1) (nrm .f32 a2) (nrm .f32 a3) (nrm .f32 n) (nrm .f32 e) (nrm .f32 h) (nrm .f32 t) (wrapV (mkR (nrm .f32 a2) (nrm .f32 a3) (nrm .f32 n) (nrm .f32 e) (nrm .f32 t))) = v1 at SP IP
  generalize mkV (nrm .f32 a0) (nrm .f32 a1) (nrm .f32 a2) (nrm .f32 a3) (nrm .f32 n) (nrm .f32 e) (nrm .f32 h) (nrm .f32 t) (mkH (nrm .f32 a1) (nrm .f32 n) (nrm .f32 e) (nrm .f32 h)) = v2 at SP IP
  generalize mkB (nrm .f32 a0) (nrm .f32 a1) (nrm .f32 a2) (nrm .f32 a3) (nrm .f32 n) (nrm .f32 e) (nrm .f32 h) (nrm .f32 t) = ok at SP IP
  clear h0 h1 h2 h3 hn he hh ht
  have r0 : ∀ R w', Has R 3 w' → w'.cell? ⟨R, 0, none⟩ = some (rdc w' R 0) := fun R w' h => h.cell (by decide)
  have r1 : ∀ R w', Has R 3 w' → w'.cell? ⟨R, 1, none⟩ = some (rdc w' R 1) := fun R w' h => h.cell (by decide)
  have r2 : ∀ R w', Has R 3 w' → w'.cell? ⟨R, 2, none⟩ = some (rdc w' R 2) := fun R w' h => h.cell (by decide)
  have rf : ∀ R w', Has R 3 w' → ∀ o, w'.frozen? ⟨R, o, none⟩ = false := fun R w' h o => h.frz o
  have q0 : ∀ w', Below (w.heap.size + 2) (stPm w a0 a1 a2 a3 n e h) w' → w'.cell? ⟨w.heap.size, 0, none⟩ = some (.float .f32 a0) := fun w' h => by rw [h.cell (by simp)]; simp [stPm]
  have q1 : ∀ w', Below (w.heap.size + 2) (stPm w a0 a1 a2 a3 n e h) w' → w'.cell? ⟨w.heap.size, 1, none⟩ = some (.float .f32 a1) := fun w' h => by rw [h.cell (by simp)]; simp [stPm]
  have q2 : ∀ w', Below (w.heap.size + 2) (stPm w a0 a1 a2 a3 n e h) w' → w'.cell? ⟨w.heap.size, 2, none⟩ = some (.float .f32 a2) := fun w' h => by rw [h.cell (by simp)]; simp [stPm]
  have q3 : ∀ w', Below (w.heap.size + 2) (stPm w a0 a1 a2 a3 n e h) w' → w'.cell? ⟨w.heap.size, 3, none⟩ = some (.float .f32 a3) := fun w' h => by rw [h.cell (by simp)]; simp [stPm]
  have p0 : ∀ w', Below (w.heap.size + 2) (stPm w a0 a1 a2 a3 n e h) w' → w'.cell? ⟨w.heap.size + 1, 0, none⟩ = some (.float .f32 n) := fun w' h => by rw [h.cell (by simp)]; simp [stPm]
  have p1 : ∀ w', Below (w.heap.size + 2) (stPm w a0 a1 a2 a3 n e h) w' → w'.cell? ⟨w.heap.size + 1, 1, none⟩ = some (.float .f32 e) := fun w' h => by rw [h.cell (by simp)]; simp [stPm]
  have p2 : ∀ w', Below (w.heap.size + 2) (stPm w a0 a1 a2 a3 n e h) w' → w'.cell? ⟨w.heap.size + 1, 2, none⟩ = some (.float .f32 h) := fun w' h => by rw [h.cell (by simp)]; simp [stPm]
  go_enter Try.func3, Try.ntmps3
  go_upto_region 1 with fail
  go_cut [7, 8] (fun s7 s8 wx => (∃ R c0 c1 c2, s7 = .pointer (some ⟨R, 0, none⟩) ∧ s8 = .bool ok ∧ VecIn wx R c0 c1 c2 ∧ Is .f32 c0 v0 ∧ Is .f32 c1 v1 ∧ Is .f32 c2 v2) ∧ Below (w.heap.size + 2) (stPm w a0 a1 a2 a3 n e h) wx)
  case first =>
    go_region_held3 (fun w' => Below (w.heap.size + 2) (stPm w a0 a1 a2 a3 n e h) w') ((repeat' (first | with_reducible assumption | with_reducible exact Below.refl _ _ | with_reducible exact keepW (by with_reducible assumption) (by with_reducible assumption) (by first | exact Nat.le_refl _ | assumption | omega | (simp; done) | (simp; omega)) | with_reducible exact keepS (by with_reducible assumption) (by with_reducible assumption) (by first | exact Nat.le_refl _ | assumption | omega | (simp; done) | (simp; omega)) | (with_reducible refine Below.setCell ?_ (by first | omega | (simp; done) | (simp; omega)) _) | (with_reducible refine below_drewN ?_ _) | (with_reducible refine Below.drew ?_) | (with_reducible refine Below.trans ?_ (Below.mono (by with_reducible assumption) (by first | omega | (simp; done) | (simp; omega)))) | (with_reducible refine Below.trans ?_ (Below.mono (Grow.below (by with_reducible assumption)) (by first | omega | (simp; done) | (simp; omega)))) | (with_reducible refine Below.alloc ?_ (by first | omega | (simp; done) | (simp; omega)) _))))
      (first | (go_at_call 8; refine (TB _).mono ?_; rintro eq wq ⟨rfl, hb⟩; have hz := hb.size; (try simp [stPm] at hz); (first | (have hR := Has.at (by assumption) hb) | ((have hR := Has.at (has_alloc3 _ _ _ _ _) hb); (try simp [stPm] at hR)) | ((have hR := Has.at (Has.drewN (has_alloc3 _ _ _ _ _) _) hb); (try simp [stPm] at hR)) | ((have hR := Has.at (Has.drew (has_alloc3 _ _ _ _ _)) hb); (try simp [stPm] at hR)) | skip)) | (go_at_call 9; refine (TM _).mono ?_; rintro eq wq ⟨rfl, hb⟩; have hz := hb.size; (try simp [stPm] at hz); (first | (have hR := Has.at (by assumption) hb) | ((have hR := Has.at (has_alloc3 _ _ _ _ _) hb); (try simp [stPm] at hR)) | ((have hR := Has.at (Has.drewN (has_alloc3 _ _ _ _ _) _) hb); (try simp [stPm] at hR)) | ((have hR := Has.at (Has.drew (has_alloc3 _ _ _ _ _)) hb); (try simp [stPm] at hR)) | skip)) | (go_at_call 7; refine (SP _).mono ?_; rintro eq wq ⟨⟨c0, c1, c2, rfl, i0, i1, i2⟩, hb⟩; have hz := hb.size; (try simp [stPm] at hz); (first | (have hR := Has.at (by assumption) hb) | ((have hR := Has.at (has_alloc3 _ _ _ _ _) hb); (try simp [stPm] at hR)) | ((have hR := Has.at (Has.drewN (has_alloc3 _ _ _ _ _) _) hb); (try simp [stPm] at hR)) | ((have hR := Has.at (Has.drew (has_alloc3 _ _ _ _ _)) hb); (try simp [stPm] at hR)) | skip)))
    all_goals
      go_wp2_with fail
      go_meet
      exact ⟨⟨_, _, _, _, rfl, rfl, by first | exact vec_put hR _ _ _ | exact ⟨by simp, by simp, by simp, by simp⟩, i0, i1, i2⟩, by with_reducible assumption⟩
  case rest =>
    obtain ⟨⟨R, c0, c1, c2, rfl, rfl, hV, i0, i1, i2⟩, hX⟩ := hcut
    obtain ⟨X, rfl⟩ : ∃ X, X = wc := ⟨wc, rfl⟩
    have hzc := hX.size
    simp [stPm] at hzc
    have q0' : ∀ w', Below X.heap.size X w' → w'.cell? ⟨w.heap.size, 0, none⟩ = some (.float .f32 a0) := fun w' h => q0 w' (hX.trans (h.mono (by omega)))
    have q1' : ∀ w', Below X.heap.size X w' → w'.cell? ⟨w.heap.size, 1, none⟩ = some (.float .f32 a1) := fun w' h => q1 w' (hX.trans (h.mono (by omega)))
    have q2' : ∀ w', Below X.heap.size X w' → w'.cell? ⟨w.heap.size, 2, none⟩ = some (.float .f32 a2) := fun w' h => q2 w' (hX.trans (h.mono (by omega)))
    have q3' : ∀ w', Below X.heap.size X w' → w'.cell? ⟨w.heap.size, 3, none⟩ = some (.float .f32 a3) := fun w' h => q3 w' (hX.trans (h.mono (by omega)))
    have p0' : ∀ w', Below X.heap.size X w' → w'.cell? ⟨w.heap.size + 1, 0, none⟩ = some (.float .f32 n) := fun w' h => p0 w' (hX.trans (h.mono (by omega)))
    have p1' : ∀ w', Below X.heap.size X w' → w'.cell? ⟨w.heap.size + 1, 1, none⟩ = some (.float .f32 e) := fun w' h => p1 w' (hX.trans (h.mono (by omega)))
    have p2' : ∀ w', Below X.heap.size X w' → w'.cell? ⟨w.heap.size + 1, 2, none⟩ = some (.float .f32 h) := fun w' h => p2 w' (hX.trans (h.mono (by omega)))
    clear q0 q1 q2 q3 p0 p1 p2
    go_upto_region 2 with fail
    go_cut [9, 10] (fun s9 s10 wx => (∃ R c0 c1 c2, s9 = .pointer (some ⟨R, 0, none⟩) ∧ s10 = .bool ok ∧ VecIn wx R c0 c1 c2 ∧ Is .f32 c0 v0 ∧ Is .f32 c1 v1 ∧ Is .f32 c2 v2) ∧ Below X.heap.size X wx)
    case first =>
      go_region_held3 (fun w' => Below X.heap.size X w') ((repeat' (first | with_reducible assumption | with_reducible exact Below.refl _ _ | with_reducible exact keepW (by with_reducible assumption) (by with_reducible assumption) (by first | exact Nat.le_refl _ | assumption | omega | (simp; done) | (simp; omega)) | with_reducible exact keepS (by with_reducible assumption) (by with_reducible assumption) (by first | exact Nat.le_refl _ | assumption | omega | (simp; done) | (simp; omega)) | (with_reducible refine Below.setCell ?_ (by first | omega | (simp; done) | (simp; omega)) _) | (with_reducible refine below_drewN ?_ _) | (with_reducible refine Below.drew ?_) | (with_reducible refine Below.trans ?_ (Below.mono (by with_reducible assumption) (by first | omega | (simp; done) | (simp; omega)))) | (with_reducible refine Below.trans ?_ (Below.mono (Grow.below (by with_reducible assumption)) (by first | omega | (simp; done) | (simp; omega)))) | (with_reducible refine Below.alloc ?_ (by first | omega | (simp; done) | (simp; omega)) _))))
        (first | (go_at_call 8; refine (TB _).mono ?_; rintro eq wq ⟨rfl, hb⟩; have hz := hb.size; (try simp at hz); (first | (have hR := Has.at (by assumption) hb) | ((have hR := Has.at (has_alloc3 _ _ _ _ _) hb); (try simp at hR)) | ((have hR := Has.at (Has.drewN (has_alloc3 _ _ _ _ _) _) hb); (try simp at hR)) | ((have hR := Has.at (Has.drew (has_alloc3 _ _ _ _ _)) hb); (try simp at hR)) | skip)) | (go_at_call 9; refine (TM _).mono ?_; rintro eq wq ⟨rfl, hb⟩; have hz := hb.size; (try simp at hz); (first | (have hR := Has.at (by assumption) hb) | ((have hR := Has.at (has_alloc3 _ _ _ _ _) hb); (try simp at hR)) | ((have hR := Has.at (Has.drewN (has_alloc3 _ _ _ _ _) _) hb); (try simp at hR)) | ((have hR := Has.at (Has.drew (has_alloc3 _ _ _ _ _)) hb); (try simp at hR)) | skip)) | (go_at_call 10; refine (IP _).mono ?_; rintro eq wq ⟨⟨d0, d1, d2, rfl, j0, j1, j2⟩, hb⟩; have hz := hb.size; (try simp at hz); (first | (have hR := Has.at (by assumption) hb) | ((have hR := Has.at (has_alloc3 _ _ _ _ _) hb); (try simp at hR)) | ((have hR := Has.at (Has.drewN (has_alloc3 _ _ _ _ _) _) hb); (try simp at hR)) | ((have hR := Has.at (Has.drew (has_alloc3 _ _ _ _ _)) hb); (try simp at hR)) | skip)))
      all_goals
        go_wp2_with fail
        go_meet
        exact ⟨⟨_, _, _, _, rfl, rfl, by first | exact vec_put hR _ _ _ | exact ⟨by simp, by simp, by simp, by simp⟩, j0, j1, j2⟩, by with_reducible assumption⟩
    case rest =>
      obtain ⟨⟨S, d0, d1, d2, rfl, rfl, hU, j0, j1, j2⟩, hY⟩ := hcut
      obtain ⟨Y, rfl⟩ : ∃ Y, Y = wc := ⟨wc, rfl⟩
      have hV' := hV.at hY
      obtain ⟨-, u0, u1, u2⟩ := hU
      obtain ⟨-, t0, t1, t2⟩ := hV'
      clear hV q0' q1' q2' q3' p0' p1' p2' r0 r1 r2 rf
      have hzy := hY.size
      go_wp2_with (go_at_call 11; refine (eqMrk_any j0 j1 j2 i0 i1 i2 _).mono ?_; rintro _ wq ⟨rfl, hb⟩)
      go_ret
      refine ⟨rfl, ?_⟩
      have b0 : Below w.heap.size w (stPm w a0 a1 a2 a3 n e h) := ((Below.refl _ _).alloc (Nat.le_refl _) _).alloc (by simp) _
      have b1 := b0.trans (hX.mono (by omega))
      have b2 := b1.trans (hY.mono (by omega))
      exact b2.trans (hb.mono (by omega))
end Go.Proofs.Ytngjpbfiijkibaa
