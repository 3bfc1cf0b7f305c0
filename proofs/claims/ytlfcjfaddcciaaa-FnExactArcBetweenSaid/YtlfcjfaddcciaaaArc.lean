/-
  The arc between two marks, of the program and of the model. No condition.
-/
import Derived.Test.YtlfcjfaddcciaaaPlcS
import Derived.Test.YtlfcjfaddcciaaaInnB
import Derived.Test.YtlfcjfaddcciaaaEqW
import Derived.Test.YtlfcjfaddcciaaaNumF
import Derived.Test.YtlfcjfaddcciaaaAngT
import Derived.Test.YtlfcjfaddcciaaaVCross
namespace Go.Proofs.Ytlfcjfaddcciaaa
open Go.RowKit

/-- The angle between two places. -/
def arcN (p0 p1 p2 s0 s1 s2 : Option Nat) : Option Nat :=
  angT (lenO (fo .sub .f32 (fo .mul .f32 p1 s2) (fo .mul .f32 p2 s1)) (fo .sub .f32 (fo .mul .f32 p2 s0) (fo .mul .f32 p0 s2)) (fo .sub .f32 (fo .mul .f32 p0 s1) (fo .mul .f32 p1 s0))) (innerO p0 p1 p2 s0 s1 s2)

theorem iCrsB {a0 a1 a2 b0 b1 b2 : Nat} {x0 x1 x2 y0 y1 y2 : Option Nat} (h0 : Is .f32 a0 x0) (h1 : Is .f32 a1 x1) (h2 : Is .f32 a2 x2) (g0 : Is .f32 b0 y0) (g1 : Is .f32 b1 y1) (g2 : Is .f32 b2 y2) (W : World) :
    Calls Try.prog 59 #[vecV a0 a1 a2, vecV b0 b1 b2] W fun e w' => (∃ r0 r1 r2, e = .returned (vecV r0 r1 r2) ∧ Is .f32 r0 (fo .sub .f32 (fo .mul .f32 x1 y2) (fo .mul .f32 x2 y1)) ∧ Is .f32 r1 (fo .sub .f32 (fo .mul .f32 x2 y0) (fo .mul .f32 x0 y2)) ∧ Is .f32 r2 (fo .sub .f32 (fo .mul .f32 x0 y1) (fo .mul .f32 x1 y0))) ∧ Below W.heap.size W w' :=
  (implCross h0 h1 h2 g0 g1 g2 W).mono fun _ _ ⟨r0, r1, r2, e, i0, i1, i2, g⟩ => ⟨⟨r0, r1, r2, e, i0, i1, i2⟩, g.below⟩

/-- A mark on the ground. -/
theorem iGround {n e h : Nat} (w : World) : Calls Try.prog 57 #[vecV n e h] w fun x w' => x = .returned (vecV n e 0) ∧ Below w.heap.size w w' := by
  have hst := run_store_float Try.prog
  go_enter Try.func57, Try.ntmps57
  go_wp2_with fail
  refine bodyPost_ret (v := vecV n e 0) (by simp [results, Try.results57, go_sem]) rfl ⟨rfl, ?_⟩
  repeat' (first | with_reducible exact Below.refl _ _ | with_reducible assumption | (with_reducible refine Below.setCell ?_ (by first | omega | (simp; done) | (simp; omega)) _) | (with_reducible refine Below.alloc ?_ (by first | omega | (simp; done) | (simp; omega)) _) | (with_reducible refine below_drewN ?_ _) | (with_reducible refine Below.drew ?_) | (with_reducible refine Below.trans ?_ (Below.mono (by first | (with_reducible assumption) | exact Grow.below (by assumption)) (by first | omega | (simp; done) | (simp; omega)))))

abbrev stAr (w : World) (n e h m f g : Nat) : World := ((w.alloc (.cells #[.float .f32 n, .float .f32 e, .float .f32 h] 33)).alloc (.cells #[.float .f32 m, .float .f32 f, .float .f32 g] 33)).alloc (.cells #[.float .f32 1065353216, .float .f32 1065353216, .float .f32 0, .float .f32 0] 31)

theorem stAr_cells (w : World) (n e h m f g : Nat) : ((stAr w n e h m f g).cell? ⟨w.heap.size, 0, none⟩ = some (.float .f32 n) ∧ (stAr w n e h m f g).cell? ⟨w.heap.size, 1, none⟩ = some (.float .f32 e) ∧ (stAr w n e h m f g).cell? ⟨w.heap.size, 2, none⟩ = some (.float .f32 h)) ∧
    ((stAr w n e h m f g).cell? ⟨w.heap.size + 1, 0, none⟩ = some (.float .f32 m) ∧ (stAr w n e h m f g).cell? ⟨w.heap.size + 1, 1, none⟩ = some (.float .f32 f) ∧ (stAr w n e h m f g).cell? ⟨w.heap.size + 1, 2, none⟩ = some (.float .f32 g)) ∧
    (stAr w n e h m f g).cell? ⟨w.heap.size + 1 + 1, 0, none⟩ = some (.float .f32 1065353216) ∧ (stAr w n e h m f g).cell? ⟨w.heap.size + 1 + 1, 1, none⟩ = some (.float .f32 1065353216) ∧ (stAr w n e h m f g).cell? ⟨w.heap.size + 1 + 1, 2, none⟩ = some (.float .f32 0) ∧ (stAr w n e h m f g).cell? ⟨w.heap.size + 1 + 1, 3, none⟩ = some (.float .f32 0) := by
  have key : ∀ W : World, (W.alloc (.cells #[.float .f32 1065353216, .float .f32 1065353216, .float .f32 0, .float .f32 0] 31)).cell? ⟨W.heap.size, 0, none⟩ = some (.float .f32 1065353216) ∧ (W.alloc (.cells #[.float .f32 1065353216, .float .f32 1065353216, .float .f32 0, .float .f32 0] 31)).cell? ⟨W.heap.size, 1, none⟩ = some (.float .f32 1065353216) ∧ (W.alloc (.cells #[.float .f32 1065353216, .float .f32 1065353216, .float .f32 0, .float .f32 0] 31)).cell? ⟨W.heap.size, 2, none⟩ = some (.float .f32 0) ∧ (W.alloc (.cells #[.float .f32 1065353216, .float .f32 1065353216, .float .f32 0, .float .f32 0] 31)).cell? ⟨W.heap.size, 3, none⟩ = some (.float .f32 0) := fun W => ⟨by simp, by simp, by simp, by simp⟩
  have h3 := key ((w.alloc (.cells #[.float .f32 n, .float .f32 e, .float .f32 h] 33)).alloc (.cells #[.float .f32 m, .float .f32 f, .float .f32 g] 33))
  simp only [World.size_alloc] at h3
  refine ⟨⟨by rw [World.cell?_alloc_lt _ _ _ (by simp; omega), World.cell?_alloc_lt _ _ _ (by simp)]; simp, by rw [World.cell?_alloc_lt _ _ _ (by simp; omega), World.cell?_alloc_lt _ _ _ (by simp)]; simp, by rw [World.cell?_alloc_lt _ _ _ (by simp; omega), World.cell?_alloc_lt _ _ _ (by simp)]; simp⟩, ⟨by rw [World.cell?_alloc_lt _ _ _ (by simp)]; simp, by rw [World.cell?_alloc_lt _ _ _ (by simp)]; simp, by rw [World.cell?_alloc_lt _ _ _ (by simp)]; simp⟩, h3⟩

set_option maxRecDepth 100000 in
set_option maxHeartbeats 6400000 in
theorem iArc0 {n e h m f g : Nat} {u0 u1 u2 y0 y1 y2 : Option Nat} {okA okB mA mB : Bool}
    (IA : ∀ W, Calls Try.prog 13 #[balV 1065353216 1065353216 0 0, vecV n e 0, .float .f32 0] W (RetVB u0 u1 u2 okA W))
    (IB : ∀ W, Calls Try.prog 13 #[balV 1065353216 1065353216 0 0, vecV m f 0, .float .f32 0] W (RetVB y0 y1 y2 okB W))
    (MA : ∀ W, Calls Try.prog 39 #[vecV n e h] W fun e w' => e = .returned (.bool mA) ∧ Below W.heap.size W w')
    (MB : ∀ W, Calls Try.prog 39 #[vecV m f g] W fun e w' => e = .returned (.bool mB) ∧ Below W.heap.size W w') (w : World) :
    Calls Try.prog 20 #[vecV n e h, vecV m f g] w (RetNum (if okA && okB && mA && mB then finN (arcN u0 u1 u2 y0 y1 y2) else some 0) (okA && okB && mA && mB && finS (arcN u0 u1 u2 y0 y1 y2)) w) := by
  have hst := run_store_float Try.prog
  obtain ⟨vv, hvv⟩ : ∃ vv, vv = (if okA && okB && mA && mB then finN (arcN u0 u1 u2 y0 y1 y2) else some 0) := ⟨_, rfl⟩
  obtain ⟨bb, hbb⟩ : ∃ bb, bb = (okA && okB && mA && mB && finS (arcN u0 u1 u2 y0 y1 y2)) := ⟨_, rfl⟩
  rw [← hvv, ← hbb]
  have HV := Lib.hid hvv
  have HB := Lib.hid hbb
  clear hvv hbb
  have GA := fun W => iGround (n := n) (e := e) (h := h) W
  have GB := fun W => iGround (n := m) (e := f) (h := g) W
  have r0 : ∀ R w', Has R 3 w' → w'.cell? ⟨R, 0, none⟩ = some (rdc w' R 0) := fun R w' h => h.cell (by decide)
  have r1 : ∀ R w', Has R 3 w' → w'.cell? ⟨R, 1, none⟩ = some (rdc w' R 1) := fun R w' h => h.cell (by decide)
  have r2 : ∀ R w', Has R 3 w' → w'.cell? ⟨R, 2, none⟩ = some (rdc w' R 2) := fun R w' h => h.cell (by decide)
  have rf : ∀ R w', Has R 3 w' → ∀ o, w'.frozen? ⟨R, o, none⟩ = false := fun R w' h o => h.frz o
  have Q : RowKit.Hid (∀ w', Below (w.heap.size + 3) (stAr w n e h m f g) w' → (w'.cell? ⟨w.heap.size, 0, none⟩ = some (.float .f32 n) ∧ w'.cell? ⟨w.heap.size, 1, none⟩ = some (.float .f32 e) ∧ w'.cell? ⟨w.heap.size, 2, none⟩ = some (.float .f32 h)) ∧ (w'.cell? ⟨w.heap.size + 1, 0, none⟩ = some (.float .f32 m) ∧ w'.cell? ⟨w.heap.size + 1, 1, none⟩ = some (.float .f32 f) ∧ w'.cell? ⟨w.heap.size + 1, 2, none⟩ = some (.float .f32 g)) ∧ w'.cell? ⟨w.heap.size + 1 + 1, 0, none⟩ = some (.float .f32 1065353216) ∧ w'.cell? ⟨w.heap.size + 1 + 1, 1, none⟩ = some (.float .f32 1065353216) ∧ w'.cell? ⟨w.heap.size + 1 + 1, 2, none⟩ = some (.float .f32 0) ∧ w'.cell? ⟨w.heap.size + 1 + 1, 3, none⟩ = some (.float .f32 0)) := Lib.hid (fun w' hw => by
    obtain ⟨⟨a0, a1, a2⟩, ⟨b0, b1, b2⟩, q0, q1, q2, q3⟩ := stAr_cells w n e h m f g
    refine ⟨⟨(hw.cell (by simp)).trans a0, (hw.cell (by simp)).trans a1, (hw.cell (by simp)).trans a2⟩, ⟨(hw.cell (by simp)).trans b0, (hw.cell (by simp)).trans b1, (hw.cell (by simp)).trans b2⟩, (hw.cell (by simp)).trans q0, (hw.cell (by simp)).trans q1, (hw.cell (by simp)).trans q2, (hw.cell (by simp)).trans q3⟩)
  have q0 : ∀ w', Below (w.heap.size + 3) (stAr w n e h m f g) w' → w'.cell? ⟨w.heap.size + 1 + 1, 0, none⟩ = some (.float .f32 1065353216) := fun w' h => (Q.out w' h).2.2.1
  have q1 : ∀ w', Below (w.heap.size + 3) (stAr w n e h m f g) w' → w'.cell? ⟨w.heap.size + 1 + 1, 1, none⟩ = some (.float .f32 1065353216) := fun w' h => (Q.out w' h).2.2.2.1
  have q2 : ∀ w', Below (w.heap.size + 3) (stAr w n e h m f g) w' → w'.cell? ⟨w.heap.size + 1 + 1, 2, none⟩ = some (.float .f32 0) := fun w' h => (Q.out w' h).2.2.2.2.1
  have q3 : ∀ w', Below (w.heap.size + 3) (stAr w n e h m f g) w' → w'.cell? ⟨w.heap.size + 1 + 1, 3, none⟩ = some (.float .f32 0) := fun w' h => (Q.out w' h).2.2.2.2.2
  have a0 : ∀ w', Below (w.heap.size + 3) (stAr w n e h m f g) w' → w'.cell? ⟨w.heap.size, 0, none⟩ = some (.float .f32 n) := fun w' h => (Q.out w' h).1.1
  have a1 : ∀ w', Below (w.heap.size + 3) (stAr w n e h m f g) w' → w'.cell? ⟨w.heap.size, 1, none⟩ = some (.float .f32 e) := fun w' h => (Q.out w' h).1.2.1
  have a2 : ∀ w', Below (w.heap.size + 3) (stAr w n e h m f g) w' → w'.cell? ⟨w.heap.size, 2, none⟩ = some (.float .f32 h) := fun w' h => (Q.out w' h).1.2.2
  go_enter Try.func20, Try.ntmps20
  go_upto_region 2 with fail
  go_cut [7, 8] (fun s7 s8 wx => (∃ R c0 c1 c2, s7 = .pointer (some ⟨R, 0, none⟩) ∧ s8 = .bool okA ∧ VecIn wx R c0 c1 c2 ∧ Is .f32 c0 u0 ∧ Is .f32 c1 u1 ∧ Is .f32 c2 u2) ∧ Below (w.heap.size + 3) (stAr w n e h m f g) wx)
  case first =>
    clear Q MA MB IB GB HV HB
    go_region_held3 (fun w' => Below (w.heap.size + 3) (stAr w n e h m f g) w') ((repeat' (first | with_reducible assumption | with_reducible exact Below.refl _ _ | with_reducible exact keepW (by with_reducible assumption) (by with_reducible assumption) (by first | exact Nat.le_refl _ | assumption | omega | (simp; done) | (simp; omega)) | with_reducible exact keepS (by with_reducible assumption) (by with_reducible assumption) (by first | exact Nat.le_refl _ | assumption | omega | (simp; done) | (simp; omega)) | (with_reducible refine Below.setCell ?_ (by first | omega | (simp; done) | (simp; omega)) _) | (with_reducible refine below_drewN ?_ _) | (with_reducible refine Below.drew ?_) | (with_reducible refine Below.trans ?_ (Below.mono (by with_reducible assumption) (by first | omega | (simp; done) | (simp; omega)))) | (with_reducible refine Below.trans ?_ (Below.mono (Grow.below (by with_reducible assumption)) (by first | omega | (simp; done) | (simp; omega)))) | (with_reducible refine Below.alloc ?_ (by first | omega | (simp; done) | (simp; omega)) _))))
      (first | (go_at_call 57; refine (GA _).mono ?_; rintro eq wq ⟨rfl, hb⟩; have hz := hb.size; (try simp [stAr] at hz); (first | (have hR := Has.at (by assumption) hb) | ((have hR := Has.at (has_alloc3 _ _ _ _ _) hb); (try simp [stAr] at hR)) | ((have hR := Has.at (Has.drewN (has_alloc3 _ _ _ _ _) _) hb); (try simp [stAr] at hR)) | ((have hR := Has.at (Has.drew (has_alloc3 _ _ _ _ _)) hb); (try simp [stAr] at hR)) | skip)) | (go_at_call 13; refine (IA _).mono ?_; rintro eq wq ⟨⟨c0, c1, c2, rfl, i0, i1, i2⟩, hb⟩; have hz := hb.size; (try simp [stAr] at hz); (first | (have hR := Has.at (by assumption) hb) | ((have hR := Has.at (has_alloc3 _ _ _ _ _) hb); (try simp [stAr] at hR)) | ((have hR := Has.at (Has.drewN (has_alloc3 _ _ _ _ _) _) hb); (try simp [stAr] at hR)) | ((have hR := Has.at (Has.drew (has_alloc3 _ _ _ _ _)) hb); (try simp [stAr] at hR)) | skip)))
    all_goals
      go_wp2_with fail
      go_meet
      exact ⟨⟨_, _, _, _, rfl, rfl, by first | exact vec_put hR _ _ _ | exact ⟨by simp, by simp, by simp, by simp⟩, i0, i1, i2⟩, by with_reducible assumption⟩
  case rest =>
    obtain ⟨⟨R, c0, c1, c2, rfl, rfl, hV, i0, i1, i2⟩, hX⟩ := hcut
    obtain ⟨X, rfl⟩ : ∃ X, X = wc := ⟨wc, rfl⟩
    have hzc := hX.size
    simp [stAr] at hzc
    clear q0 q1 q2 q3 a0 a1 a2
    have QX : ∀ w', Below X.heap.size X w' → Below (w.heap.size + 3) (stAr w n e h m f g) w' := fun w' h => hX.trans (h.mono (by omega))
    have q0 : ∀ w', Below X.heap.size X w' → w'.cell? ⟨w.heap.size + 1 + 1, 0, none⟩ = some (.float .f32 1065353216) := fun w' h => (Q.out w' (QX w' h)).2.2.1
    have q1 : ∀ w', Below X.heap.size X w' → w'.cell? ⟨w.heap.size + 1 + 1, 1, none⟩ = some (.float .f32 1065353216) := fun w' h => (Q.out w' (QX w' h)).2.2.2.1
    have q2 : ∀ w', Below X.heap.size X w' → w'.cell? ⟨w.heap.size + 1 + 1, 2, none⟩ = some (.float .f32 0) := fun w' h => (Q.out w' (QX w' h)).2.2.2.2.1
    have q3 : ∀ w', Below X.heap.size X w' → w'.cell? ⟨w.heap.size + 1 + 1, 3, none⟩ = some (.float .f32 0) := fun w' h => (Q.out w' (QX w' h)).2.2.2.2.2
    have b0 : ∀ w', Below X.heap.size X w' → w'.cell? ⟨w.heap.size + 1, 0, none⟩ = some (.float .f32 m) := fun w' h => (Q.out w' (QX w' h)).2.1.1
    have b1 : ∀ w', Below X.heap.size X w' → w'.cell? ⟨w.heap.size + 1, 1, none⟩ = some (.float .f32 f) := fun w' h => (Q.out w' (QX w' h)).2.1.2.1
    have b2 : ∀ w', Below X.heap.size X w' → w'.cell? ⟨w.heap.size + 1, 2, none⟩ = some (.float .f32 g) := fun w' h => (Q.out w' (QX w' h)).2.1.2.2
    go_upto_region 3 with fail
    go_cut [9, 10] (fun s9 s10 wx => (∃ R c0 c1 c2, s9 = .pointer (some ⟨R, 0, none⟩) ∧ s10 = .bool okB ∧ VecIn wx R c0 c1 c2 ∧ Is .f32 c0 y0 ∧ Is .f32 c1 y1 ∧ Is .f32 c2 y2) ∧ Below X.heap.size X wx)
    case first =>
      clear Q MA MB IA GA QX hV HV HB
      go_region_held3 (fun w' => Below X.heap.size X w') ((repeat' (first | with_reducible assumption | with_reducible exact Below.refl _ _ | with_reducible exact keepW (by with_reducible assumption) (by with_reducible assumption) (by first | exact Nat.le_refl _ | assumption | omega | (simp; done) | (simp; omega)) | with_reducible exact keepS (by with_reducible assumption) (by with_reducible assumption) (by first | exact Nat.le_refl _ | assumption | omega | (simp; done) | (simp; omega)) | (with_reducible refine Below.setCell ?_ (by first | omega | (simp; done) | (simp; omega)) _) | (with_reducible refine below_drewN ?_ _) | (with_reducible refine Below.drew ?_) | (with_reducible refine Below.trans ?_ (Below.mono (by with_reducible assumption) (by first | omega | (simp; done) | (simp; omega)))) | (with_reducible refine Below.trans ?_ (Below.mono (Grow.below (by with_reducible assumption)) (by first | omega | (simp; done) | (simp; omega)))) | (with_reducible refine Below.alloc ?_ (by first | omega | (simp; done) | (simp; omega)) _))))
        (first | (go_at_call 57; refine (GB _).mono ?_; rintro eq wq ⟨rfl, hb⟩; have hz := hb.size; (try simp at hz); (first | (have hR := Has.at (by assumption) hb) | ((have hR := Has.at (has_alloc3 _ _ _ _ _) hb); (try simp at hR)) | ((have hR := Has.at (Has.drewN (has_alloc3 _ _ _ _ _) _) hb); (try simp at hR)) | ((have hR := Has.at (Has.drew (has_alloc3 _ _ _ _ _)) hb); (try simp at hR)) | skip)) | (go_at_call 13; refine (IB _).mono ?_; rintro eq wq ⟨⟨d0, d1, d2, rfl, j0, j1, j2⟩, hb⟩; have hz := hb.size; (try simp at hz); (first | (have hR := Has.at (by assumption) hb) | ((have hR := Has.at (has_alloc3 _ _ _ _ _) hb); (try simp at hR)) | ((have hR := Has.at (Has.drewN (has_alloc3 _ _ _ _ _) _) hb); (try simp at hR)) | ((have hR := Has.at (Has.drew (has_alloc3 _ _ _ _ _)) hb); (try simp at hR)) | skip)))
      all_goals
        go_wp2_with fail
        go_meet
        exact ⟨⟨_, _, _, _, rfl, rfl, by first | exact vec_put hR _ _ _ | exact ⟨by simp, by simp, by simp, by simp⟩, j0, j1, j2⟩, by with_reducible assumption⟩
    case rest =>
      obtain ⟨⟨S, d0, d1, d2, rfl, rfl, hU, j0, j1, j2⟩, hY⟩ := hcut
      obtain ⟨Y, rfl⟩ : ∃ Y, Y = wc := ⟨wc, rfl⟩
      have hV' := hV.at hY
      have hzy := hY.size
      have bw : Below w.heap.size w (stAr w n e h m f g) := (((Below.refl _ _).alloc (Nat.le_refl _) _).alloc (by simp) _).alloc (by simp; omega) _
      have bY : Below w.heap.size w Y := (bw.trans (hX.mono (by omega))).trans (hY.mono (by omega))
      have QY : ∀ w', Below Y.heap.size Y w' → Below (w.heap.size + 3) (stAr w n e h m f g) w' := fun w' h => QX w' (hY.trans (h.mono (by omega)))
      clear hV q0 q1 q2 q3 b0 b1 b2 r0 r1 r2 rf bw
      obtain ⟨⟨a0, a1, a2⟩, ⟨b0, b1, b2⟩, -⟩ := Q.out Y (QY Y (Below.refl _ _))
      cases okA with
      | false =>
        obtain rfl : vv = some 0 := by simpa using HV.out
        obtain rfl : bb = false := by simpa using HB.out
        go_wp2_with fail
        go_ret2
        exact ⟨⟨_, rfl, zero32⟩, bY⟩
      | true =>
      cases okB with
      | false =>
        obtain rfl : vv = some 0 := by simpa using HV.out
        obtain rfl : bb = false := by simpa using HB.out
        go_wp2_with fail
        go_ret2
        exact ⟨⟨_, rfl, zero32⟩, bY⟩
      | true =>
      cases mA with
      | false =>
        obtain rfl : vv = some 0 := by simpa using HV.out
        obtain rfl : bb = false := by simpa using HB.out
        go_wp2_with (go_at_call 39; refine (MA _).mono ?_; rintro _ Wm ⟨rfl, hm⟩)
        go_ret2
        exact ⟨⟨_, rfl, zero32⟩, bY.trans (hm.mono (by omega))⟩
      | true =>
      go_wp2_with fail
      (go_at_call 39; refine (MA _).mono ?_; rintro _ Wm ⟨rfl, hm⟩)
      have hzm := hm.size
      obtain ⟨-, ⟨e0, e1, e2⟩, -⟩ := Q.out Wm (QY Wm hm)
      cases mB with
      | false =>
        obtain rfl : vv = some 0 := by simpa using HV.out
        obtain rfl : bb = false := by simpa using HB.out
        go_wp2_with (go_at_call 39; refine (MB _).mono ?_; rintro _ Wn ⟨rfl, hn⟩)
        go_ret2
        exact ⟨⟨_, rfl, zero32⟩, (bY.trans (hm.mono (by omega))).trans (hn.mono (by omega))⟩
      | true =>
      obtain rfl : vv = finN (arcN u0 u1 u2 y0 y1 y2) := by simpa using HV.out
      obtain rfl : bb = finS (arcN u0 u1 u2 y0 y1 y2) := by simpa using HB.out
      go_wp2_with (go_at_call 39; refine (MB _).mono ?_; rintro _ Z ⟨rfl, hn⟩)
      have hzn := hn.size
      have bZ : Below Y.heap.size Y Z := hm.trans (hn.mono hzm)
      have hP := hV'.at bZ
      have hQ := hU.at bZ
      have bwZ := bY.trans (bZ.mono bY.size)
      clear a0 a1 a2 b0 b1 b2 e0 e1 e2 hm hn hzm hzn bZ hV' hU
      have p0 : ∀ w', Below Z.heap.size Z w' → w'.cell? ⟨R, 0, none⟩ = some (.float .f32 c0) := fun w' h => (hP.at h).2.1
      have p1 : ∀ w', Below Z.heap.size Z w' → w'.cell? ⟨R, 1, none⟩ = some (.float .f32 c1) := fun w' h => (hP.at h).2.2.1
      have p2 : ∀ w', Below Z.heap.size Z w' → w'.cell? ⟨R, 2, none⟩ = some (.float .f32 c2) := fun w' h => (hP.at h).2.2.2
      have e0 : ∀ w', Below Z.heap.size Z w' → w'.cell? ⟨S, 0, none⟩ = some (.float .f32 d0) := fun w' h => (hQ.at h).2.1
      have e1 : ∀ w', Below Z.heap.size Z w' → w'.cell? ⟨S, 1, none⟩ = some (.float .f32 d1) := fun w' h => (hQ.at h).2.2.1
      have e2 : ∀ w', Below Z.heap.size Z w' → w'.cell? ⟨S, 2, none⟩ = some (.float .f32 d2) := fun w' h => (hQ.at h).2.2.2
      clear hP hQ
      (refine wp_region_held_drew (S := fun w' => Below Z.heap.size Z w') (by kernel_rfl) (by (try dsimp only); (repeat' (first | with_reducible assumption | with_reducible exact Below.refl _ _ | with_reducible exact keepW (by with_reducible assumption) (by with_reducible assumption) (by first | exact Nat.le_refl _ | assumption | omega | (simp; done) | (simp; omega)) | with_reducible exact keepS (by with_reducible assumption) (by with_reducible assumption) (by first | exact Nat.le_refl _ | assumption | omega | (simp; done) | (simp; omega)) | (with_reducible refine Below.setCell ?_ (by first | omega | (simp; done) | (simp; omega)) _) | (with_reducible refine below_drewN ?_ _) | (with_reducible refine Below.drew ?_) | (with_reducible refine Below.trans ?_ (Below.mono (by with_reducible assumption) (by first | omega | (simp; done) | (simp; omega)))) | (with_reducible refine Below.trans ?_ (Below.mono (Grow.below (by with_reducible assumption)) (by first | omega | (simp; done) | (simp; omega)))) | (with_reducible refine Below.alloc ?_ (by first | omega | (simp; done) | (simp; omega)) _)))) (fun hHeld => ?_))
      (refine wpTake (i := 0) (some 42) (v := ?_) rfl (by rfl) (by kernel_rfl) (by kernel_rfl) (by kernel_rfl) (fun _ _ _ h => h) (Or.inl ⟨by rfl, ?_⟩) (by assumption) ?_; rotate_left; (focus (intro w hSw; (try dsimp only at hSw); go_simp; (try with_reducible rfl))); (simp only [Act.put, List.setIfInBounds_toArray, List.set_cons_zero, List.set_cons_succ]))
      (refine wpTake (i := 1) (some 43) (v := ?_) rfl (by rfl) (by kernel_rfl) (by kernel_rfl) (by kernel_rfl) (fun _ _ _ h => h) (Or.inl ⟨by rfl, ?_⟩) (by assumption) ?_; rotate_left; (focus (intro w hSw; (try dsimp only at hSw); go_simp; (try with_reducible rfl))); (simp only [Act.put, List.setIfInBounds_toArray, List.set_cons_zero, List.set_cons_succ]))
      (refine wpTake (i := 4) (some 46) (v := ?_) rfl (by rfl) (by kernel_rfl) (by kernel_rfl) (by kernel_rfl) (fun _ _ _ h => h) (Or.inl ⟨by rfl, ?_⟩) (by assumption) ?_; rotate_left; (focus (intro w hSw; (try dsimp only at hSw); go_simp; (try with_reducible rfl))); (simp only [Act.put, List.setIfInBounds_toArray, List.set_cons_zero, List.set_cons_succ]))
      (refine wpTake (i := 5) (some 47) (v := ?_) rfl (by rfl) (by kernel_rfl) (by kernel_rfl) (by kernel_rfl) (fun _ _ _ h => h) (Or.inl ⟨by rfl, ?_⟩) (by assumption) ?_; rotate_left; (focus (intro w hSw; (try dsimp only at hSw); go_simp; (try with_reducible rfl))); (simp only [Act.put, List.setIfInBounds_toArray, List.set_cons_zero, List.set_cons_succ]))
      (refine wpAnyH_ready (rs := [2]) (by kernel_rfl) (by simp) ?_; refine AllReadyH.cons rfl (fun K hK => ?_) AllReadyH.nil; go_simp)
      (go_at_call 59; (with_reducible refine (iCrsB i0 i1 i2 j0 j1 j2 _).mono ?_); rintro eq wq ⟨⟨k0, k1, k2, rfl, l0, l1, l2⟩, hbs⟩)
      (go_wp2_with fail; refine hK.out _ _ (by (try dsimp only); (repeat' (first | with_reducible assumption | with_reducible exact Below.refl _ _ | with_reducible exact keepW (by with_reducible assumption) (by with_reducible assumption) (by first | exact Nat.le_refl _ | assumption | omega | (simp; done) | (simp; omega)) | with_reducible exact keepS (by with_reducible assumption) (by with_reducible assumption) (by first | exact Nat.le_refl _ | assumption | omega | (simp; done) | (simp; omega)) | (with_reducible refine Below.setCell ?_ (by first | omega | (simp; done) | (simp; omega)) _) | (with_reducible refine below_drewN ?_ _) | (with_reducible refine Below.drew ?_) | (with_reducible refine Below.trans ?_ (Below.mono (by with_reducible assumption) (by first | omega | (simp; done) | (simp; omega)))) | (with_reducible refine Below.trans ?_ (Below.mono (Grow.below (by with_reducible assumption)) (by first | omega | (simp; done) | (simp; omega)))) | (with_reducible refine Below.alloc ?_ (by first | omega | (simp; done) | (simp; omega)) _)))) (fun hHeld => ?_); clear hK K; try (simp only [Act.put, List.setIfInBounds_toArray, List.set_cons_zero, List.set_cons_succ]))
      (refine wpAnyH_ready (rs := [3]) (by kernel_rfl) (by simp) ?_; refine AllReadyH.cons rfl (fun K hK => ?_) AllReadyH.nil; go_simp)
      (go_at_call 51; (with_reducible refine (iLenB l0 l1 l2 _).mono ?_); rintro eq wq ⟨⟨rP, rfl, iP⟩, hbs⟩)
      (go_wp2_with fail; refine hK.out _ _ (by (try dsimp only); (repeat' (first | with_reducible assumption | with_reducible exact Below.refl _ _ | with_reducible exact keepW (by with_reducible assumption) (by with_reducible assumption) (by first | exact Nat.le_refl _ | assumption | omega | (simp; done) | (simp; omega)) | with_reducible exact keepS (by with_reducible assumption) (by with_reducible assumption) (by first | exact Nat.le_refl _ | assumption | omega | (simp; done) | (simp; omega)) | (with_reducible refine Below.setCell ?_ (by first | omega | (simp; done) | (simp; omega)) _) | (with_reducible refine below_drewN ?_ _) | (with_reducible refine Below.drew ?_) | (with_reducible refine Below.trans ?_ (Below.mono (by with_reducible assumption) (by first | omega | (simp; done) | (simp; omega)))) | (with_reducible refine Below.trans ?_ (Below.mono (Grow.below (by with_reducible assumption)) (by first | omega | (simp; done) | (simp; omega)))) | (with_reducible refine Below.alloc ?_ (by first | omega | (simp; done) | (simp; omega)) _)))) (fun hHeld => ?_); clear hK K; try (simp only [Act.put, List.setIfInBounds_toArray, List.set_cons_zero, List.set_cons_succ]))
      (refine wpAnyH_ready (rs := [6]) (by kernel_rfl) (by simp) ?_; refine AllReadyH.cons rfl (fun K hK => ?_) AllReadyH.nil; go_simp)
      (go_at_call 50; (with_reducible refine (iInnB i0 i1 i2 j0 j1 j2 _).mono ?_); rintro eq wq ⟨⟨rI, rfl, iI⟩, hbs⟩)
      (go_wp2_with fail; refine hK.out _ _ (by (try dsimp only); (repeat' (first | with_reducible assumption | with_reducible exact Below.refl _ _ | with_reducible exact keepW (by with_reducible assumption) (by with_reducible assumption) (by first | exact Nat.le_refl _ | assumption | omega | (simp; done) | (simp; omega)) | with_reducible exact keepS (by with_reducible assumption) (by with_reducible assumption) (by first | exact Nat.le_refl _ | assumption | omega | (simp; done) | (simp; omega)) | (with_reducible refine Below.setCell ?_ (by first | omega | (simp; done) | (simp; omega)) _) | (with_reducible refine below_drewN ?_ _) | (with_reducible refine Below.drew ?_) | (with_reducible refine Below.trans ?_ (Below.mono (by with_reducible assumption) (by first | omega | (simp; done) | (simp; omega)))) | (with_reducible refine Below.trans ?_ (Below.mono (Grow.below (by with_reducible assumption)) (by first | omega | (simp; done) | (simp; omega)))) | (with_reducible refine Below.alloc ?_ (by first | omega | (simp; done) | (simp; omega)) _)))) (fun hHeld => ?_); clear hK K; try (simp only [Act.put, List.setIfInBounds_toArray, List.set_cons_zero, List.set_cons_succ]))
      (try simp at hHeld)
      (refine wpAnyH_ready (rs := [7]) (by kernel_rfl) (by simp) ?_; refine AllReadyH.cons rfl (fun K hK => ?_) AllReadyH.nil; go_simp)
      (go_at_call 58; (refine (iAngT iP iI _).mono ?_); rintro eq wq ⟨rA, nA, rfl, iA, rfl⟩)
      (go_wp2_with fail; refine hK.out _ _ (by (try dsimp only); (repeat' (first | with_reducible assumption | with_reducible exact Below.refl _ _ | with_reducible exact keepW (by with_reducible assumption) (by with_reducible assumption) (by first | exact Nat.le_refl _ | assumption | omega | (simp; done) | (simp; omega)) | with_reducible exact keepS (by with_reducible assumption) (by with_reducible assumption) (by first | exact Nat.le_refl _ | assumption | omega | (simp; done) | (simp; omega)) | (with_reducible refine Below.setCell ?_ (by first | omega | (simp; done) | (simp; omega)) _) | (with_reducible refine below_drewN ?_ _) | (with_reducible refine Below.drew ?_) | (with_reducible refine Below.trans ?_ (Below.mono (by with_reducible assumption) (by first | omega | (simp; done) | (simp; omega)))) | (with_reducible refine Below.trans ?_ (Below.mono (Grow.below (by with_reducible assumption)) (by first | omega | (simp; done) | (simp; omega)))) | (with_reducible refine Below.alloc ?_ (by first | omega | (simp; done) | (simp; omega)) _)))) (fun hHeld => ?_); clear hK K; try (simp only [Act.put, List.setIfInBounds_toArray, List.set_cons_zero, List.set_cons_succ]))
      have FN := fun W => iFinN iA W
      (try simp at hHeld)
      (refine wpAnyH_ready (rs := [8]) (by kernel_rfl) (by simp) ?_; refine AllReadyH.cons rfl (fun K hK => ?_) AllReadyH.nil; go_simp)
      (go_at_call 49; (refine (FN _).mono ?_); rintro eq wq ⟨⟨rN, rfl, iN⟩, hbs⟩)
      (go_wp2_with fail; refine hK.out _ _ (by (try dsimp only); (repeat' (first | with_reducible assumption | with_reducible exact Below.refl _ _ | with_reducible exact keepW (by with_reducible assumption) (by with_reducible assumption) (by first | exact Nat.le_refl _ | assumption | omega | (simp; done) | (simp; omega)) | with_reducible exact keepS (by with_reducible assumption) (by with_reducible assumption) (by first | exact Nat.le_refl _ | assumption | omega | (simp; done) | (simp; omega)) | (with_reducible refine Below.setCell ?_ (by first | omega | (simp; done) | (simp; omega)) _) | (with_reducible refine below_drewN ?_ _) | (with_reducible refine Below.drew ?_) | (with_reducible refine Below.trans ?_ (Below.mono (by with_reducible assumption) (by first | omega | (simp; done) | (simp; omega)))) | (with_reducible refine Below.trans ?_ (Below.mono (Grow.below (by with_reducible assumption)) (by first | omega | (simp; done) | (simp; omega)))) | (with_reducible refine Below.alloc ?_ (by first | omega | (simp; done) | (simp; omega)) _)))) (fun hHeld => ?_); clear hK K; try (simp only [Act.put, List.setIfInBounds_toArray, List.set_cons_zero, List.set_cons_succ]))
      (refine wpTake (i := 9) (some 51) (v := ?_) rfl (by rfl) (by kernel_rfl) (by kernel_rfl) (by kernel_rfl) (fun _ _ _ h => h) (Or.inl ⟨by rfl, ?_⟩) (by assumption) ?_; rotate_left; (focus (intro w hSw; (try dsimp only at hSw); go_simp; (try with_reducible rfl))); (simp only [Act.put, List.setIfInBounds_toArray, List.set_cons_zero, List.set_cons_succ]))
      (refine wpTake (i := 10) (some 52) (v := ?_) rfl (by rfl) (by kernel_rfl) (by kernel_rfl) (by kernel_rfl) (fun _ _ _ h => h) (Or.inl ⟨by rfl, ?_⟩) (by assumption) ?_; rotate_left; (focus (intro w hSw; (try dsimp only at hSw); go_simp; (try with_reducible rfl))); (simp only [Act.put, List.setIfInBounds_toArray, List.set_cons_zero, List.set_cons_succ]))
      (refine wpTake (i := 11) (some 4) (v := ?_) rfl (by rfl) (by kernel_rfl) (by kernel_rfl) (by kernel_rfl) (fun _ _ _ h => h) (Or.inl ⟨by rfl, ?_⟩) (by assumption) ?_; rotate_left; (focus (intro w hSw; (try dsimp only at hSw); go_simp; (try with_reducible rfl))); (simp only [Act.put, List.setIfInBounds_toArray, List.set_cons_zero, List.set_cons_succ]))
      (refine wpTake (i := 12) (some 5) (v := ?_) rfl (by rfl) (by kernel_rfl) (by kernel_rfl) (by kernel_rfl) (fun _ _ _ h => h) (Or.inl ⟨by rfl, ?_⟩) (by assumption) ?_; rotate_left; (focus (intro w hSw; (try dsimp only at hSw); go_simp; (try with_reducible rfl))); (simp only [Act.put, List.setIfInBounds_toArray, List.set_cons_zero, List.set_cons_succ]))
      (refine wpAnyH_done (by kernel_rfl) ?_ _)
      go_wp2_with fail
      go_ret2
      exact ⟨⟨_, rfl, iN⟩, bwZ.trans (hHeld.mono bwZ.size)⟩

theorem sCrsB {a0 a1 a2 b0 b1 b2 : Nat} {x0 x1 x2 y0 y1 y2 : Option Nat} (h0 : Is .f32 a0 x0) (h1 : Is .f32 a1 x1) (h2 : Is .f32 a2 x2) (g0 : Is .f32 b0 y0) (g1 : Is .f32 b1 y1) (g2 : Is .f32 b2 y2) (W : World) :
    Calls Try.prog 55 #[vecV a0 a1 a2, vecV b0 b1 b2] W fun e w' => (∃ r0 r1 r2, e = .returned (vecV r0 r1 r2) ∧ Is .f32 r0 (fo .sub .f32 (fo .mul .f32 x1 y2) (fo .mul .f32 x2 y1)) ∧ Is .f32 r1 (fo .sub .f32 (fo .mul .f32 x2 y0) (fo .mul .f32 x0 y2)) ∧ Is .f32 r2 (fo .sub .f32 (fo .mul .f32 x0 y1) (fo .mul .f32 x1 y0))) ∧ Below W.heap.size W w' :=
  (sCross h0 h1 h2 g0 g1 g2 W).mono fun _ _ ⟨r0, r1, r2, e, i0, i1, i2, g⟩ => ⟨⟨r0, r1, r2, e, i0, i1, i2⟩, g.below⟩

abbrev stAs (w : World) (n e h m f g : Nat) : World := (w.alloc (.cells #[.float .f32 n, .float .f32 e, .float .f32 h] 33)).alloc (.cells #[.float .f32 m, .float .f32 f, .float .f32 g] 33)
abbrev oneBall : Obj := .cells #[.float .f32 1065353216, .float .f32 1065353216, .float .f32 0, .float .f32 0] 31
abbrev stAz (W : World) (A : Nat) : World := ((W.alloc oneBall).setCell ⟨A, 2, none⟩ (.float .f32 0)).setCell ⟨A + 1, 2, none⟩ (.float .f32 0)

theorem stAz_cells (W : World) (A n e h m f g : Nat) (hA : VecIn W A n e h) (hB : VecIn W (A + 1) m f g) :
    ((stAz W A).cell? ⟨W.heap.size, 1, none⟩ = some (.float .f32 1065353216) ∧ (stAz W A).cell? ⟨W.heap.size, 2, none⟩ = some (.float .f32 0) ∧ (stAz W A).cell? ⟨W.heap.size, 3, none⟩ = some (.float .f32 0)) ∧ VecIn (stAz W A) A n e 0 ∧ VecIn (stAz W A) (A + 1) m f 0 := by
  obtain ⟨lA, a0, a1, a2⟩ := hA
  obtain ⟨lB, b0, b1, b2⟩ := hB
  have nA : ∀ i j : Nat, (⟨A, i, none⟩ : Addr) ≠ ⟨W.heap.size, j, none⟩ := fun i j h => by (simp at h <;> omega)
  have nB : ∀ i j : Nat, (⟨A + 1, i, none⟩ : Addr) ≠ ⟨W.heap.size, j, none⟩ := fun i j h => by (simp at h <;> omega)
  have nC : ∀ i j : Nat, (⟨A, i, none⟩ : Addr) ≠ ⟨A + 1, j, none⟩ := fun i j h => by simp at h
  have nD : ∀ i j : Nat, (⟨A + 1, i, none⟩ : Addr) ≠ ⟨A, j, none⟩ := fun i j h => by simp at h
  refine ⟨⟨?_, ?_, ?_⟩, ⟨by simp; omega, ?_, ?_, ?_⟩, ⟨by simp; omega, ?_, ?_, ?_⟩⟩
  · rw [World.cell?_setCell_other _ _ _ _ (nB _ _), World.cell?_setCell_other _ _ _ _ (nA _ _)]; simp
  · rw [World.cell?_setCell_other _ _ _ _ (nB _ _), World.cell?_setCell_other _ _ _ _ (nA _ _)]; simp
  · rw [World.cell?_setCell_other _ _ _ _ (nB _ _), World.cell?_setCell_other _ _ _ _ (nA _ _)]; simp
  · rw [World.cell?_setCell_other _ _ _ _ (nD _ _), World.cell?_setCell_other _ _ _ _ (by simp), World.cell?_alloc_lt _ _ _ lA]; exact a0
  · rw [World.cell?_setCell_other _ _ _ _ (nD _ _), World.cell?_setCell_other _ _ _ _ (by simp), World.cell?_alloc_lt _ _ _ lA]; exact a1
  · rw [World.cell?_setCell_other _ _ _ _ (nD _ _), cell_set _ (by rw [World.cell?_alloc_lt _ _ _ lA, a2]; rfl)]
  · rw [World.cell?_setCell_other _ _ _ _ (by simp), World.cell?_setCell_other _ _ _ _ (nC _ _), World.cell?_alloc_lt _ _ _ lB]; exact b0
  · rw [World.cell?_setCell_other _ _ _ _ (by simp), World.cell?_setCell_other _ _ _ _ (nC _ _), World.cell?_alloc_lt _ _ _ lB]; exact b1
  · rw [cell_set _ (by rw [World.cell?_setCell_other _ _ _ _ (nC _ _), World.cell?_alloc_lt _ _ _ lB, b2]; rfl)]

/-- Where a mark on the ground of the unit ball is. -/
def gX (n e : Option Nat) : Option Nat := plX (some 1065353216) (some 0) (some 0) n e (some 0) (some 0)
def gY (n e : Option Nat) : Option Nat := plY (some 1065353216) (some 0) (some 0) n e (some 0) (some 0)
def gZ (n : Option Nat) : Option Nat := plZ (some 1065353216) n (some 0)
def gB (n e : Option Nat) : Bool := finV (gX n e) (gY n e) (gZ n)
def gP (n e v : Option Nat) : Option Nat := finP (gX n e) (gY n e) (gZ n) v

theorem one32 : Is .f32 1065353216 (some 1065353216) := is_lit32 1065353216 (by decide)

theorem sGr {n e : Nat} {un ue : Option Nat} (hn : Is .f32 n un) (he : Is .f32 e ue) (bb bm : Nat) (w : World) (hb : bb < w.heap.size) (c1 : w.cell? ⟨bb, 1, none⟩ = some (.float .f32 1065353216)) (c2 : w.cell? ⟨bb, 2, none⟩ = some (.float .f32 0)) (c3 : w.cell? ⟨bb, 3, none⟩ = some (.float .f32 0)) (hm : VecIn w bm n e 0) :
    Calls Try.prog 37 #[.pointer (some ⟨bb, 0, none⟩), .pointer (some ⟨bm, 0, none⟩), .float .f32 0] w (RetVB (gP un ue (gX un ue)) (gP un ue (gY un ue)) (gP un ue (gZ un)) (gB un ue) w) :=
  sPlcP one32 zero32 zero32 hn he zero32 zero32 bb bm w hb hm.1 c1 c2 c3 hm.2.1 hm.2.2.1 hm.2.2.2

section
variable {n e h m f g : Nat} {un ue uh um uf ug u0 u1 u2 y0 y1 y2 : Option Nat} {okA okB : Bool} (hn : Is .f32 n un) (he : Is .f32 e ue) (hh : Is .f32 h uh) (hm : Is .f32 m um) (hf : Is .f32 f uf) (hg : Is .f32 g ug)
include hn he hh hm hf hg

set_option maxRecDepth 100000 in
set_option maxHeartbeats 6400000 in
theorem sArc0 (SA : ∀ bb bm w, bb < w.heap.size → w.cell? ⟨bb, 1, none⟩ = some (.float .f32 1065353216) → w.cell? ⟨bb, 2, none⟩ = some (.float .f32 0) → w.cell? ⟨bb, 3, none⟩ = some (.float .f32 0) → VecIn w bm n e 0 →
      Calls Try.prog 37 #[.pointer (some ⟨bb, 0, none⟩), .pointer (some ⟨bm, 0, none⟩), .float .f32 0] w (RetVB u0 u1 u2 okA w))
    (SB : ∀ bb bm w, bb < w.heap.size → w.cell? ⟨bb, 1, none⟩ = some (.float .f32 1065353216) → w.cell? ⟨bb, 2, none⟩ = some (.float .f32 0) → w.cell? ⟨bb, 3, none⟩ = some (.float .f32 0) → VecIn w bm m f 0 →
      Calls Try.prog 37 #[.pointer (some ⟨bb, 0, none⟩), .pointer (some ⟨bm, 0, none⟩), .float .f32 0] w (RetVB y0 y1 y2 okB w)) (w : World) :
    Calls Try.prog 19 #[vecV n e h, vecV m f g] w (RetNum (if mrkB un ue uh && mrkB um uf ug && okA && okB then finN (arcN u0 u1 u2 y0 y1 y2) else some 0) (mrkB un ue uh && mrkB um uf ug && okA && okB && finS (arcN u0 u1 u2 y0 y1 y2)) w) := by
  have hst := run_store_float Try.prog
  obtain ⟨vv, hvv⟩ : ∃ vv, vv = (if mrkB un ue uh && mrkB um uf ug && okA && okB then finN (arcN u0 u1 u2 y0 y1 y2) else some 0) := ⟨_, rfl⟩
  obtain ⟨bb, hbb⟩ : ∃ bb, bb = (mrkB un ue uh && mrkB um uf ug && okA && okB && finS (arcN u0 u1 u2 y0 y1 y2)) := ⟨_, rfl⟩
  rw [← hvv, ← hbb]
  have bw : Below w.heap.size w (stAs w n e h m f g) := ((Below.refl _ _).alloc (Nat.le_refl _) _).alloc (by simp) _
  have vA : VecIn (stAs w n e h m f g) w.heap.size n e h := ⟨by simp; omega, by rw [World.cell?_alloc_lt _ _ _ (by simp)]; simp, by rw [World.cell?_alloc_lt _ _ _ (by simp)]; simp, by rw [World.cell?_alloc_lt _ _ _ (by simp)]; simp⟩
  have vB : VecIn (stAs w n e h m f g) (w.heap.size + 1) m f g := by simpa using vec_alloc (w.alloc (.cells #[.float .f32 n, .float .f32 e, .float .f32 h] 33)) m f g 33
  have pA : Has w.heap.size 3 (stAs w n e h m f g) := (has_alloc3 w (.float .f32 n) (.float .f32 e) (.float .f32 h) 33).alloc _
  have pB : Has (w.heap.size + 1) 3 (stAs w n e h m f g) := by simpa using has_alloc3 (w.alloc (.cells #[.float .f32 n, .float .f32 e, .float .f32 h] 33)) (.float .f32 m) (.float .f32 f) (.float .f32 g) 33
  have CA := fun W (hv : VecIn W w.heap.size n e h) => sMrkP hn he hh w.heap.size 0 W hv.1 hv.2.1 hv.2.2.1 hv.2.2.2
  have CB := fun W (hv : VecIn W (w.heap.size + 1) m f g) => sMrkP hm hf hg (w.heap.size + 1) 0 W hv.1 hv.2.1 hv.2.2.1 hv.2.2.2
  generalize mrkB un ue uh = mA at CA hvv hbb ⊢
  generalize mrkB um uf ug = mB at CB hvv hbb ⊢
  have HV := Lib.hid hvv
  have HB := Lib.hid hbb
  clear hvv hbb
  clear hn he hh hm hf hg
  cases mA with
  | false =>
    obtain rfl : vv = some 0 := by simpa using HV.out
    obtain rfl : bb = false := by simpa using HB.out
    go_enter Try.func19, Try.ntmps19
    go_wp2_with fail
    refine (CA _ vA).mono ?_
    rintro _ W0 ⟨rfl, b0⟩
    have hz0 := b0.size
    go_wp2_with fail
    go_ret2
    exact ⟨⟨_, rfl, zero32⟩, bw.trans (b0.mono bw.size)⟩
  | true =>
  go_enter Try.func19, Try.ntmps19
  go_wp2_with fail
  refine (CA _ vA).mono ?_
  rintro _ W0 ⟨rfl, b0⟩
  have hz0 := b0.size
  replace vA := vA.at b0
  replace vB := vB.at b0
  replace pA := pA.at b0
  replace pB := pB.at b0
  replace bw := bw.trans (b0.mono bw.size)
  clear CA
  go_wp2_with fail
  refine (CB _ vB).mono ?_
  rintro _ W1 ⟨rfl, b1⟩
  have hz1 := b1.size
  replace vA := vA.at b1
  replace vB := vB.at b1
  replace pA := pA.at b1
  replace pB := pB.at b1
  replace bw := bw.trans (b1.mono bw.size)
  clear CB b0 b1
  cases mB with
  | false =>
    obtain rfl : vv = some 0 := by simpa using HV.out
    obtain rfl : bb = false := by simpa using HB.out
    go_wp2_with fail
    go_ret2
    exact ⟨⟨_, rfl, zero32⟩, bw⟩
  | true =>
  have sA := pA.alloc oneBall
  have sB := (pB.alloc oneBall).setCell ⟨w.heap.size, 2, none⟩ (.float .f32 0)
  have cA := sA.cell (o := 2) (by decide)
  have fA := sA.frz 2
  have cB := sB.cell (o := 2) (by decide)
  have fB := sB.frz 2
  have hZ := stAz_cells W1 w.heap.size n e h m f g vA vB
  have bz : Below w.heap.size w (stAz W1 w.heap.size) := ((bw.alloc bw.size _).setCell (Nat.le_refl _) _).setCell (by simp) _
  go_wp2_with fail
  refine (SA W1.heap.size w.heap.size (stAz W1 w.heap.size) (by simp) hZ.1.1 hZ.1.2.1 hZ.1.2.2 hZ.2.1).mono ?_
  rintro _ W2 ⟨⟨c0, c1, c2, rfl, i0, i1, i2⟩, b2⟩
  have hz2 := b2.size
  simp at hz2
  have bz2 := bz.trans (b2.mono bz.size)
  have vB2 := hZ.2.2.at b2
  have bl : W1.heap.size < (stAz W1 w.heap.size).heap.size := by simp
  have z1 := (b2.cell (p := ⟨W1.heap.size, 1, none⟩) bl).trans hZ.1.1
  have z2 := (b2.cell (p := ⟨W1.heap.size, 2, none⟩) bl).trans hZ.1.2.1
  have z3 := (b2.cell (p := ⟨W1.heap.size, 3, none⟩) bl).trans hZ.1.2.2
  have lW : W1.heap.size < W2.heap.size := by omega
  have bv : Below W2.heap.size W2 (W2.alloc (.cells #[.float .f32 c0, .float .f32 c1, .float .f32 c2] 28)) := (Below.refl _ _).alloc (Nat.le_refl _) _
  have SB' := SB W1.heap.size (w.heap.size + 1) _ (Nat.lt_of_lt_of_le lW bv.size) ((bv.cell (p := ⟨W1.heap.size, 1, none⟩) lW).trans z1) ((bv.cell (p := ⟨W1.heap.size, 2, none⟩) lW).trans z2) ((bv.cell (p := ⟨W1.heap.size, 3, none⟩) lW).trans z3) (vB2.at bv)
  have hP := vec_alloc W2 c0 c1 c2 28
  have bw2 := bz2.trans (bv.mono bz2.size)
  clear SA SB cA fA cB fB sA sB pA pB vA vB hZ bz bw z1 z2 z3 vB2 b2 bz2 bl bv
  go_wp2_with fail
  refine SB'.mono ?_
  rintro _ W3 ⟨⟨d0, d1, d2, rfl, j0, j1, j2⟩, b3⟩
  have hz3 := b3.size
  simp at hz3
  have hP3 := hP.at b3
  have bw3 := bw2.trans (b3.mono bw2.size)
  clear SB' hP b3 bw2
  cases okA with
  | false =>
    obtain rfl : vv = some 0 := by simpa using HV.out
    obtain rfl : bb = false := by simpa using HB.out
    go_wp2_with fail
    go_ret2
    exact ⟨⟨_, rfl, zero32⟩, bw3.alloc bw3.size _⟩
  | true =>
  cases okB with
  | false =>
    obtain rfl : vv = some 0 := by simpa using HV.out
    obtain rfl : bb = false := by simpa using HB.out
    go_wp2_with fail
    go_ret2
    exact ⟨⟨_, rfl, zero32⟩, bw3.alloc bw3.size _⟩
  | true =>
  obtain rfl : vv = finN (arcN u0 u1 u2 y0 y1 y2) := by simpa using HV.out
  obtain rfl : bb = finS (arcN u0 u1 u2 y0 y1 y2) := by simpa using HB.out
  go_wp2_with fail
  have hPZ := hP3.at ((Below.refl W3.heap.size W3).alloc (Nat.le_refl _) (.cells #[.float .f32 d0, .float .f32 d1, .float .f32 d2] 28))
  have hDZ := vec_alloc W3 d0 d1 d2 28
  have b0Z := bw3.alloc bw3.size (.cells #[.float .f32 d0, .float .f32 d1, .float .f32 d2] 28)
  generalize W3.alloc (.cells #[.float .f32 d0, .float .f32 d1, .float .f32 d2] 28) = Z at hPZ hDZ b0Z ⊢
  have p0 : ∀ w', Below Z.heap.size Z w' → w'.cell? ⟨W2.heap.size, 0, none⟩ = some (.float .f32 c0) := fun w' h => (hPZ.at h).2.1
  have p1 : ∀ w', Below Z.heap.size Z w' → w'.cell? ⟨W2.heap.size, 1, none⟩ = some (.float .f32 c1) := fun w' h => (hPZ.at h).2.2.1
  have p2 : ∀ w', Below Z.heap.size Z w' → w'.cell? ⟨W2.heap.size, 2, none⟩ = some (.float .f32 c2) := fun w' h => (hPZ.at h).2.2.2
  have e0 : ∀ w', Below Z.heap.size Z w' → w'.cell? ⟨W3.heap.size, 0, none⟩ = some (.float .f32 d0) := fun w' h => (hDZ.at h).2.1
  have e1 : ∀ w', Below Z.heap.size Z w' → w'.cell? ⟨W3.heap.size, 1, none⟩ = some (.float .f32 d1) := fun w' h => (hDZ.at h).2.2.1
  have e2 : ∀ w', Below Z.heap.size Z w' → w'.cell? ⟨W3.heap.size, 2, none⟩ = some (.float .f32 d2) := fun w' h => (hDZ.at h).2.2.2
  clear hP3 hPZ hDZ HV HB
  (refine wp_region_held_drew (S := fun w' => Below Z.heap.size Z w') (by kernel_rfl) (by (try dsimp only); (repeat' (first | with_reducible assumption | with_reducible exact Below.refl _ _ | with_reducible exact keepW (by with_reducible assumption) (by with_reducible assumption) (by first | exact Nat.le_refl _ | assumption | omega | (simp; done) | (simp; omega)) | with_reducible exact keepS (by with_reducible assumption) (by with_reducible assumption) (by first | exact Nat.le_refl _ | assumption | omega | (simp; done) | (simp; omega)) | (with_reducible refine Below.setCell ?_ (by first | omega | (simp; done) | (simp; omega)) _) | (with_reducible refine below_drewN ?_ _) | (with_reducible refine Below.drew ?_) | (with_reducible refine Below.trans ?_ (Below.mono (by with_reducible assumption) (by first | omega | (simp; done) | (simp; omega)))) | (with_reducible refine Below.trans ?_ (Below.mono (Grow.below (by with_reducible assumption)) (by first | omega | (simp; done) | (simp; omega)))) | (with_reducible refine Below.alloc ?_ (by first | omega | (simp; done) | (simp; omega)) _)))) (fun hHeld => ?_))
  (refine wpTake (i := 0) (some 34) (v := ?_) rfl (by rfl) (by kernel_rfl) (by kernel_rfl) (by kernel_rfl) (fun _ _ _ h => h) (Or.inl ⟨by rfl, ?_⟩) (by assumption) ?_; rotate_left; (focus (intro w hSw; (try dsimp only at hSw); go_simp; (try with_reducible rfl))); (simp only [Act.put, List.setIfInBounds_toArray, List.set_cons_zero, List.set_cons_succ]))
  (refine wpTake (i := 1) (some 35) (v := ?_) rfl (by rfl) (by kernel_rfl) (by kernel_rfl) (by kernel_rfl) (fun _ _ _ h => h) (Or.inl ⟨by rfl, ?_⟩) (by assumption) ?_; rotate_left; (focus (intro w hSw; (try dsimp only at hSw); go_simp; (try with_reducible rfl))); (simp only [Act.put, List.setIfInBounds_toArray, List.set_cons_zero, List.set_cons_succ]))
  (refine wpTake (i := 4) (some 38) (v := ?_) rfl (by rfl) (by kernel_rfl) (by kernel_rfl) (by kernel_rfl) (fun _ _ _ h => h) (Or.inl ⟨by rfl, ?_⟩) (by assumption) ?_; rotate_left; (focus (intro w hSw; (try dsimp only at hSw); go_simp; (try with_reducible rfl))); (simp only [Act.put, List.setIfInBounds_toArray, List.set_cons_zero, List.set_cons_succ]))
  (refine wpTake (i := 5) (some 39) (v := ?_) rfl (by rfl) (by kernel_rfl) (by kernel_rfl) (by kernel_rfl) (fun _ _ _ h => h) (Or.inl ⟨by rfl, ?_⟩) (by assumption) ?_; rotate_left; (focus (intro w hSw; (try dsimp only at hSw); go_simp; (try with_reducible rfl))); (simp only [Act.put, List.setIfInBounds_toArray, List.set_cons_zero, List.set_cons_succ]))
  (refine wpAnyH_ready (rs := [2]) (by kernel_rfl) (by simp) ?_; refine AllReadyH.cons rfl (fun K hK => ?_) AllReadyH.nil; go_simp)
  (go_at_call 55; (with_reducible refine (sCrsB i0 i1 i2 j0 j1 j2 _).mono ?_); rintro eq wq ⟨⟨k0, k1, k2, rfl, l0, l1, l2⟩, hbs⟩)
  (go_wp2_with fail; refine hK.out _ _ (by (try dsimp only); (repeat' (first | with_reducible assumption | with_reducible exact Below.refl _ _ | with_reducible exact keepW (by with_reducible assumption) (by with_reducible assumption) (by first | exact Nat.le_refl _ | assumption | omega | (simp; done) | (simp; omega)) | with_reducible exact keepS (by with_reducible assumption) (by with_reducible assumption) (by first | exact Nat.le_refl _ | assumption | omega | (simp; done) | (simp; omega)) | (with_reducible refine Below.setCell ?_ (by first | omega | (simp; done) | (simp; omega)) _) | (with_reducible refine below_drewN ?_ _) | (with_reducible refine Below.drew ?_) | (with_reducible refine Below.trans ?_ (Below.mono (by with_reducible assumption) (by first | omega | (simp; done) | (simp; omega)))) | (with_reducible refine Below.trans ?_ (Below.mono (Grow.below (by with_reducible assumption)) (by first | omega | (simp; done) | (simp; omega)))) | (with_reducible refine Below.alloc ?_ (by first | omega | (simp; done) | (simp; omega)) _)))) (fun hHeld => ?_); clear hK K; try (simp only [Act.put, List.setIfInBounds_toArray, List.set_cons_zero, List.set_cons_succ]))
  (refine wpAnyH_ready (rs := [3]) (by kernel_rfl) (by simp) ?_; refine AllReadyH.cons rfl (fun K hK => ?_) AllReadyH.nil; go_simp)
  (go_at_call 54; (with_reducible refine (sLenB l0 l1 l2 _).mono ?_); rintro eq wq ⟨⟨rP, rfl, iP⟩, hbs⟩)
  (go_wp2_with fail; refine hK.out _ _ (by (try dsimp only); (repeat' (first | with_reducible assumption | with_reducible exact Below.refl _ _ | with_reducible exact keepW (by with_reducible assumption) (by with_reducible assumption) (by first | exact Nat.le_refl _ | assumption | omega | (simp; done) | (simp; omega)) | with_reducible exact keepS (by with_reducible assumption) (by with_reducible assumption) (by first | exact Nat.le_refl _ | assumption | omega | (simp; done) | (simp; omega)) | (with_reducible refine Below.setCell ?_ (by first | omega | (simp; done) | (simp; omega)) _) | (with_reducible refine below_drewN ?_ _) | (with_reducible refine Below.drew ?_) | (with_reducible refine Below.trans ?_ (Below.mono (by with_reducible assumption) (by first | omega | (simp; done) | (simp; omega)))) | (with_reducible refine Below.trans ?_ (Below.mono (Grow.below (by with_reducible assumption)) (by first | omega | (simp; done) | (simp; omega)))) | (with_reducible refine Below.alloc ?_ (by first | omega | (simp; done) | (simp; omega)) _)))) (fun hHeld => ?_); clear hK K; try (simp only [Act.put, List.setIfInBounds_toArray, List.set_cons_zero, List.set_cons_succ]))
  (refine wpAnyH_ready (rs := [6]) (by kernel_rfl) (by simp) ?_; refine AllReadyH.cons rfl (fun K hK => ?_) AllReadyH.nil; go_simp)
  (go_at_call 56; (with_reducible refine (sInnB i0 i1 i2 j0 j1 j2 _).mono ?_); rintro eq wq ⟨⟨rI, rfl, iI⟩, hbs⟩)
  (go_wp2_with fail; refine hK.out _ _ (by (try dsimp only); (repeat' (first | with_reducible assumption | with_reducible exact Below.refl _ _ | with_reducible exact keepW (by with_reducible assumption) (by with_reducible assumption) (by first | exact Nat.le_refl _ | assumption | omega | (simp; done) | (simp; omega)) | with_reducible exact keepS (by with_reducible assumption) (by with_reducible assumption) (by first | exact Nat.le_refl _ | assumption | omega | (simp; done) | (simp; omega)) | (with_reducible refine Below.setCell ?_ (by first | omega | (simp; done) | (simp; omega)) _) | (with_reducible refine below_drewN ?_ _) | (with_reducible refine Below.drew ?_) | (with_reducible refine Below.trans ?_ (Below.mono (by with_reducible assumption) (by first | omega | (simp; done) | (simp; omega)))) | (with_reducible refine Below.trans ?_ (Below.mono (Grow.below (by with_reducible assumption)) (by first | omega | (simp; done) | (simp; omega)))) | (with_reducible refine Below.alloc ?_ (by first | omega | (simp; done) | (simp; omega)) _)))) (fun hHeld => ?_); clear hK K; try (simp only [Act.put, List.setIfInBounds_toArray, List.set_cons_zero, List.set_cons_succ]))
  (try simp at hHeld)
  (refine wpAnyH_ready (rs := [7]) (by kernel_rfl) (by simp) ?_; refine AllReadyH.cons rfl (fun K hK => ?_) AllReadyH.nil; go_simp)
  (go_at_call 53; (refine (sAngT iP iI _).mono ?_); rintro eq wq ⟨rA, nA, rfl, iA, rfl⟩)
  (go_wp2_with fail; refine hK.out _ _ (by (try dsimp only); (repeat' (first | with_reducible assumption | with_reducible exact Below.refl _ _ | with_reducible exact keepW (by with_reducible assumption) (by with_reducible assumption) (by first | exact Nat.le_refl _ | assumption | omega | (simp; done) | (simp; omega)) | with_reducible exact keepS (by with_reducible assumption) (by with_reducible assumption) (by first | exact Nat.le_refl _ | assumption | omega | (simp; done) | (simp; omega)) | (with_reducible refine Below.setCell ?_ (by first | omega | (simp; done) | (simp; omega)) _) | (with_reducible refine below_drewN ?_ _) | (with_reducible refine Below.drew ?_) | (with_reducible refine Below.trans ?_ (Below.mono (by with_reducible assumption) (by first | omega | (simp; done) | (simp; omega)))) | (with_reducible refine Below.trans ?_ (Below.mono (Grow.below (by with_reducible assumption)) (by first | omega | (simp; done) | (simp; omega)))) | (with_reducible refine Below.alloc ?_ (by first | omega | (simp; done) | (simp; omega)) _)))) (fun hHeld => ?_); clear hK K; try (simp only [Act.put, List.setIfInBounds_toArray, List.set_cons_zero, List.set_cons_succ]))
  have FN := fun W => sFinN iA W
  (try simp at hHeld)
  (refine wpAnyH_ready (rs := [8]) (by kernel_rfl) (by simp) ?_; refine AllReadyH.cons rfl (fun K hK => ?_) AllReadyH.nil; go_simp)
  (go_at_call 52; (refine (FN _).mono ?_); rintro eq wq ⟨⟨rN, rfl, iN⟩, hbs⟩)
  (go_wp2_with fail; refine hK.out _ _ (by (try dsimp only); (repeat' (first | with_reducible assumption | with_reducible exact Below.refl _ _ | with_reducible exact keepW (by with_reducible assumption) (by with_reducible assumption) (by first | exact Nat.le_refl _ | assumption | omega | (simp; done) | (simp; omega)) | with_reducible exact keepS (by with_reducible assumption) (by with_reducible assumption) (by first | exact Nat.le_refl _ | assumption | omega | (simp; done) | (simp; omega)) | (with_reducible refine Below.setCell ?_ (by first | omega | (simp; done) | (simp; omega)) _) | (with_reducible refine below_drewN ?_ _) | (with_reducible refine Below.drew ?_) | (with_reducible refine Below.trans ?_ (Below.mono (by with_reducible assumption) (by first | omega | (simp; done) | (simp; omega)))) | (with_reducible refine Below.trans ?_ (Below.mono (Grow.below (by with_reducible assumption)) (by first | omega | (simp; done) | (simp; omega)))) | (with_reducible refine Below.alloc ?_ (by first | omega | (simp; done) | (simp; omega)) _)))) (fun hHeld => ?_); clear hK K; try (simp only [Act.put, List.setIfInBounds_toArray, List.set_cons_zero, List.set_cons_succ]))
  (refine wpTake (i := 9) (some 43) (v := ?_) rfl (by rfl) (by kernel_rfl) (by kernel_rfl) (by kernel_rfl) (fun _ _ _ h => h) (Or.inl ⟨by rfl, ?_⟩) (by assumption) ?_; rotate_left; (focus (intro w hSw; (try dsimp only at hSw); go_simp; (try with_reducible rfl))); (simp only [Act.put, List.setIfInBounds_toArray, List.set_cons_zero, List.set_cons_succ]))
  (refine wpTake (i := 10) (some 44) (v := ?_) rfl (by rfl) (by kernel_rfl) (by kernel_rfl) (by kernel_rfl) (fun _ _ _ h => h) (Or.inl ⟨by rfl, ?_⟩) (by assumption) ?_; rotate_left; (focus (intro w hSw; (try dsimp only at hSw); go_simp; (try with_reducible rfl))); (simp only [Act.put, List.setIfInBounds_toArray, List.set_cons_zero, List.set_cons_succ]))
  (refine wpTake (i := 11) (some 4) (v := ?_) rfl (by rfl) (by kernel_rfl) (by kernel_rfl) (by kernel_rfl) (fun _ _ _ h => h) (Or.inl ⟨by rfl, ?_⟩) (by assumption) ?_; rotate_left; (focus (intro w hSw; (try dsimp only at hSw); go_simp; (try with_reducible rfl))); (simp only [Act.put, List.setIfInBounds_toArray, List.set_cons_zero, List.set_cons_succ]))
  (refine wpTake (i := 12) (some 5) (v := ?_) rfl (by rfl) (by kernel_rfl) (by kernel_rfl) (by kernel_rfl) (fun _ _ _ h => h) (Or.inl ⟨by rfl, ?_⟩) (by assumption) ?_; rotate_left; (focus (intro w hSw; (try dsimp only at hSw); go_simp; (try with_reducible rfl))); (simp only [Act.put, List.setIfInBounds_toArray, List.set_cons_zero, List.set_cons_succ]))
  (refine wpAnyH_done (by kernel_rfl) ?_ _)
  go_wp2_with fail
  go_ret2
  exact ⟨⟨_, rfl, iN⟩, b0Z.trans (hHeld.mono b0Z.size)⟩
end
end Go.Proofs.Ytlfcjfaddcciaaa
