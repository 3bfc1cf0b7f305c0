/-
  The angle between two orbits, of the program and of the model. No condition.
-/
import Derived.Test.YtbkbmhancklpdaaTilt
namespace Go.Proofs.Ytbkbmhancklpdaa
open Go.RowKit

theorem low_of_le {v : Option Nat} {t u : Int} (h : LeO .f64 v t) (hu : t + 1 ≤ u) : LowO .f64 v u := fun b hb => (lq_low (h b hb)).mono hu

theorem num_low {v : Option Nat} {t : Int} (h : LowO .f64 v t) (hf : finW v = true) : ∃ b s m e, v = some b ∧ FloatKind.f64.decode b = .number s m e := by
  cases v with
  | none => exact absurd hf (by decide)
  | some b =>
    obtain ⟨s, m, e, hd, _⟩ := h b rfl
    exact ⟨b, s, m, e, rfl, hd⟩

theorem fin_low {y : Nat} {v : Option Nat} (iy : Is .f64 y v) (h : LowO .f64 v 900) : cmpB .neq .f64 (fo .sub .f64 v v) (some 0) = !finW v := by
  cases v with
  | none => rfl
  | some z =>
    obtain rfl := iy.notNaN
    have hl := h y rfl
    obtain ⟨s, m, e, hd, _⟩ := hl
    have hsub : fo .sub .f64 (some y) (some y) = some 0 := by
      unfold FloatKind.decode at hd
      have h0 : Ieee.signed s m 0 + Ieee.signed (!s) m 0 = 0 := by cases s <;> simp [Ieee.signed] <;> omega
      simp [fo, floatBits, Ieee.Format.sub, hd, Ieee.Datum.opposite, Ieee.Datum.sum, h0]
      cases s <;> rfl
    unfold finW
    rw [neq_self iy, absO_cmp_low ((h y rfl).mono (by decide)), hsub]
    rfl

theorem tilt_fin {x : Nat} {v : Option Nat} (ix : Is .f32 x v) (h : tiltB v = true) : finS v = true := by
  rcases fin_cases ix with h' | rfl | ⟨s, rfl, hs⟩
  · exact h'
  · exact absurd h (by decide)
  · exfalso
    have r0 : FloatKind.f32.format.read 0 = .number false 0 (-149) := by rfl
    have r1 : FloatKind.f32.format.read 1056964608 = .number false 8388608 (-24) := by rfl
    unfold FloatKind.decode at hs
    have o0 : ordO .f32 (some x) (some 0) = (if s then some .lt else some .gt) := by
      simp only [ordO, Option.bind_some, Ieee.Format.order, hs, r0]
      cases s <;> rfl
    have o1 : ordO .f32 (some x) (some 1056964608) = (if s then some .lt else some .gt) := by
      simp only [ordO, Option.bind_some, Ieee.Format.order, hs, r1]
      cases s <;> rfl
    unfold tiltB cmpB at h
    simp only [o0, o1] at h
    cases s <;> exact absurd h (by decide)

theorem part_fin' {x : Nat} {v : Option Nat} (ix : Is .f32 x v) (h : partB v = true) : finS v = true := by
  cases hf : finS v with
  | true => rfl
  | false => rw [part_fin ix hf] at h; cases h

theorem orb_parts {l r t n p f : Option Nat} (h : orbB l r t n p f = true) : tiltB t = true ∧ partB n = true := by
  unfold orbB at h
  simp only [Bool.and_eq_true] at h
  exact ⟨h.2.1, h.2.2.1⟩

/-- The length of a cross, and the inner product, of two normals. -/
def cLen (t n u m : Option Nat) : Option Nat := (fun c0 c1 c2 => sqO .f64 (dtO c0 c1 c2 c0 c1 c2)) (crO (nY t n) (nZ u) (nZ t) (nY u m)) (crO (nZ t) (nX u m) (nX t n) (nZ u)) (crO (nX t n) (nY u m) (nY t n) (nX u m))
def cDot (t n u m : Option Nat) : Option Nat := dtO (nX t n) (nY t n) (nZ t) (nX u m) (nY u m) (nZ u)
def cAng (t n u m : Option Nat) : Option Nat := angO (cLen t n u m) (cDot t n u m)

theorem is_cv32 {x : Nat} {v : Option Nat} (ix : Is .f32 x v) : ∃ y, Is .f64 y (cv .f32 .f64 v) := by
  rcases cv_is ix with ⟨_, h⟩ | ⟨y, _, h, hi⟩
  · rw [h]; exact ⟨9221120237041090561, by decide, by decide⟩
  · rw [h]; exact ⟨y, hi⟩

section
variable {a b c d : Nat} {t n u m : Option Nat} (ht : Is .f32 a t) (hn : Is .f32 b n) (hu : Is .f32 c u) (hm : Is .f32 d m)
include ht hn
theorem le_nX : LeO .f64 (nX t n) 220 := by
  obtain ⟨y, iy⟩ := is_cv32 ht
  obtain ⟨z, iz⟩ := is_cv32 hn
  exact le_mul (le_sinP iy) (le_sinP iz) (by decide) (by decide)
theorem le_nY : LeO .f64 (nY t n) 220 := by
  obtain ⟨y, iy⟩ := is_cv32 ht
  obtain ⟨z, iz⟩ := is_cv32 hn
  exact le_neg (fun b hb => fo_lt hb) (le_mul (le_sinP iy) (le_cosO iz) (by decide) (by decide))
omit hn in
theorem le_nZ : LeO .f64 (nZ t) 220 := by
  obtain ⟨y, iy⟩ := is_cv32 ht
  exact (le_cosO iy).mono (by decide)
include hu hm
theorem low_cLen : LowO .f64 (cLen t n u m) 900 := by
  have x1 := le_nX ht hn
  have y1 := le_nY ht hn
  have z1 := le_nZ ht
  have x2 := le_nX hu hm
  have y2 := le_nY hu hm
  have z2 := le_nZ hu
  have c0 := le_sub (le_mul y1 z2 (by decide) (by decide)) (le_mul z1 y2 (by decide) (by decide)) (by decide) (by decide)
  have c1 := le_sub (le_mul z1 x2 (by decide) (by decide)) (le_mul x1 z2 (by decide) (by decide)) (by decide) (by decide)
  have c2 := le_sub (le_mul x1 y2 (by decide) (by decide)) (le_mul y1 x2 (by decide) (by decide)) (by decide) (by decide)
  have d0 := le_add (le_add (le_mul c0 c0 (by decide) (by decide)) (le_mul c1 c1 (by decide) (by decide)) (by decide) (by decide)) ((le_mul c2 c2 (by decide) (by decide)).mono (show _ ≤ (883 : Int) by decide)) (by decide) (by decide)
  exact low_sqrt (low_of_le d0 (by decide))
theorem low_cDot : LowO .f64 (cDot t n u m) 900 := by
  have x1 := le_nX ht hn
  have y1 := le_nY ht hn
  have z1 := le_nZ ht
  have x2 := le_nX hu hm
  have y2 := le_nY hu hm
  have z2 := le_nZ hu
  have d0 := le_add (le_add (le_mul x1 x2 (by decide) (by decide)) (le_mul y1 y2 (by decide) (by decide)) (by decide) (by decide)) ((le_mul z1 z2 (by decide) (by decide)).mono (show _ ≤ (441 : Int) by decide)) (by decide) (by decide)
  exact low_of_le d0 (by decide)
theorem fit_cAng : Fit .f64 .f32 (cAng t n u m) := fit_le (le_ang (num_low (low_cLen ht hn hu hm)) (num_low (low_cDot ht hn hu hm))) (by decide)
end

theorem sIsB {a0 a1 a2 a3 a4 a5 : Nat} {x0 x1 x2 x3 x4 x5 : Option Nat} (h0 : Is .f32 a0 x0) (h1 : Is .f32 a1 x1) (h2 : Is .f32 a2 x2) (h3 : Is .f32 a3 x3) (h4 : Is .f32 a4 x4) (h5 : Is .f32 a5 x5) {B : Bool} (hB : orbB x0 x1 x2 x3 x4 x5 = B) (b : Nat) (w : World) (hb : b < w.heap.size) (c0 : w.cell? ⟨b, 0, none⟩ = some (.float .f32 a0)) (c1 : w.cell? ⟨b, 1, none⟩ = some (.float .f32 a1)) (c2 : w.cell? ⟨b, 2, none⟩ = some (.float .f32 a2)) (c3 : w.cell? ⟨b, 3, none⟩ = some (.float .f32 a3)) (c4 : w.cell? ⟨b, 4, none⟩ = some (.float .f32 a4)) (c5 : w.cell? ⟨b, 5, none⟩ = some (.float .f32 a5)) :
    Calls Try.prog 11 #[.pointer (some ⟨b, 0, none⟩)] w (RetV (.bool B) w) := by
  have h := sIs h0 h1 h2 h3 h4 h5 b 0 w hb c0 (by simpa using c1) (by simpa using c2) (by simpa using c3) (by simpa using c4) (by simpa using c5)
  rw [orb_same h1, hB] at h
  exact h

abbrev start2 (w : World) (a0 a1 a2 a3 a4 a5 b0 b1 b2 b3 b4 b5 : Nat) : World := (w.alloc (.cells #[.float .f32 a0, .float .f32 a1, .float .f32 a2, .float .f32 a3, .float .f32 a4, .float .f32 a5] 27)).alloc (.cells #[.float .f32 b0, .float .f32 b1, .float .f32 b2, .float .f32 b3, .float .f32 b4, .float .f32 b5] 27)

set_option maxHeartbeats 3200000 in
theorem sTilt {a0 a1 a2 a3 a4 a5 b0 b1 b2 b3 b4 b5 : Nat} {x0 x1 x2 x3 x4 x5 y0 y1 y2 y3 y4 y5 : Option Nat} (h0 : Is .f32 a0 x0) (h1 : Is .f32 a1 x1) (h2 : Is .f32 a2 x2) (h3 : Is .f32 a3 x3) (h4 : Is .f32 a4 x4) (h5 : Is .f32 a5 x5) (g0 : Is .f32 b0 y0) (g1 : Is .f32 b1 y1) (g2 : Is .f32 b2 y2) (g3 : Is .f32 b3 y3) (g4 : Is .f32 b4 y4) (g5 : Is .f32 b5 y5) (w : World) :
    Calls Try.prog 5 #[orbV a0 a1 a2 a3 a4 a5, orbV b0 b1 b2 b3 b4 b5] w (RetNum (if orbB x0 x1 x2 x3 x4 x5 && orbB y0 y1 y2 y3 y4 y5 then finN (cv .f64 .f32 (cAng x2 x3 y2 y3)) else some 0) (orbB x0 x1 x2 x3 x4 x5 && orbB y0 y1 y2 y3 y4 y5 && finS (cv .f64 .f32 (cAng x2 x3 y2 y3))) w) := by
  have hst := run_store_float Try.prog
  cases hA : orbB x0 x1 x2 x3 x4 x5 with
  | false =>
    go_enter Try.func5, Try.ntmps5
    go_wp2_with fail
    refine (sIsB h0 h1 h2 h3 h4 h5 hA _ _ (by first | omega | (simp; done) | (simp; omega)) (by simp; done) (by simp; done) (by simp; done) (by simp; done) (by simp; done) (by simp; done)).mono ?_
    rintro eq wq ⟨nq, rfl, rfl⟩
    go_wp2_with fail
    go_ret2
    refine ⟨⟨_, rfl, zero32⟩, ?_⟩
    repeat' (first | with_reducible exact Below.refl _ _ | with_reducible assumption | (with_reducible refine Below.setCell ?_ (by first | omega | (simp; done) | (simp; omega)) _) | (with_reducible refine Below.alloc ?_ (by first | omega | (simp; done) | (simp; omega)) _) | (with_reducible refine below_drewN ?_ _) | (with_reducible refine Below.drew ?_) | (with_reducible refine Below.trans ?_ (Below.mono (by first | (with_reducible assumption) | exact Grow.below (by assumption)) (by first | omega | (simp; done) | (simp; omega)))))
  | true =>
    cases hB : orbB y0 y1 y2 y3 y4 y5 with
    | false =>
      go_enter Try.func5, Try.ntmps5
      go_wp2_with fail
      refine (sIsB h0 h1 h2 h3 h4 h5 hA _ _ (by first | omega | (simp; done) | (simp; omega)) (by simp; done) (by simp; done) (by simp; done) (by simp; done) (by simp; done) (by simp; done)).mono ?_
      rintro eq wq ⟨nq, rfl, rfl⟩
      go_wp2_with fail
      refine (sIsB g0 g1 g2 g3 g4 g5 hB _ _ (by first | omega | (simp; done) | (simp; omega)) (by simp; done) (by simp; done) (by simp; done) (by simp; done) (by simp; done) (by simp; done)).mono ?_
      rintro eq wq ⟨nq, rfl, rfl⟩
      go_wp2_with fail
      go_ret2
      refine ⟨⟨_, rfl, zero32⟩, ?_⟩
      repeat' (first | with_reducible exact Below.refl _ _ | with_reducible assumption | (with_reducible refine Below.setCell ?_ (by first | omega | (simp; done) | (simp; omega)) _) | (with_reducible refine Below.alloc ?_ (by first | omega | (simp; done) | (simp; omega)) _) | (with_reducible refine below_drewN ?_ _) | (with_reducible refine Below.drew ?_) | (with_reducible refine Below.trans ?_ (Below.mono (by first | (with_reducible assumption) | exact Grow.below (by assumption)) (by first | omega | (simp; done) | (simp; omega)))))
    | true =>
      have f2 := tilt_fin h2 (orb_parts hA).1
      have f3 := part_fin' h3 (orb_parts hA).2
      have e2 := tilt_fin g2 (orb_parts hB).1
      have e3 := part_fin' g3 (orb_parts hB).2
      have kb2 : ∀ w', Below (w.heap.size + 2) (start2 w a0 a1 a2 a3 a4 a5 b0 b1 b2 b3 b4 b5) w' → w'.cell? ⟨w.heap.size + 1, 2, none⟩ = some (.float .f32 b2) := fun w' h => by rw [h.cell (by simp)]; simp [start2]
      have kb3 : ∀ w', Below (w.heap.size + 2) (start2 w a0 a1 a2 a3 a4 a5 b0 b1 b2 b3 b4 b5) w' → w'.cell? ⟨w.heap.size + 1, 3, none⟩ = some (.float .f32 b3) := fun w' h => by rw [h.cell (by simp)]; simp [start2]
      have KB2 := Lib.hid kb2
      have KB3 := Lib.hid kb3
      have fit := fit_cAng h2 h3 g2 g3
      have lc := low_cLen h2 h3 g2 g3
      have ld := low_cDot h2 h3 g2 g3
      clear kb2 kb3
      go_enter Try.func5, Try.ntmps5
      go_wp2_with fail
      refine (sIsB h0 h1 h2 h3 h4 h5 hA _ _ (by first | omega | (simp; done) | (simp; omega)) (by simp; done) (by simp; done) (by simp; done) (by simp; done) (by simp; done) (by simp; done)).mono ?_
      rintro eq wq ⟨nq, rfl, rfl⟩
      go_wp2_with fail
      refine (sIsB g0 g1 g2 g3 g4 g5 hB _ _ (by first | omega | (simp; done) | (simp; omega)) (by simp; done) (by simp; done) (by simp; done) (by simp; done) (by simp; done) (by simp; done)).mono ?_
      rintro eq wq ⟨nq, rfl, rfl⟩
      go_wp2_with fail
      refine (sNormal h2 h3 f2 f3 _ 0 _ (by first | omega | (simp; done) | (simp; omega)) (by simp; done) (by simp; done)).mono ?_
      rintro eq W1 ⟨⟨r0, r1, r2, rfl, i0, i1, i2⟩, bl1⟩
      have z1 := bl1.size
      simp at z1
      have D1 : Below (w.heap.size + 2) (start2 w a0 a1 a2 a3 a4 a5 b0 b1 b2 b3 b4 b5) W1 := by repeat' (first | with_reducible exact Below.refl _ _ | with_reducible assumption | (with_reducible refine Below.setCell ?_ (by first | omega | (simp; done) | (simp; omega)) _) | (with_reducible refine Below.alloc ?_ (by first | omega | (simp; done) | (simp; omega)) _) | (with_reducible refine below_drewN ?_ _) | (with_reducible refine Below.drew ?_) | (with_reducible refine Below.trans ?_ (Below.mono (by first | (with_reducible assumption) | exact Grow.below (by assumption)) (by first | omega | (simp; done) | (simp; omega)))))
      obtain ⟨hc, hf⟩ := bcell bl1
      go_wp2_with fail
      refine (sNormal g2 g3 e2 e3 _ 0 _ (by first | omega | (simp; done) | (simp; omega)) (KB2.out _ (by repeat' (first | with_reducible exact Below.refl _ _ | with_reducible assumption | (with_reducible refine Below.setCell ?_ (by first | omega | (simp; done) | (simp; omega)) _) | (with_reducible refine Below.alloc ?_ (by first | omega | (simp; done) | (simp; omega)) _) | (with_reducible refine below_drewN ?_ _) | (with_reducible refine Below.drew ?_) | (with_reducible refine Below.trans ?_ (Below.mono (by first | (with_reducible assumption) | exact Grow.below (by assumption)) (by first | omega | (simp; done) | (simp; omega))))))) (KB3.out _ (by repeat' (first | with_reducible exact Below.refl _ _ | with_reducible assumption | (with_reducible refine Below.setCell ?_ (by first | omega | (simp; done) | (simp; omega)) _) | (with_reducible refine Below.alloc ?_ (by first | omega | (simp; done) | (simp; omega)) _) | (with_reducible refine below_drewN ?_ _) | (with_reducible refine Below.drew ?_) | (with_reducible refine Below.trans ?_ (Below.mono (by first | (with_reducible assumption) | exact Grow.below (by assumption)) (by first | omega | (simp; done) | (simp; omega)))))))).mono ?_
      rintro eq W2 ⟨⟨s0, s1, s2, rfl, j0, j1, j2⟩, bl2⟩
      have z2 := bl2.size
      simp at z2
      obtain ⟨hc2, hf2⟩ := bcell bl2
      go_wp2_with fail
      have lt1 : W1.heap.size < W2.heap.size := by omega
      have c0 : ∀ w', Below (W2.heap.size + 1) (W2.alloc (.cells #[.float .f64 s0, .float .f64 s1, .float .f64 s2] 37)) w' → w'.cell? ⟨W1.heap.size, 0, none⟩ = some (.float .f64 r0) := fun w' h => by rw [h.cell (by simp; omega)]; rw [World.cell?_alloc_past _ _ _ lt1, bl2.cell (by simp)]; simp
      have c1 : ∀ w', Below (W2.heap.size + 1) (W2.alloc (.cells #[.float .f64 s0, .float .f64 s1, .float .f64 s2] 37)) w' → w'.cell? ⟨W1.heap.size, 1, none⟩ = some (.float .f64 r1) := fun w' h => by rw [h.cell (by simp; omega)]; rw [World.cell?_alloc_past _ _ _ lt1, bl2.cell (by simp)]; simp
      have c2 : ∀ w', Below (W2.heap.size + 1) (W2.alloc (.cells #[.float .f64 s0, .float .f64 s1, .float .f64 s2] 37)) w' → w'.cell? ⟨W1.heap.size, 2, none⟩ = some (.float .f64 r2) := fun w' h => by rw [h.cell (by simp; omega)]; rw [World.cell?_alloc_past _ _ _ lt1, bl2.cell (by simp)]; simp
      have d0 : ∀ w', Below (W2.heap.size + 1) (W2.alloc (.cells #[.float .f64 s0, .float .f64 s1, .float .f64 s2] 37)) w' → w'.cell? ⟨W2.heap.size, 0, none⟩ = some (.float .f64 s0) := fun w' h => by rw [h.cell (by simp)]; simp
      have d1 : ∀ w', Below (W2.heap.size + 1) (W2.alloc (.cells #[.float .f64 s0, .float .f64 s1, .float .f64 s2] 37)) w' → w'.cell? ⟨W2.heap.size, 1, none⟩ = some (.float .f64 s1) := fun w' h => by rw [h.cell (by simp)]; simp
      have d2 : ∀ w', Below (W2.heap.size + 1) (W2.alloc (.cells #[.float .f64 s0, .float .f64 s1, .float .f64 s2] 37)) w' → w'.cell? ⟨W2.heap.size, 2, none⟩ = some (.float .f64 s2) := fun w' h => by rw [h.cell (by simp)]; simp
      have CA := fun {y x : Nat} (iy : Is .f64 y (cLen x2 x3 y2 y3)) (ix : Is .f64 x (cDot x2 x3 y2 y3)) (w : World) => specAng iy ix (num_low lc) (num_low ld) (fin_low iy lc) (fin_low ix ld) w
      go_region_held3 (fun w' => Below (W2.heap.size + 1) (W2.alloc (.cells #[.float .f64 s0, .float .f64 s1, .float .f64 s2] 37)) w') ((repeat' (first | with_reducible assumption | with_reducible exact Below.refl _ _ | with_reducible exact keepW (by with_reducible assumption) (by with_reducible assumption) (by first | exact Nat.le_refl _ | omega | (simp; done) | (simp; omega)) | (with_reducible refine Below.setCell ?_ (by first | omega | (simp; done) | (simp; omega)) _) | (with_reducible refine below_drewN ?_ _) | (with_reducible refine Below.drew ?_) | (with_reducible refine Below.trans ?_ (Below.mono (by with_reducible assumption) (by first | omega | (simp; done) | (simp; omega)))) | (with_reducible refine Below.alloc ?_ (by first | omega | (simp; done) | (simp; omega)) _))))
        (first | (go_at_call 16; refine (sCross3 i0 i1 i2 j0 j1 j2 _).mono ?_; rintro eq wq ⟨⟨q0, q1, q2, rfl, p0, p1, p2⟩, hb⟩) | (go_at_call 15; refine (sLen3 (by assumption) (by assumption) (by assumption) _).mono ?_; rintro eq wq ⟨⟨rq, rfl, hq⟩, hb⟩) | (go_at_call 17; refine (sInner3 i0 i1 i2 j0 j1 j2 _).mono ?_; rintro eq wq ⟨⟨rd, rfl, hd⟩, hb⟩) | (go_at_call 14; refine (CA (by assumption) (by assumption) _).mono ?_; rintro eq wq ⟨rq, nq, rfl, hq, rfl⟩) | (go_at_call 13; refine (sNarF (by assumption) fit _).mono ?_; rintro eq wq ⟨⟨rn, rfl, hn⟩, hb⟩))
      all_goals
        rename_i hHeld
        have z3 := hHeld.size
        simp at z3
        go_wp2_with fail
        go_ret2
        refine ⟨⟨_, rfl, by assumption⟩, ?_⟩
        repeat' (first | with_reducible exact Below.refl _ _ | with_reducible assumption | (with_reducible refine Below.setCell ?_ (by first | omega | (simp; done) | (simp; omega)) _) | (with_reducible refine Below.alloc ?_ (by first | omega | (simp; done) | (simp; omega)) _) | (with_reducible refine below_drewN ?_ _) | (with_reducible refine Below.drew ?_) | (with_reducible refine Below.trans ?_ (Below.mono (by first | (with_reducible assumption) | exact Grow.below (by assumption)) (by first | omega | (simp; done) | (simp; omega)))))

set_option maxHeartbeats 3200000 in
theorem iTilt {a0 a1 a2 a3 a4 a5 b0 b1 b2 b3 b4 b5 : Nat} {x0 x1 x2 x3 x4 x5 y0 y1 y2 y3 y4 y5 : Option Nat} (h0 : Is .f32 a0 x0) (h1 : Is .f32 a1 x1) (h2 : Is .f32 a2 x2) (h3 : Is .f32 a3 x3) (h4 : Is .f32 a4 x4) (h5 : Is .f32 a5 x5) (g0 : Is .f32 b0 y0) (g1 : Is .f32 b1 y1) (g2 : Is .f32 b2 y2) (g3 : Is .f32 b3 y3) (g4 : Is .f32 b4 y4) (g5 : Is .f32 b5 y5) (w : World) :
    Calls Try.prog 7 #[orbV a0 a1 a2 a3 a4 a5, orbV b0 b1 b2 b3 b4 b5] w (RetNum (if orbB x0 x1 x2 x3 x4 x5 && orbB y0 y1 y2 y3 y4 y5 then finN (cv .f64 .f32 (cAng x2 x3 y2 y3)) else some 0) (orbB x0 x1 x2 x3 x4 x5 && orbB y0 y1 y2 y3 y4 y5 && finS (cv .f64 .f32 (cAng x2 x3 y2 y3))) w) := by
  have hst := run_store_float Try.prog
  cases hA : orbB x0 x1 x2 x3 x4 x5 with
  | false =>
    have CO := iOrb h0 h1 h2 h3 h4 h5
    rw [hA] at CO
    go_enter Try.func7, Try.ntmps7
    go_wp2_with fail
    refine (CO _).mono ?_
    rintro eq W1 ⟨rfl, bl1⟩
    go_wp2_with fail
    go_ret2
    refine ⟨⟨_, rfl, zero32⟩, ?_⟩
    repeat' (first | with_reducible exact Below.refl _ _ | with_reducible assumption | (with_reducible refine Below.setCell ?_ (by first | omega | (simp; done) | (simp; omega)) _) | (with_reducible refine Below.alloc ?_ (by first | omega | (simp; done) | (simp; omega)) _) | (with_reducible refine below_drewN ?_ _) | (with_reducible refine Below.drew ?_) | (with_reducible refine Below.trans ?_ (Below.mono (by first | (with_reducible assumption) | exact Grow.below (by assumption)) (by first | omega | (simp; done) | (simp; omega)))))
  | true =>
    have CO := iOrb h0 h1 h2 h3 h4 h5
    rw [hA] at CO
    cases hB : orbB y0 y1 y2 y3 y4 y5 with
    | false =>
      have CP := iOrb g0 g1 g2 g3 g4 g5
      rw [hB] at CP
      go_enter Try.func7, Try.ntmps7
      go_wp2_with fail
      refine (CO _).mono ?_
      rintro eq W1 ⟨rfl, bl1⟩
      obtain ⟨hc, hf⟩ := bcell bl1
      have z1 := bl1.size
      simp at z1
      go_wp2_with fail
      refine (CP _).mono ?_
      rintro eq W2 ⟨rfl, bl2⟩
      go_wp2_with fail
      go_ret2
      refine ⟨⟨_, rfl, zero32⟩, ?_⟩
      repeat' (first | with_reducible exact Below.refl _ _ | with_reducible assumption | (with_reducible refine Below.setCell ?_ (by first | omega | (simp; done) | (simp; omega)) _) | (with_reducible refine Below.alloc ?_ (by first | omega | (simp; done) | (simp; omega)) _) | (with_reducible refine below_drewN ?_ _) | (with_reducible refine Below.drew ?_) | (with_reducible refine Below.trans ?_ (Below.mono (by first | (with_reducible assumption) | exact Grow.below (by assumption)) (by first | omega | (simp; done) | (simp; omega)))))
    | true =>
      have CP := iOrb g0 g1 g2 g3 g4 g5
      rw [hB] at CP
      have f2 := tilt_fin h2 (orb_parts hA).1
      have f3 := part_fin' h3 (orb_parts hA).2
      have e2 := tilt_fin g2 (orb_parts hB).1
      have e3 := part_fin' g3 (orb_parts hB).2
      have fit := fit_cAng h2 h3 g2 g3
      have lc := low_cLen h2 h3 g2 g3
      have ld := low_cDot h2 h3 g2 g3
      go_enter Try.func7, Try.ntmps7
      go_wp2_with fail
      refine (CO _).mono ?_
      rintro eq W1 ⟨rfl, bl1⟩
      obtain ⟨hc, hf⟩ := bcell bl1
      have z1 := bl1.size
      simp at z1
      go_wp2_with fail
      refine (CP _).mono ?_
      rintro eq W2 ⟨rfl, bl2⟩
      obtain ⟨hc2, hf2⟩ := bcell bl2
      have z2 := bl2.size
      (try simp at z2)
      go_wp2_with fail
      have ca0 : W2.cell? ⟨w.heap.size, 0, none⟩ = some (.float .f32 a0) := by rw [bl2.cell (by simp; omega), bl1.cell (by first | omega | (simp; done) | (simp; omega))]; simp
      have ca1 : W2.cell? ⟨w.heap.size, 1, none⟩ = some (.float .f32 a1) := by rw [bl2.cell (by simp; omega), bl1.cell (by first | omega | (simp; done) | (simp; omega))]; simp
      have ca2 : W2.cell? ⟨w.heap.size, 2, none⟩ = some (.float .f32 a2) := by rw [bl2.cell (by simp; omega), bl1.cell (by first | omega | (simp; done) | (simp; omega))]; simp
      have ca3 : W2.cell? ⟨w.heap.size, 3, none⟩ = some (.float .f32 a3) := by rw [bl2.cell (by simp; omega), bl1.cell (by first | omega | (simp; done) | (simp; omega))]; simp
      have ca4 : W2.cell? ⟨w.heap.size, 4, none⟩ = some (.float .f32 a4) := by rw [bl2.cell (by simp; omega), bl1.cell (by first | omega | (simp; done) | (simp; omega))]; simp
      have ca5 : W2.cell? ⟨w.heap.size, 5, none⟩ = some (.float .f32 a5) := by rw [bl2.cell (by simp; omega), bl1.cell (by first | omega | (simp; done) | (simp; omega))]; simp
      have cb0 : W2.cell? ⟨w.heap.size + 1, 0, none⟩ = some (.float .f32 b0) := by rw [bl2.cell (by simp; omega), bl1.cell (by first | omega | (simp; done) | (simp; omega))]; simp
      have cb1 : W2.cell? ⟨w.heap.size + 1, 1, none⟩ = some (.float .f32 b1) := by rw [bl2.cell (by simp; omega), bl1.cell (by first | omega | (simp; done) | (simp; omega))]; simp
      have cb2 : W2.cell? ⟨w.heap.size + 1, 2, none⟩ = some (.float .f32 b2) := by rw [bl2.cell (by simp; omega), bl1.cell (by first | omega | (simp; done) | (simp; omega))]; simp
      have cb3 : W2.cell? ⟨w.heap.size + 1, 3, none⟩ = some (.float .f32 b3) := by rw [bl2.cell (by simp; omega), bl1.cell (by first | omega | (simp; done) | (simp; omega))]; simp
      have cb4 : W2.cell? ⟨w.heap.size + 1, 4, none⟩ = some (.float .f32 b4) := by rw [bl2.cell (by simp; omega), bl1.cell (by first | omega | (simp; done) | (simp; omega))]; simp
      have cb5 : W2.cell? ⟨w.heap.size + 1, 5, none⟩ = some (.float .f32 b5) := by rw [bl2.cell (by simp; omega), bl1.cell (by first | omega | (simp; done) | (simp; omega))]; simp
      have BW : Below w.heap.size w W2 := by repeat' (first | with_reducible exact Below.refl _ _ | with_reducible assumption | (with_reducible refine Below.setCell ?_ (by first | omega | (simp; done) | (simp; omega)) _) | (with_reducible refine Below.alloc ?_ (by first | omega | (simp; done) | (simp; omega)) _) | (with_reducible refine below_drewN ?_ _) | (with_reducible refine Below.drew ?_) | (with_reducible refine Below.trans ?_ (Below.mono (by first | (with_reducible assumption) | exact Grow.below (by assumption)) (by first | omega | (simp; done) | (simp; omega)))))
      clear hc hf hc2 hf2
      have ka0 : ∀ w', Below W2.heap.size W2 w' → w'.cell? ⟨w.heap.size, 0, none⟩ = some (.float .f32 a0) := fun w' h => by rw [h.cell (by simp; omega), ca0]
      have ka1 : ∀ w', Below W2.heap.size W2 w' → w'.cell? ⟨w.heap.size, 1, none⟩ = some (.float .f32 a1) := fun w' h => by rw [h.cell (by simp; omega), ca1]
      have ka2 : ∀ w', Below W2.heap.size W2 w' → w'.cell? ⟨w.heap.size, 2, none⟩ = some (.float .f32 a2) := fun w' h => by rw [h.cell (by simp; omega), ca2]
      have ka3 : ∀ w', Below W2.heap.size W2 w' → w'.cell? ⟨w.heap.size, 3, none⟩ = some (.float .f32 a3) := fun w' h => by rw [h.cell (by simp; omega), ca3]
      have ka4 : ∀ w', Below W2.heap.size W2 w' → w'.cell? ⟨w.heap.size, 4, none⟩ = some (.float .f32 a4) := fun w' h => by rw [h.cell (by simp; omega), ca4]
      have ka5 : ∀ w', Below W2.heap.size W2 w' → w'.cell? ⟨w.heap.size, 5, none⟩ = some (.float .f32 a5) := fun w' h => by rw [h.cell (by simp; omega), ca5]
      have kb0 : ∀ w', Below W2.heap.size W2 w' → w'.cell? ⟨w.heap.size + 1, 0, none⟩ = some (.float .f32 b0) := fun w' h => by rw [h.cell (by simp; omega), cb0]
      have kb1 : ∀ w', Below W2.heap.size W2 w' → w'.cell? ⟨w.heap.size + 1, 1, none⟩ = some (.float .f32 b1) := fun w' h => by rw [h.cell (by simp; omega), cb1]
      have kb2 : ∀ w', Below W2.heap.size W2 w' → w'.cell? ⟨w.heap.size + 1, 2, none⟩ = some (.float .f32 b2) := fun w' h => by rw [h.cell (by simp; omega), cb2]
      have kb3 : ∀ w', Below W2.heap.size W2 w' → w'.cell? ⟨w.heap.size + 1, 3, none⟩ = some (.float .f32 b3) := fun w' h => by rw [h.cell (by simp; omega), cb3]
      have kb4 : ∀ w', Below W2.heap.size W2 w' → w'.cell? ⟨w.heap.size + 1, 4, none⟩ = some (.float .f32 b4) := fun w' h => by rw [h.cell (by simp; omega), cb4]
      have kb5 : ∀ w', Below W2.heap.size W2 w' → w'.cell? ⟨w.heap.size + 1, 5, none⟩ = some (.float .f32 b5) := fun w' h => by rw [h.cell (by simp; omega), cb5]
      clear ca0 cb0 ca1 cb1 ca2 cb2 ca3 cb3 ca4 cb4 ca5 cb5
      go_cut [6, 7] (fun s6 s7 wx => ∃ B C r0 r1 r2 s0 s1 s2 : Nat, s6 = .pointer (some ⟨B, 0, none⟩) ∧ s7 = .pointer (some ⟨C, 0, none⟩) ∧ Is .f64 r0 (nX x2 x3) ∧ Is .f64 r1 (nY x2 x3) ∧ Is .f64 r2 (nZ x2) ∧ Is .f64 s0 (nX y2 y3) ∧ Is .f64 s1 (nY y2 y3) ∧ Is .f64 s2 (nZ y2) ∧ (B < wx.heap.size ∧ C < wx.heap.size) ∧ (wx.cell? ⟨B, 0, none⟩ = some (.float .f64 r0) ∧ wx.cell? ⟨B, 1, none⟩ = some (.float .f64 r1) ∧ wx.cell? ⟨B, 2, none⟩ = some (.float .f64 r2)) ∧ (wx.cell? ⟨C, 0, none⟩ = some (.float .f64 s0) ∧ wx.cell? ⟨C, 1, none⟩ = some (.float .f64 s1) ∧ wx.cell? ⟨C, 2, none⟩ = some (.float .f64 s2)) ∧ Below w.heap.size w wx)
      case first =>
        go_region_held3 (fun w' => Below W2.heap.size W2 w') ((repeat' (first | with_reducible assumption | with_reducible exact Below.refl _ _ | with_reducible exact keepW (by with_reducible assumption) (by with_reducible assumption) (by first | exact Nat.le_refl _ | omega | (simp; done) | (simp; omega)) | (with_reducible refine Below.setCell ?_ (by first | omega | (simp; done) | (simp; omega)) _) | (with_reducible refine below_drewN ?_ _) | (with_reducible refine Below.drew ?_) | (with_reducible refine Below.trans ?_ (Below.mono (by with_reducible assumption) (by first | omega | (simp; done) | (simp; omega)))) | (with_reducible refine Below.alloc ?_ (by first | omega | (simp; done) | (simp; omega)) _)))) (first | (go_at_call 19; (with_reducible refine (iNormal h2 h3 f2 f3 _).mono ?_); rintro eq wq ⟨⟨q0, q1, q2, rfl, p0, p1, p2⟩, hb⟩; have hbq := keepW (B := W2.heap.size) (W0 := W2) (by with_reducible assumption) hb (Nat.le_refl _); have hzq := hbq.size; obtain ⟨hcq, hfq⟩ := bcell hb; have hzz := hb.size; (try simp at hzz); (try have hll := Nat.lt_of_succ_le hzz); (try have hlm := Nat.lt_of_succ_le (Nat.le_of_succ_le hzz)); (try have hlw : W2.heap.size < wq.heap.size := by omega); (try have hlx : W2.heap.size + 1 < wq.heap.size := by omega)) | (go_at_call 19; (with_reducible refine (iNormal g2 g3 e2 e3 _).mono ?_); rintro eq wq ⟨⟨q0, q1, q2, rfl, p0, p1, p2⟩, hb⟩; have hbq := keepW (B := W2.heap.size) (W0 := W2) (by with_reducible assumption) hb (Nat.le_refl _); have hzq := hbq.size; obtain ⟨hcq, hfq⟩ := bcell hb; have hzz := hb.size; (try simp at hzz); (try have hll := Nat.lt_of_succ_le hzz); (try have hlm := Nat.lt_of_succ_le (Nat.le_of_succ_le hzz)); (try have hlw : W2.heap.size < wq.heap.size := by omega); (try have hlx : W2.heap.size + 1 < wq.heap.size := by omega)))
        all_goals
          go_wp2_with fail
          go_meet
          refine ⟨_, _, _, _, _, _, _, _, rfl, rfl, by with_reducible assumption, by with_reducible assumption, by with_reducible assumption, by with_reducible assumption, by with_reducible assumption, by with_reducible assumption, ⟨?_, ?_⟩, ⟨?_, ?_, ?_⟩, ⟨?_, ?_, ?_⟩, BW.trans (Below.mono (by with_reducible assumption) (by omega))⟩
          · exact (by first | omega | (simp; done) | (simp; omega))
          · exact (by first | omega | (simp; done) | (simp; omega))
          all_goals (first | (go_simp; done) | (rw [cell_set _ (by go_simp)]; done) | (go_simp; rw [cell_set _ (by go_simp)]))
      case rest =>
        obtain ⟨B, C, r0, r1, r2, s0, s1, s2, rfl, rfl, i0, i1, i2, j0, j1, j2, ⟨hB0, hC0⟩, ⟨u0, u1, u2⟩, ⟨v0, v1, v2⟩, BX⟩ := hcut
        clear ka0 kb0 ka1 kb1 ka2 kb2 ka3 kb3 ka4 kb4 ka5 kb5
        have zc := BX.size
        have cu0 : ∀ w', Below wc.heap.size wc w' → w'.cell? ⟨B, 0, none⟩ = some (.float .f64 r0) := fun w' h => by rw [h.cell hB0, u0]
        have cu1 : ∀ w', Below wc.heap.size wc w' → w'.cell? ⟨B, 1, none⟩ = some (.float .f64 r1) := fun w' h => by rw [h.cell hB0, u1]
        have cu2 : ∀ w', Below wc.heap.size wc w' → w'.cell? ⟨B, 2, none⟩ = some (.float .f64 r2) := fun w' h => by rw [h.cell hB0, u2]
        have cv0 : ∀ w', Below wc.heap.size wc w' → w'.cell? ⟨C, 0, none⟩ = some (.float .f64 s0) := fun w' h => by rw [h.cell hC0, v0]
        have cv1 : ∀ w', Below wc.heap.size wc w' → w'.cell? ⟨C, 1, none⟩ = some (.float .f64 s1) := fun w' h => by rw [h.cell hC0, v1]
        have cv2 : ∀ w', Below wc.heap.size wc w' → w'.cell? ⟨C, 2, none⟩ = some (.float .f64 s2) := fun w' h => by rw [h.cell hC0, v2]
        have CA := fun {y x : Nat} (iy : Is .f64 y (cLen x2 x3 y2 y3)) (ix : Is .f64 x (cDot x2 x3 y2 y3)) (w : World) => implAng iy ix (num_low lc) (num_low ld) w
        clear u0 u1 u2 v0 v1 v2
        go_wp2_with fail
        go_region_held3 (fun w' => Below wc.heap.size wc w') ((repeat' (first | with_reducible assumption | with_reducible exact Below.refl _ _ | with_reducible exact keepW (by with_reducible assumption) (by with_reducible assumption) (by first | exact Nat.le_refl _ | omega | (simp; done) | (simp; omega)) | (with_reducible refine Below.setCell ?_ (by first | omega | (simp; done) | (simp; omega)) _) | (with_reducible refine below_drewN ?_ _) | (with_reducible refine Below.drew ?_) | (with_reducible refine Below.trans ?_ (Below.mono (by with_reducible assumption) (by first | omega | (simp; done) | (simp; omega)))) | (with_reducible refine Below.alloc ?_ (by first | omega | (simp; done) | (simp; omega)) _)))) (first | (go_at_call 22; refine (iCross3 i0 i1 i2 j0 j1 j2 _).mono ?_; rintro eq wq ⟨⟨q0, q1, q2, rfl, p0, p1, p2⟩, hb⟩) | (go_at_call 23; refine (iLen3 (by assumption) (by assumption) (by assumption) _).mono ?_; rintro eq wq ⟨⟨rq, rfl, hq⟩, hb⟩) | (go_at_call 24; refine (iInner3 i0 i1 i2 j0 j1 j2 _).mono ?_; rintro eq wq ⟨⟨rd, rfl, hd⟩, hb⟩) | (go_at_call 21; refine (CA (by assumption) (by assumption) _).mono ?_; rintro eq wq ⟨rq, nq, rfl, hq, rfl⟩) | (go_at_call 20; refine (iNarF (by assumption) fit _).mono ?_; rintro eq wq ⟨⟨rn, rfl, hn⟩, hb⟩))
        all_goals
          rename_i hHeld
          go_wp2_with fail
          go_ret2
          refine ⟨⟨_, rfl, by assumption⟩, ?_⟩
          exact BX.trans (hHeld.mono zc)

end Go.Proofs.Ytbkbmhancklpdaa
