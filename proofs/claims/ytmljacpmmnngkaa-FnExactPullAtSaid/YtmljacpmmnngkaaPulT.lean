/-
  The pull at a place, of the model, whole. No condition.
-/
import Derived.Test.YtmljacpmmnngkaaPulS
import Derived.Test.YtmljacpmmnngkaaGood
namespace Go.Proofs.Ytmljacpmmnngkaa
open Go.RowKit

set_option maxHeartbeats 3200000 in
theorem sPullAt (b off n cap : Nat) (f : Nat → Nat) (v A : Nat → Option Nat) (c : Option Nat) {p0 p1 p2 x : Nat} (w : World) (hn : n ≤ 1048576) (hb : b < w.heap.size) (hr : ∀ i, i < 7 * n → w.cell? ⟨b, off + i, none⟩ = some (.float .f32 (f i))) (hv : ∀ i, i < 7 * n → Is .f32 (f i) (v i)) (g0 : Is .f32 p0 (A 0)) (g1 : Is .f32 p1 (A 1)) (g2 : Is .f32 p2 (A 2)) (ic : Is .f32 x c) :
    Calls Try.prog 6 #[.slice (some ⟨b, off, none⟩) n cap, vecV p0 p1 p2, .float .f32 x] w (RetVB (pulV v A c n 0) (pulV v A c n 1) (pulV v A c n 2) (pulF v A c n) w) := by
  have HC : ∀ W, Below w.heap.size w W → Calls Try.prog 14 #[.slice (some ⟨b, off, none⟩) n cap] W fun e w' => e = .returned (.bool (areB v n)) ∧ Below W.heap.size W w' := fun W hW => sAre b off n cap f v W hn (Nat.lt_of_lt_of_le hb hW.size) (fun i hi => (hW.cell (p := ⟨b, _, none⟩) hb).trans (hr i hi)) hv
  have VF := fun W => sFinV g0 g1 g2 W
  have CL := fun W => sLeast ic W
  have HR := Lib.hid hr
  have HV := Lib.hid hv
  clear hr hv
  cases hA : areB v n with
  | false =>
    have hok : pulOk v A c n = false := by simp [pulOk, hA] 
    rw [pulV_f hok, pulV_f hok, pulV_f hok, pulF_f hok]
    clear hok
    rw [hA] at HC
    have hst := run_store_float Try.prog
    go_enter Try.func6, Try.ntmps6
    go_wp2_with fail
    (go_at_call 14; refine (HC _ (by repeat' (first | with_reducible exact Below.refl _ _ | with_reducible assumption | (with_reducible refine Below.setCell ?_ (by first | omega | (simp; done) | (simp; omega)) _) | (with_reducible refine Below.alloc ?_ (by first | omega | (simp; done) | (simp; omega)) _) | (with_reducible refine below_drewN ?_ _) | (with_reducible refine Below.drew ?_) | (with_reducible refine Below.trans ?_ (Below.mono (by first | (with_reducible assumption) | exact Grow.below (by assumption)) (by first | omega | (simp; done) | (simp; omega))))))).mono ?_; rintro _ W1 ⟨rfl, b1⟩)
    have hR1 : Has (w.heap.size + 1) 3 W1 := Has.at (by simpa using has_alloc3 (w.alloc (Obj.cells #[.float .f32 p0, .float .f32 p1, .float .f32 p2] 27)) (.float .f32 0) (.float .f32 0) (.float .f32 0) 27) b1
    have bA : Below w.heap.size w W1 := by
      refine Below.trans ?_ (b1.mono (by simp; omega))
      repeat' (first | with_reducible exact Below.refl _ _ | with_reducible assumption | (with_reducible refine Below.setCell ?_ (by first | omega | (simp; done) | (simp; omega)) _) | (with_reducible refine Below.alloc ?_ (by first | omega | (simp; done) | (simp; omega)) _) | (with_reducible refine below_drewN ?_ _) | (with_reducible refine Below.drew ?_) | (with_reducible refine Below.trans ?_ (Below.mono (by first | (with_reducible assumption) | exact Grow.below (by assumption)) (by first | omega | (simp; done) | (simp; omega)))))
    have y0 := hR1.cell (o := 0) (by decide)
    have y1 := hR1.cell (o := 1) (by decide)
    have y2 := hR1.cell (o := 2) (by decide)
    have yf := hR1.frz
    obtain ⟨v0, v1, v2⟩ := set3v (u0 := 0) (u1 := 0) (u2 := 0) hR1
    go_wp2_with fail
    refine bodyPost_ret (v := .tuple #[vecV 0 0 0, .bool false]) (by simp [results, Try.results6, go_sem, v0, v1, v2]) rfl ⟨⟨_, _, _, rfl, zeroW, zeroW, zeroW⟩, ?_⟩
    exact (((bA).setCell (by simp) _).setCell (by simp) _).setCell (by simp) _
  | true =>
    cases hF : finV (A 0) (A 1) (A 2) with
    | false =>
      have hok : pulOk v A c n = false := by simp [pulOk, hF] 
      rw [pulV_f hok, pulV_f hok, pulV_f hok, pulF_f hok]
      clear hok
      rw [hA] at HC
      rw [hF] at VF
      have hst := run_store_float Try.prog
      go_enter Try.func6, Try.ntmps6
      go_wp2_with fail
      (go_at_call 14; refine (HC _ (by repeat' (first | with_reducible exact Below.refl _ _ | with_reducible assumption | (with_reducible refine Below.setCell ?_ (by first | omega | (simp; done) | (simp; omega)) _) | (with_reducible refine Below.alloc ?_ (by first | omega | (simp; done) | (simp; omega)) _) | (with_reducible refine below_drewN ?_ _) | (with_reducible refine Below.drew ?_) | (with_reducible refine Below.trans ?_ (Below.mono (by first | (with_reducible assumption) | exact Grow.below (by assumption)) (by first | omega | (simp; done) | (simp; omega))))))).mono ?_; rintro _ W1 ⟨rfl, b1⟩)
      have hR1 : Has (w.heap.size + 1) 3 W1 := Has.at (by simpa using has_alloc3 (w.alloc (Obj.cells #[.float .f32 p0, .float .f32 p1, .float .f32 p2] 27)) (.float .f32 0) (.float .f32 0) (.float .f32 0) 27) b1
      have bA : Below w.heap.size w W1 := by
        refine Below.trans ?_ (b1.mono (by simp; omega))
        repeat' (first | with_reducible exact Below.refl _ _ | with_reducible assumption | (with_reducible refine Below.setCell ?_ (by first | omega | (simp; done) | (simp; omega)) _) | (with_reducible refine Below.alloc ?_ (by first | omega | (simp; done) | (simp; omega)) _) | (with_reducible refine below_drewN ?_ _) | (with_reducible refine Below.drew ?_) | (with_reducible refine Below.trans ?_ (Below.mono (by first | (with_reducible assumption) | exact Grow.below (by assumption)) (by first | omega | (simp; done) | (simp; omega)))))
      obtain ⟨hc1, hf1⟩ := bcell b1
      have hz1 := b1.size
      simp at hz1
      have hl1 : w.heap.size < W1.heap.size := by omega
      have a0 : W1.cell? ⟨w.heap.size, 0, none⟩ = some (.float .f32 p0) := by rw [hc1 _ _ (by simp; omega), World.cell?_alloc_lt _ _ _ (by simp)]; simp
      have a1 : W1.cell? ⟨w.heap.size, 1, none⟩ = some (.float .f32 p1) := by rw [hc1 _ _ (by simp; omega), World.cell?_alloc_lt _ _ _ (by simp)]; simp
      have a2 : W1.cell? ⟨w.heap.size, 2, none⟩ = some (.float .f32 p2) := by rw [hc1 _ _ (by simp; omega), World.cell?_alloc_lt _ _ _ (by simp)]; simp
      go_wp2_with fail
      (go_at_call 15; refine (VF _).mono ?_; rintro _ W2 ⟨rfl, b2⟩)
      have hR2 : Has (w.heap.size + 1) 3 W2 := hR1.at b2.1
      have y0 := hR2.cell (o := 0) (by decide)
      have y1 := hR2.cell (o := 1) (by decide)
      have y2 := hR2.cell (o := 2) (by decide)
      have yf := hR2.frz
      obtain ⟨v0, v1, v2⟩ := set3v (u0 := 0) (u1 := 0) (u2 := 0) hR2
      go_wp2_with fail
      refine bodyPost_ret (v := .tuple #[vecV 0 0 0, .bool false]) (by simp [results, Try.results6, go_sem, v0, v1, v2]) rfl ⟨⟨_, _, _, rfl, zeroW, zeroW, zeroW⟩, ?_⟩
      exact (((bA.trans (b2.1.mono bA.size)).setCell (by simp) _).setCell (by simp) _).setCell (by simp) _
    | true =>
      cases hc : leastB c with
      | false =>
        have hok : pulOk v A c n = false := by simp [pulOk, hc] 
        rw [pulV_f hok, pulV_f hok, pulV_f hok, pulF_f hok]
        clear hok
        rw [hA] at HC
        rw [hF] at VF
        rw [hc] at CL
        have hst := run_store_float Try.prog
        go_enter Try.func6, Try.ntmps6
        go_wp2_with fail
        (go_at_call 14; refine (HC _ (by repeat' (first | with_reducible exact Below.refl _ _ | with_reducible assumption | (with_reducible refine Below.setCell ?_ (by first | omega | (simp; done) | (simp; omega)) _) | (with_reducible refine Below.alloc ?_ (by first | omega | (simp; done) | (simp; omega)) _) | (with_reducible refine below_drewN ?_ _) | (with_reducible refine Below.drew ?_) | (with_reducible refine Below.trans ?_ (Below.mono (by first | (with_reducible assumption) | exact Grow.below (by assumption)) (by first | omega | (simp; done) | (simp; omega))))))).mono ?_; rintro _ W1 ⟨rfl, b1⟩)
        have hR1 : Has (w.heap.size + 1) 3 W1 := Has.at (by simpa using has_alloc3 (w.alloc (Obj.cells #[.float .f32 p0, .float .f32 p1, .float .f32 p2] 27)) (.float .f32 0) (.float .f32 0) (.float .f32 0) 27) b1
        have bA : Below w.heap.size w W1 := by
          refine Below.trans ?_ (b1.mono (by simp; omega))
          repeat' (first | with_reducible exact Below.refl _ _ | with_reducible assumption | (with_reducible refine Below.setCell ?_ (by first | omega | (simp; done) | (simp; omega)) _) | (with_reducible refine Below.alloc ?_ (by first | omega | (simp; done) | (simp; omega)) _) | (with_reducible refine below_drewN ?_ _) | (with_reducible refine Below.drew ?_) | (with_reducible refine Below.trans ?_ (Below.mono (by first | (with_reducible assumption) | exact Grow.below (by assumption)) (by first | omega | (simp; done) | (simp; omega)))))
        obtain ⟨hc1, hf1⟩ := bcell b1
        have hz1 := b1.size
        simp at hz1
        have hl1 : w.heap.size < W1.heap.size := by omega
        have a0 : W1.cell? ⟨w.heap.size, 0, none⟩ = some (.float .f32 p0) := by rw [hc1 _ _ (by simp; omega), World.cell?_alloc_lt _ _ _ (by simp)]; simp
        have a1 : W1.cell? ⟨w.heap.size, 1, none⟩ = some (.float .f32 p1) := by rw [hc1 _ _ (by simp; omega), World.cell?_alloc_lt _ _ _ (by simp)]; simp
        have a2 : W1.cell? ⟨w.heap.size, 2, none⟩ = some (.float .f32 p2) := by rw [hc1 _ _ (by simp; omega), World.cell?_alloc_lt _ _ _ (by simp)]; simp
        go_wp2_with fail
        (go_at_call 15; refine (VF _).mono ?_; rintro _ W2 ⟨rfl, b2⟩)
        obtain ⟨hc2, hf2⟩ := bcell b2.1
        have hz2 := b2.below.size
        have hR2 : Has (w.heap.size + 1) 3 W2 := hR1.at b2.1
        go_wp2_with fail
        (go_at_call 16; refine (CL _).mono ?_; rintro _ W3 ⟨n3, rfl, rfl⟩)
        have hR3 := hR2.drewN n3
        have y0 := hR3.cell (o := 0) (by decide)
        have y1 := hR3.cell (o := 1) (by decide)
        have y2 := hR3.cell (o := 2) (by decide)
        have yf := hR3.frz
        obtain ⟨v0, v1, v2⟩ := set3v (u0 := 0) (u1 := 0) (u2 := 0) hR3
        go_wp2_with fail
        refine bodyPost_ret (v := .tuple #[vecV 0 0 0, .bool false]) (by simp [results, Try.results6, go_sem, v0, v1, v2]) rfl ⟨⟨_, _, _, rfl, zeroW, zeroW, zeroW⟩, ?_⟩
        exact (((below_drewN (bA.trans (b2.1.mono bA.size)) n3).setCell (by simp) _).setCell (by simp) _).setCell (by simp) _
      | true =>
        have HA := Lib.hid hA
        have HFF := Lib.hid hF
        have HCC := Lib.hid hc
        have hok : pulOk v A c n = true := by simp [pulOk, hA, hF, hc]
        rw [pulV_t hok, pulV_t hok, pulV_t hok, pulF_t hok]
        clear hok
        rw [hA] at HC
        rw [hF] at VF
        rw [hc] at CL
        have hst := run_store_float Try.prog
        go_enter Try.func6, Try.ntmps6
        go_wp2_with fail
        (go_at_call 14; refine (HC _ (by repeat' (first | with_reducible exact Below.refl _ _ | with_reducible assumption | (with_reducible refine Below.setCell ?_ (by first | omega | (simp; done) | (simp; omega)) _) | (with_reducible refine Below.alloc ?_ (by first | omega | (simp; done) | (simp; omega)) _) | (with_reducible refine below_drewN ?_ _) | (with_reducible refine Below.drew ?_) | (with_reducible refine Below.trans ?_ (Below.mono (by first | (with_reducible assumption) | exact Grow.below (by assumption)) (by first | omega | (simp; done) | (simp; omega))))))).mono ?_; rintro _ W1 ⟨rfl, b1⟩)
        obtain ⟨hc1, hf1⟩ := bcell b1
        have hz1 := b1.size
        simp at hz1
        have hl1 : w.heap.size < W1.heap.size := by omega
        have a0 : W1.cell? ⟨w.heap.size, 0, none⟩ = some (.float .f32 p0) := by rw [hc1 _ _ (by simp; omega), World.cell?_alloc_lt _ _ _ (by simp)]; simp
        have a1 : W1.cell? ⟨w.heap.size, 1, none⟩ = some (.float .f32 p1) := by rw [hc1 _ _ (by simp; omega), World.cell?_alloc_lt _ _ _ (by simp)]; simp
        have a2 : W1.cell? ⟨w.heap.size, 2, none⟩ = some (.float .f32 p2) := by rw [hc1 _ _ (by simp; omega), World.cell?_alloc_lt _ _ _ (by simp)]; simp
        go_wp2_with fail
        (go_at_call 15; refine (VF _).mono ?_; rintro _ W2 ⟨rfl, b2⟩)
        obtain ⟨hc2, hf2⟩ := bcell b2.1
        have hz2 := b2.below.size
        go_wp2_with fail
        (go_at_call 16; refine (CL _).mono ?_; rintro _ W3 ⟨n3, rfl, rfl⟩)
        go_wp2_with fail
        have bA : Below w.heap.size w W1 := by
          refine Below.trans ?_ (b1.mono (by simp; omega))
          repeat' (first | with_reducible exact Below.refl _ _ | with_reducible assumption | (with_reducible refine Below.setCell ?_ (by first | omega | (simp; done) | (simp; omega)) _) | (with_reducible refine Below.alloc ?_ (by first | omega | (simp; done) | (simp; omega)) _) | (with_reducible refine below_drewN ?_ _) | (with_reducible refine Below.drew ?_) | (with_reducible refine Below.trans ?_ (Below.mono (by first | (with_reducible assumption) | exact Grow.below (by assumption)) (by first | omega | (simp; done) | (simp; omega)))))
        have b24 : Below w.heap.size w W2 := bA.trans (b2.1.mono bA.size)
        have bW : Below w.heap.size w (W2.drewN n3) := below_drewN b24 n3
        (go_at_call 18; refine (sPull b off n cap f v A c (W2.drewN n3) hn HA.out HFF.out HCC.out (Nat.lt_of_lt_of_le hb bW.size) (fun i hi => (bW.cell (p := ⟨b, _, none⟩) hb).trans (HR.out i hi)) HV.out g0 g1 g2 ic).mono ?_; rintro _ W5 ⟨⟨t0, t1, t2, rfl, j0, j1, j2⟩, b5⟩)
        go_wp2_with fail
        (go_at_call 17; refine (sFinVec j0 j1 j2 _).mono ?_; rintro _ W6 ⟨⟨u0, u1, u2, rfl, i0, i1, i2⟩, b6⟩)
        have hR1 : Has (w.heap.size + 1) 3 W1 := Has.at (by simpa using has_alloc3 (w.alloc (Obj.cells #[.float .f32 p0, .float .f32 p1, .float .f32 p2] 27)) (.float .f32 0) (.float .f32 0) (.float .f32 0) 27) b1
        have hR6 : Has (w.heap.size + 1) 3 W6 := ((((hR1.at b2.1).drewN n3)).at b5).at b6
        have y0 := hR6.cell (o := 0) (by decide)
        have y1 := hR6.cell (o := 1) (by decide)
        have y2 := hR6.cell (o := 2) (by decide)
        have yf := hR6.frz
        have bX : Below w.heap.size w W6 := bt (bW.trans (b5.mono bW.size)) b6
        obtain ⟨v0, v1, v2⟩ := set3v (u0 := u0) (u1 := u1) (u2 := u2) hR6
        go_wp2_with fail
        refine bodyPost_ret (v := .tuple #[vecV u0 u1 u2, .bool (finV (pullS v A c 0 n) (pullS v A c 1 n) (pullS v A c 2 n))]) (by simp [results, Try.results6, go_sem, v0, v1, v2]) rfl ⟨⟨_, _, _, rfl, i0, i1, i2⟩, ?_⟩
        exact ((bX.setCell (by simp) _).setCell (by simp) _).setCell (by simp) _
end Go.Proofs.Ytmljacpmmnngkaa
