/-
  Whether a body is bound to another one, of the program. No condition.
-/
import Derived.Test.YtffoogflalkpbaaBndW
import Derived.Deep.RegionHeld3
namespace Go.Proofs.Ytffoogflalkpbaa
open Go.RowKit

set_option maxHeartbeats 6400000 in
theorem iBnd (b off n cap : Nat) (f : Nat → Nat) (v : Nat → Option Nat) (i k : Int) (w : World) (hn : n ≤ 1048576) (hb : b < w.heap.size) (hr : ∀ i, i < 7 * n → w.cell? ⟨b, off + i, none⟩ = some (.float .f32 (f i))) (hv : ∀ i, i < 7 * n → Is .f32 (f i) (v i)) :
    Calls Try.prog 7 #[.slice (some ⟨b, off, none⟩) n cap, .int .i64 i, .int .i64 k] w fun e w' => e = .returned (.tuple #[.bool (bndB v n i k), .bool (bndO v n i k)]) ∧ Below w.heap.size w w' := by
  have hst := run_store_float Try.prog
  have HA := iAre b off n cap f v w hn hb hr hv
  have HR := Lib.hid hr
  have HV := Lib.hid hv
  have HI := fun W => iBodyOf (some ⟨b, off, none⟩) n cap i W
  have HK := fun W => iBodyOf (some ⟨b, off, none⟩) n cap k W
  clear hr hv
  cases ha : areB v n with
  | false =>
    have e : bndO v n i k = false := by simp [bndO, bndG, ha]
    have e2 : bndB v n i k = false := by simp [bndB, e]
    rw [e, e2]
    rw [ha] at HA
    go_enter Try.func7, Try.ntmps7
    go_wp2_with (go_at_call 15; refine (HA).mono ?_; rintro _ W1 ⟨rfl, b1⟩)
    go_ret2
    exact ⟨rfl, b1⟩
  | true =>
    rw [ha] at HA
    cases hi : inB i n with
    | false =>
      have e : bndO v n i k = false := by simp [bndO, bndG, hi]
      have e2 : bndB v n i k = false := by simp [bndB, e]
      rw [e, e2]
      rw [hi] at HI
      go_enter Try.func7, Try.ntmps7
      go_wp2_with (first | (go_at_call 15; refine (HA).mono ?_; rintro _ W1 ⟨rfl, b1⟩) | (go_at_call 16; refine (HI _).mono ?_; rintro eq wq ⟨nq, rfl, rfl⟩))
      go_ret2
      exact ⟨rfl, below_drewN b1 _⟩
    | true =>
      rw [hi] at HI
      cases hk : inB k n with
      | false =>
        have e : bndO v n i k = false := by simp [bndO, bndG, hk]
        have e2 : bndB v n i k = false := by simp [bndB, e]
        rw [e, e2]
        rw [hk] at HK
        go_enter Try.func7, Try.ntmps7
        go_wp2_with (first | (go_at_call 15; refine (HA).mono ?_; rintro _ W1 ⟨rfl, b1⟩) | (go_at_call 16; (with_reducible refine (HI _).mono ?_); rintro eq wq ⟨nq, rfl, rfl⟩) | (go_at_call 16; (with_reducible refine (HK _).mono ?_); rintro eq wq ⟨nq, rfl, rfl⟩))
        go_ret2
        exact ⟨rfl, below_drewN b1 _⟩
      | true =>
        rw [hk] at HK
        by_cases hne : i = k
        · have e : bndO v n i k = false := by simp [bndO, bndG, hne]
          have e2 : bndB v n i k = false := by simp [bndB, e]
          rw [e, e2]
          have hd : decide (i = k) = true := by simp [hne]
          go_enter Try.func7, Try.ntmps7
          go_wp2_with (first | (go_at_call 15; refine (HA).mono ?_; rintro _ W1 ⟨rfl, b1⟩) | (go_at_call 16; (with_reducible refine (HI _).mono ?_); rintro eq wq ⟨nq, rfl, rfl⟩) | (go_at_call 16; (with_reducible refine (HK _).mono ?_); rintro eq wq ⟨nq, rfl, rfl⟩))
          go_ret2
          exact ⟨rfl, below_drewN b1 _⟩
        · have hd : decide (i = k) = false := by simp [hne]
          have e : bndO v n i k = finS (bndE v i.toNat k.toNat) := by simp [bndO, bndG, ha, hi, hk, hne]
          have e2 : bndB v n i k = (finS (bndE v i.toNat k.toNat) && cmpB .lss .f32 (bndE v i.toNat k.toNat) (some 0)) := by simp [bndB, e]
          rw [e, e2]
          clear e e2
          unfold inB at hi hk
          simp only [Bool.and_eq_true, decide_eq_true_eq] at hi hk
          obtain ⟨i, rfl⟩ := Int.eq_ofNat_of_zero_le hi.1
          obtain ⟨k, rfl⟩ := Int.eq_ofNat_of_zero_le hk.1
          rw [Int.toNat_natCast, Int.toNat_natCast]
          have hi2 : i < n := by omega
          have hk2 : k < n := by omega
          clear hi hk
          have HAre := Lib.hid ha
          clear ha
          go_enter Try.func7, Try.ntmps7
          go_wp2_with (first | (go_at_call 15; refine (HA).mono ?_; rintro _ W1 ⟨rfl, b1⟩) | (go_at_call 16; (with_reducible refine (HI _).mono ?_); rintro _ _ ⟨n1, rfl, rfl⟩) | (go_at_call 16; (with_reducible refine (HK _).mono ?_); rintro _ _ ⟨n2, rfl, rfl⟩))
          have i0 := HV.out (7 * i) (by omega)
          have i1 := HV.out (7 * i + 1) (by omega)
          have i2 := HV.out (7 * i + 2) (by omega)
          have i3 := HV.out (7 * i + 3) (by omega)
          have i4 := HV.out (7 * i + 4) (by omega)
          have i5 := HV.out (7 * i + 5) (by omega)
          have i6 := HV.out (7 * i + 6) (by omega)
          have k0 := HV.out (7 * k) (by omega)
          have k1 := HV.out (7 * k + 1) (by omega)
          have k2 := HV.out (7 * k + 2) (by omega)
          have k3 := HV.out (7 * k + 3) (by omega)
          have k4 := HV.out (7 * k + 4) (by omega)
          have k5 := HV.out (7 * k + 5) (by omega)
          have k6 := HV.out (7 * k + 6) (by omega)
          have bX : Below w.heap.size w (W1.drewN (n1 + n2)) := below_drewN b1 _
          generalize W1.drewN (n1 + n2) = X at bX ⊢
          have hS := bX.size
          have HC := Lib.hid (fun (W : World) (h : Below w.heap.size w W) => cells7f (cellsB h hb HR.out) hi2)
          have HD := Lib.hid (fun (W : World) (h : Below w.heap.size w W) => cells7f (cellsB h hb HR.out) hk2)
          obtain ⟨c0, c1, c2, c3, c4, c5, c6⟩ := HC.out X bX
          obtain ⟨d0, d1, d2, d3, d4, d5, d6⟩ := HD.out X bX
          have hb1 : b < X.heap.size := by omega
          go_cut [8] (fun s8 wx => NewV X (fo .sub .f32 (v (7 * k)) (v (7 * i))) (fo .sub .f32 (v (7 * k + 1)) (v (7 * i + 1))) (fo .sub .f32 (v (7 * k + 2)) (v (7 * i + 2))) s8 wx)
          case first =>
            go_region_with (go_at_call 17; refine (implLess k0 k1 k2 i0 i1 i2 _).mono ?_; rintro eq wq ⟨rq0, rq1, rq2, rfl, hq0, hq1, hq2, hb⟩; obtain ⟨hc, hf⟩ := bcell hb.1; have hl : X.heap.size < wq.heap.size := (by have := hb.2; (try simp at this); omega); have HZ := Lib.hid hb; clear hb)
            all_goals
              go_wp2_with fail
              go_meet
              first | with_reducible exact NewV.behind (growD HZ.out) hq0 hq1 hq2 | with_reducible exact NewV.ahead (growD HZ.out) hq0 hq1 hq2
          case rest =>
            obtain ⟨D, r0, r1, r2, rfl, hD, g0, g1, g2, bD⟩ := hcut
            obtain ⟨Y, rfl⟩ : ∃ Y, Y = wc := ⟨wc, rfl⟩
            clear c0 c1 c2 c3 c4 c5 c6 d0 d1 d2 d3 d4 d5 d6
            have bY := bX.trans (bD.mono hS)
            obtain ⟨c0, c1, c2, c3, c4, c5, c6⟩ := HC.out Y bY
            obtain ⟨d0, d1, d2, d3, d4, d5, d6⟩ := HD.out Y bY
            have hS2 := bY.size
            have hb2 : b < Y.heap.size := by omega
            have HD1 := Lib.hid hD
            clear hD
            go_wp2_with fail
            go_cut [9] (fun s9 wx => NewV Y (fo .sub .f32 (v (7 * k + 3)) (v (7 * i + 3))) (fo .sub .f32 (v (7 * k + 4)) (v (7 * i + 4))) (fo .sub .f32 (v (7 * k + 5)) (v (7 * i + 5))) s9 wx)
            case first =>
              go_region_with (go_at_call 17; refine (implLess k3 k4 k5 i3 i4 i5 _).mono ?_; rintro eq wq ⟨rq0, rq1, rq2, rfl, hq0, hq1, hq2, hb⟩; obtain ⟨hc, hf⟩ := bcell hb.1; have hl : Y.heap.size < wq.heap.size := (by have := hb.2; (try simp at this); omega); have HZ := Lib.hid hb; clear hb)
              all_goals
                go_wp2_with fail
                go_meet
                first | with_reducible exact NewV.behind (growD HZ.out) hq0 hq1 hq2 | with_reducible exact NewV.ahead (growD HZ.out) hq0 hq1 hq2
            case rest =>
              clear c0 c1 c2 c3 c4 c5 c6 d0 d1 d2 d3 d4 d5 d6
              obtain ⟨E, e0, e1, e2, rfl, hE, m0, m1, m2, bE⟩ := hcut
              obtain ⟨Z, rfl⟩ : ∃ Z, Z = wc := ⟨wc, rfl⟩
              have bZ := bY.trans (bE.mono hS2)
              have hS3 := bZ.size
              have HP := Lib.hid (rt HD1.out bE)
              have HQ := Lib.hid hE
              clear hE HD1
              obtain ⟨rI, rM, rA, rS, eI, eM, iM, eA, iA, eS, iS, eB⟩ := bnd_words HAre.out hi2 hk2 HV.out
              have EB := Lib.hid eB
              clear eB
              have CI : ∀ W, Calls Try.prog 18 #[vecV e0 e1 e2, vecV e0 e1 e2] W fun e w' => e = .returned (.float .f32 rI) ∧ Grow 2 W w' := fun W => (implInner m0 m1 m2 m0 m1 m2 W).mono fun _ _ ⟨r, he, ir, hg⟩ => by rw [eI] at ir; obtain rfl := ir.notNaN; exact ⟨he, hg⟩
              have CS : ∀ W, Calls Try.prog 19 #[vecV r0 r1 r2] W fun e w' => e = .returned (.float .f32 rS) ∧ Grow 3 W w' := fun W => (implSize g0 g1 g2 W).mono fun _ _ ⟨r, he, ir, hg⟩ => by rw [eS] at ir; obtain rfl := ir.notNaN; exact ⟨he, hg⟩
              obtain ⟨c0, c1, c2, c3, c4, c5, c6⟩ := HC.out Z bZ
              obtain ⟨d0, d1, d2, d3, d4, d5, d6⟩ := HD.out Z bZ
              obtain ⟨p0, p1, p2⟩ := row3 HP.out
              obtain ⟨q0, q1, q2⟩ := row3 HQ.out
              have hb4 : b < Z.heap.size := by omega
              have hZ0 := Below.refl Z.heap.size Z
              go_wp2_with fail
              go_cut [10] (fun s10 wx => ∃ r, s10 = .float .f32 r ∧ Is .f32 r (bndE v i k) ∧ Below Z.heap.size Z wx)
              case first =>
                have A1 := fun w => run_fo32 eM 31 w
                have A2 := fun w => run_fo32 eA 31 w
                clear eI eM eA eS
                have kc6 : ∀ w', Below Z.heap.size Z w' → w'.cell? ⟨b, off + i * 7 + 6, none⟩ = some (.float .f32 (f (7 * i + 6))) := fun w' h => (HC.out w' (bZ.trans (h.mono hS3))).2.2.2.2.2.2
                have kd6 : ∀ w', Below Z.heap.size Z w' → w'.cell? ⟨b, off + k * 7 + 6, none⟩ = some (.float .f32 (f (7 * k + 6))) := fun w' h => (HD.out w' (bZ.trans (h.mono hS3))).2.2.2.2.2.2
                have kp0 : ∀ w', Below Z.heap.size Z w' → w'.cell? ⟨D, 0, none⟩ = some (.float .f32 r0) := fun w' h => by obtain ⟨t0, t1, t2⟩ := row3 (rt HP.out h); exact t0
                have kp1 : ∀ w', Below Z.heap.size Z w' → w'.cell? ⟨D, 1, none⟩ = some (.float .f32 r1) := fun w' h => by obtain ⟨t0, t1, t2⟩ := row3 (rt HP.out h); exact t1
                have kp2 : ∀ w', Below Z.heap.size Z w' → w'.cell? ⟨D, 2, none⟩ = some (.float .f32 r2) := fun w' h => by obtain ⟨t0, t1, t2⟩ := row3 (rt HP.out h); exact t2
                have kq0 : ∀ w', Below Z.heap.size Z w' → w'.cell? ⟨E, 0, none⟩ = some (.float .f32 e0) := fun w' h => by obtain ⟨t0, t1, t2⟩ := row3 (rt HQ.out h); exact t0
                have kq1 : ∀ w', Below Z.heap.size Z w' → w'.cell? ⟨E, 1, none⟩ = some (.float .f32 e1) := fun w' h => by obtain ⟨t0, t1, t2⟩ := row3 (rt HQ.out h); exact t1
                have kq2 : ∀ w', Below Z.heap.size Z w' → w'.cell? ⟨E, 2, none⟩ = some (.float .f32 e2) := fun w' h => by obtain ⟨t0, t1, t2⟩ := row3 (rt HQ.out h); exact t2
                clear c0 c1 c2 c3 c4 c5 c6 d0 d1 d2 d3 d4 d5 d6 p0 p1 p2 q0 q1 q2
                refine wp_region_noPanic ?_
                refine wp_region_held_drew (S := fun w' => Below Z.heap.size Z w') (by kernel_rfl) (by (try dsimp only); (repeat' (first | with_reducible assumption | with_reducible exact Below.refl _ _ | with_reducible exact keepW (by with_reducible assumption) (by with_reducible assumption) (by first | exact Nat.le_refl _ | assumption | omega | (simp; done) | (simp; omega)) | with_reducible exact keepS (by with_reducible assumption) (by with_reducible assumption) (by first | exact Nat.le_refl _ | assumption | omega | (simp; done) | (simp; omega)) | (with_reducible refine Below.setCell ?_ (by first | omega | (simp; done) | (simp; omega)) _) | (with_reducible refine below_drewN ?_ _) | (with_reducible refine Below.drew ?_) | (with_reducible refine Below.trans ?_ (Below.mono (by with_reducible assumption) (by first | omega | (simp; done) | (simp; omega)))) | (with_reducible refine Below.trans ?_ (Below.mono (Grow.below (by with_reducible assumption)) (by first | omega | (simp; done) | (simp; omega)))) | (with_reducible refine Below.alloc ?_ (by first | omega | (simp; done) | (simp; omega)) _)))) (fun hHeld => ?_)
                refine wpAnyH_take (i := 0) (v := ?_) rfl (by kernel_rfl) (by kernel_rfl) (by kernel_rfl) (fun _ _ _ h => h) (Or.inl ⟨by rfl, ?_⟩) (by assumption) ?_
                rotate_left
                · intro w hSw; (try dsimp only at hSw); go_simp; (try with_reducible rfl)
                try simp only [Act.put, List.setIfInBounds_toArray, List.set_cons_zero, List.set_cons_succ]
                refine wpAnyH_take (i := 1) (v := ?_) rfl (by kernel_rfl) (by kernel_rfl) (by kernel_rfl) (fun _ _ _ h => h) (Or.inl ⟨by rfl, ?_⟩) (by assumption) ?_
                rotate_left
                · intro w hSw; (try dsimp only at hSw); go_simp; (try with_reducible rfl)
                try simp only [Act.put, List.setIfInBounds_toArray, List.set_cons_zero, List.set_cons_succ]
                refine wpAnyH_take (i := 4) (v := ?_) rfl (by kernel_rfl) (by kernel_rfl) (by kernel_rfl) (fun _ _ _ h => h) (Or.inl ⟨by rfl, ?_⟩) (by assumption) ?_
                rotate_left
                · intro w hSw; (try dsimp only at hSw); go_simp; (try with_reducible rfl)
                try simp only [Act.put, List.setIfInBounds_toArray, List.set_cons_zero, List.set_cons_succ]
                refine wpAnyH_take (i := 5) (v := ?_) rfl (by kernel_rfl) (by kernel_rfl) (by kernel_rfl) (fun _ _ _ h => h) (Or.inl ⟨by rfl, ?_⟩) (by assumption) ?_
                rotate_left
                · intro w hSw; (try dsimp only at hSw); go_simp; (try with_reducible rfl)
                try simp only [Act.put, List.setIfInBounds_toArray, List.set_cons_zero, List.set_cons_succ]
                refine wpAnyH_take (i := 6) (v := ?_) rfl (by kernel_rfl) (by kernel_rfl) (by kernel_rfl) (fun _ _ _ h => h) (Or.inl ⟨by rfl, ?_⟩) (by assumption) ?_
                rotate_left
                · intro w hSw; (try dsimp only at hSw); go_simp; (try with_reducible rfl)
                try simp only [Act.put, List.setIfInBounds_toArray, List.set_cons_zero, List.set_cons_succ]
                refine wpAnyH_take (i := 7) (v := ?_) rfl (by kernel_rfl) (by kernel_rfl) (by kernel_rfl) (fun _ _ _ h => h) (Or.inl ⟨by rfl, ?_⟩) (by assumption) ?_
                rotate_left
                · intro w hSw; (try dsimp only at hSw); go_simp; (try with_reducible rfl)
                try simp only [Act.put, List.setIfInBounds_toArray, List.set_cons_zero, List.set_cons_succ]
                refine wpAnyH_take (i := 8) (v := ?_) rfl (by kernel_rfl) (by kernel_rfl) (by kernel_rfl) (fun _ _ _ h => h) (Or.inl ⟨by rfl, ?_⟩) (by assumption) ?_
                rotate_left
                · intro w hSw; (try dsimp only at hSw); go_simp; (try with_reducible rfl)
                try simp only [Act.put, List.setIfInBounds_toArray, List.set_cons_zero, List.set_cons_succ]
                refine wpAnyH_take (i := 9) (v := ?_) rfl (by kernel_rfl) (by kernel_rfl) (by kernel_rfl) (fun _ _ _ h => h) (Or.inl ⟨by rfl, ?_⟩) (by assumption) ?_
                rotate_left
                · intro w hSw; (try dsimp only at hSw); go_simp; (try with_reducible rfl)
                try simp only [Act.put, List.setIfInBounds_toArray, List.set_cons_zero, List.set_cons_succ]
                refine wpAnyH_take (i := 10) (v := ?_) rfl (by kernel_rfl) (by kernel_rfl) (by kernel_rfl) (fun _ _ _ h => h) (Or.inl ⟨by rfl, ?_⟩) (by assumption) ?_
                rotate_left
                · intro w hSw; (try dsimp only at hSw); go_simp; (try with_reducible rfl)
                try simp only [Act.put, List.setIfInBounds_toArray, List.set_cons_zero, List.set_cons_succ]
                refine wpAnyH_take (i := 11) (v := ?_) rfl (by kernel_rfl) (by kernel_rfl) (by kernel_rfl) (fun _ _ _ h => h) (Or.inl ⟨by rfl, ?_⟩) (by assumption) ?_
                rotate_left
                · intro w hSw; (try dsimp only at hSw); go_simp; (try with_reducible rfl)
                try simp only [Act.put, List.setIfInBounds_toArray, List.set_cons_zero, List.set_cons_succ]
                refine wpAnyH_take (i := 12) (v := ?_) rfl (by kernel_rfl) (by kernel_rfl) (by kernel_rfl) (fun _ _ _ h => h) (Or.inl ⟨by rfl, ?_⟩) (by assumption) ?_
                rotate_left
                · intro w hSw; (try dsimp only at hSw); go_simp; (try with_reducible rfl)
                try simp only [Act.put, List.setIfInBounds_toArray, List.set_cons_zero, List.set_cons_succ]
                refine wpAnyH_take (i := 13) (v := ?_) rfl (by kernel_rfl) (by kernel_rfl) (by kernel_rfl) (fun _ _ _ h => h) (Or.inl ⟨by rfl, ?_⟩) (by assumption) ?_
                rotate_left
                · intro w hSw; (try dsimp only at hSw); go_simp; (try with_reducible rfl)
                try simp only [Act.put, List.setIfInBounds_toArray, List.set_cons_zero, List.set_cons_succ]
                refine wpAnyH_take (i := 14) (v := ?_) rfl (by kernel_rfl) (by kernel_rfl) (by kernel_rfl) (fun _ _ _ h => h) (Or.inl ⟨by rfl, ?_⟩) (by assumption) ?_
                rotate_left
                · intro w hSw; (try dsimp only at hSw); go_simp; (try with_reducible rfl)
                try simp only [Act.put, List.setIfInBounds_toArray, List.set_cons_zero, List.set_cons_succ]
                refine wpAnyH_take (i := 15) (v := ?_) rfl (by kernel_rfl) (by kernel_rfl) (by kernel_rfl) (fun _ _ _ h => h) (Or.inl ⟨by rfl, ?_⟩) (by assumption) ?_
                rotate_left
                · intro w hSw; (try dsimp only at hSw); go_simp; (try with_reducible rfl)
                try simp only [Act.put, List.setIfInBounds_toArray, List.set_cons_zero, List.set_cons_succ]
                refine wpAnyH_ready (rs := [2]) (by kernel_rfl) (by simp) ?_
                refine AllReadyH.cons rfl (fun K hK => ?_) AllReadyH.nil
                go_simp
                (go_at_call 18; (with_reducible refine (CI _).mono ?_); rintro eq wq ⟨rfl, hbx⟩)
                go_wp2_with fail
                refine hK.out _ _ (by (try dsimp only); (repeat' (first | with_reducible assumption | with_reducible exact Below.refl _ _ | with_reducible exact keepW (by with_reducible assumption) (by with_reducible assumption) (by first | exact Nat.le_refl _ | assumption | omega | (simp; done) | (simp; omega)) | with_reducible exact keepS (by with_reducible assumption) (by with_reducible assumption) (by first | exact Nat.le_refl _ | assumption | omega | (simp; done) | (simp; omega)) | (with_reducible refine Below.setCell ?_ (by first | omega | (simp; done) | (simp; omega)) _) | (with_reducible refine below_drewN ?_ _) | (with_reducible refine Below.drew ?_) | (with_reducible refine Below.trans ?_ (Below.mono (by with_reducible assumption) (by first | omega | (simp; done) | (simp; omega)))) | (with_reducible refine Below.trans ?_ (Below.mono (Grow.below (by with_reducible assumption)) (by first | omega | (simp; done) | (simp; omega)))) | (with_reducible refine Below.alloc ?_ (by first | omega | (simp; done) | (simp; omega)) _)))) (fun hHeld => ?_)
                clear hK K
                try simp only [Act.put, List.setIfInBounds_toArray, List.set_cons_zero, List.set_cons_succ]
                refine wpAnyH_take (i := 3) (v := ?_) rfl (by kernel_rfl) (by kernel_rfl) (by kernel_rfl) (fun _ _ _ h => h) (Or.inl ⟨by rfl, ?_⟩) (by assumption) ?_
                rotate_left
                · intro w hSw; (try dsimp only at hSw); go_simp; (try with_reducible rfl)
                try simp only [Act.put, List.setIfInBounds_toArray, List.set_cons_zero, List.set_cons_succ]
                refine wpAnyH_ready (rs := [16]) (by kernel_rfl) (by simp) ?_
                refine AllReadyH.cons rfl (fun K hK => ?_) AllReadyH.nil
                go_simp
                (go_at_call 19; (with_reducible refine (CS _).mono ?_); rintro eq wq ⟨rfl, hbx⟩)
                go_wp2_with fail
                refine hK.out _ _ (by (try dsimp only); (repeat' (first | with_reducible assumption | with_reducible exact Below.refl _ _ | with_reducible exact keepW (by with_reducible assumption) (by with_reducible assumption) (by first | exact Nat.le_refl _ | assumption | omega | (simp; done) | (simp; omega)) | with_reducible exact keepS (by with_reducible assumption) (by with_reducible assumption) (by first | exact Nat.le_refl _ | assumption | omega | (simp; done) | (simp; omega)) | (with_reducible refine Below.setCell ?_ (by first | omega | (simp; done) | (simp; omega)) _) | (with_reducible refine below_drewN ?_ _) | (with_reducible refine Below.drew ?_) | (with_reducible refine Below.trans ?_ (Below.mono (by with_reducible assumption) (by first | omega | (simp; done) | (simp; omega)))) | (with_reducible refine Below.trans ?_ (Below.mono (Grow.below (by with_reducible assumption)) (by first | omega | (simp; done) | (simp; omega)))) | (with_reducible refine Below.alloc ?_ (by first | omega | (simp; done) | (simp; omega)) _)))) (fun hHeld => ?_)
                clear hK K
                try simp only [Act.put, List.setIfInBounds_toArray, List.set_cons_zero, List.set_cons_succ]
                refine wpAnyH_ready (rs := [17]) (by kernel_rfl) (by simp) ?_
                refine AllReadyH.cons (o := ({ dst := some 70, op := Op.binOp BinOp.quo 31 (Operand.tmp 67) (Operand.tmp 69) 31, type := 31, pos := "l02_bodies.go:446", after := #[{ on := 14, ground := Ground.data }, { on := 16, ground := Ground.data }], guard := none } : Oper)) rfl (fun K hK => ?_) AllReadyH.nil
                go_simp
                (refine upon_arith (by simp [Arith]) (by first | assumption | exact is_lit64 _ (by decide) | exact is_lit32 _ (by decide)) (by first | assumption | exact is_lit64 _ (by decide) | exact is_lit32 _ (by decide)) ?_; intro rq nq hq; go_simp)
                refine hK.out _ _ (by (try dsimp only); (repeat' (first | with_reducible assumption | with_reducible exact Below.refl _ _ | with_reducible exact keepW (by with_reducible assumption) (by with_reducible assumption) (by first | exact Nat.le_refl _ | assumption | omega | (simp; done) | (simp; omega)) | with_reducible exact keepS (by with_reducible assumption) (by with_reducible assumption) (by first | exact Nat.le_refl _ | assumption | omega | (simp; done) | (simp; omega)) | (with_reducible refine Below.setCell ?_ (by first | omega | (simp; done) | (simp; omega)) _) | (with_reducible refine below_drewN ?_ _) | (with_reducible refine Below.drew ?_) | (with_reducible refine Below.trans ?_ (Below.mono (by with_reducible assumption) (by first | omega | (simp; done) | (simp; omega)))) | (with_reducible refine Below.trans ?_ (Below.mono (Grow.below (by with_reducible assumption)) (by first | omega | (simp; done) | (simp; omega)))) | (with_reducible refine Below.alloc ?_ (by first | omega | (simp; done) | (simp; omega)) _)))) (fun hHeld => ?_)
                clear hK K
                try simp only [Act.put, List.setIfInBounds_toArray, List.set_cons_zero, List.set_cons_succ]
                refine wpAnyH_ready (rs := [18]) (by kernel_rfl) (by simp) ?_
                refine AllReadyH.cons (o := ({ dst := some 71, op := Op.binOp BinOp.sub 31 (Operand.tmp 56) (Operand.tmp 70) 31, type := 31, pos := "l02_bodies.go:446", after := #[{ on := 3, ground := Ground.data }, { on := 17, ground := Ground.data }], guard := none } : Oper)) rfl (fun K hK => ?_) AllReadyH.nil
                go_simp
                (refine upon_arith (by simp [Arith]) (by first | assumption | exact is_lit64 _ (by decide) | exact is_lit32 _ (by decide)) (by first | assumption | exact is_lit64 _ (by decide) | exact is_lit32 _ (by decide)) ?_; intro rq nq hq; go_simp)
                refine hK.out _ _ (by (try dsimp only); (repeat' (first | with_reducible assumption | with_reducible exact Below.refl _ _ | with_reducible exact keepW (by with_reducible assumption) (by with_reducible assumption) (by first | exact Nat.le_refl _ | assumption | omega | (simp; done) | (simp; omega)) | with_reducible exact keepS (by with_reducible assumption) (by with_reducible assumption) (by first | exact Nat.le_refl _ | assumption | omega | (simp; done) | (simp; omega)) | (with_reducible refine Below.setCell ?_ (by first | omega | (simp; done) | (simp; omega)) _) | (with_reducible refine below_drewN ?_ _) | (with_reducible refine Below.drew ?_) | (with_reducible refine Below.trans ?_ (Below.mono (by with_reducible assumption) (by first | omega | (simp; done) | (simp; omega)))) | (with_reducible refine Below.trans ?_ (Below.mono (Grow.below (by with_reducible assumption)) (by first | omega | (simp; done) | (simp; omega)))) | (with_reducible refine Below.alloc ?_ (by first | omega | (simp; done) | (simp; omega)) _)))) (fun hHeld => ?_)
                clear hK K
                try simp only [Act.put, List.setIfInBounds_toArray, List.set_cons_zero, List.set_cons_succ]
                refine wpAnyH_take (i := 19) (oi := ({ dst := some 10, op := Op.assign (Operand.tmp 71), type := 31, pos := "l02_bodies.go:446", after := #[{ on := 18, ground := Ground.data }, { on := 16, ground := Ground.chain }, { on := 0, ground := Ground.phase }, { on := 1, ground := Ground.phase }, { on := 2, ground := Ground.phase }, { on := 3, ground := Ground.phase }, { on := 4, ground := Ground.phase }, { on := 5, ground := Ground.phase }, { on := 6, ground := Ground.phase }, { on := 7, ground := Ground.phase }, { on := 8, ground := Ground.phase }, { on := 9, ground := Ground.phase }, { on := 10, ground := Ground.phase }, { on := 11, ground := Ground.phase }, { on := 12, ground := Ground.phase }, { on := 13, ground := Ground.phase }, { on := 14, ground := Ground.phase }, { on := 15, ground := Ground.phase }, { on := 16, ground := Ground.phase }, { on := 17, ground := Ground.phase }, { on := 18, ground := Ground.phase }], guard := none } : Oper)) (v := ?_) rfl (by kernel_rfl) (by kernel_rfl) (by kernel_rfl) (fun _ _ _ h => h) (Or.inl ⟨by rfl, ?_⟩) (by assumption) ?_
                rotate_left
                · intro w hSw; (try dsimp only at hSw); go_simp; (try with_reducible rfl)
                try simp only [Act.put, List.setIfInBounds_toArray, List.set_cons_zero, List.set_cons_succ]
                refine wpAnyH_done (by kernel_rfl) ?_ _
                refine NoPanic.normal ?_
                go_wp2_with fail
                go_meet
                exact ⟨_, rfl, by rw [EB.out]; assumption, by (repeat' (first | with_reducible assumption | with_reducible exact Below.refl _ _ | with_reducible exact keepW (by with_reducible assumption) (by with_reducible assumption) (by first | exact Nat.le_refl _ | assumption | omega | (simp; done) | (simp; omega)) | with_reducible exact keepS (by with_reducible assumption) (by with_reducible assumption) (by first | exact Nat.le_refl _ | assumption | omega | (simp; done) | (simp; omega)) | (with_reducible refine Below.setCell ?_ (by first | omega | (simp; done) | (simp; omega)) _) | (with_reducible refine below_drewN ?_ _) | (with_reducible refine Below.drew ?_) | (with_reducible refine Below.trans ?_ (Below.mono (by with_reducible assumption) (by first | omega | (simp; done) | (simp; omega)))) | (with_reducible refine Below.trans ?_ (Below.mono (Grow.below (by with_reducible assumption)) (by first | omega | (simp; done) | (simp; omega)))) | (with_reducible refine Below.alloc ?_ (by first | omega | (simp; done) | (simp; omega)) _)))⟩
              case rest =>
                obtain ⟨r, rfl, hE, bR⟩ := hcut
                have bZ2 := bZ.trans (bR.mono hS3)
                have FF := fun W => sFinite hE W
                clear c0 c1 c2 c3 c4 c5 c6 d0 d1 d2 d3 d4 d5 d6 p0 p1 p2 q0 q1 q2 HC HD HP HQ HR HV
                cases hF : finS (bndE v i k) with
                | false =>
                  rw [hF] at FF
                  go_wp2_with (go_at_call 20; refine (FF _).mono ?_; rintro eq wq ⟨nq, rfl, rfl⟩)
                  go_ret2
                  exact ⟨by simp [hF], below_drewN bZ2 _⟩
                | true =>
                  rw [hF] at FF
                  go_wp2_with (first | (apply wpList_cmp; rfl; simp [Cmp]; rfl; rfl; (first | assumption | exact is_lit64 _ (by decide) | exact is_lit32 _ (by decide)); (first | assumption | exact is_lit64 _ (by decide) | exact is_lit32 _ (by decide)); intro Kq hKq; go_simp) | (go_at_call 20; refine (FF _).mono ?_; rintro eq wq ⟨nq, rfl, rfl⟩))
                  go_ret2
                  exact ⟨by simp [hF], below_drewN bZ2 _⟩
end Go.Proofs.Ytffoogflalkpbaa
