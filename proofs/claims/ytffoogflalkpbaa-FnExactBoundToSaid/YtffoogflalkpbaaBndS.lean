/-
  Whether a body is bound to another one, of the model. No condition.
-/
import Derived.Test.YtffoogflalkpbaaBndW
import Derived.Deep.RegionHeld3
namespace Go.Proofs.Ytffoogflalkpbaa
open Go.RowKit

theorem sApart {a0 b0 a1 b1 a2 b2 : Nat} {x0 y0 x1 y1 x2 y2 : Option Nat} (h0 : Is .f32 a0 x0) (h1 : Is .f32 a1 x1) (h2 : Is .f32 a2 x2) (g0 : Is .f32 b0 y0) (g1 : Is .f32 b1 y1) (g2 : Is .f32 b2 y2) (w : World) :
    Calls Try.prog 12 #[vecV a0 a1 a2, vecV b0 b1 b2] w fun e w' => ∃ r, e = .returned (.float .f32 r) ∧ Is .f32 r (rootO (innerO (fo .sub .f32 x0 y0) (fo .sub .f32 x1 y1) (fo .sub .f32 x2 y2) (fo .sub .f32 x0 y0) (fo .sub .f32 x1 y1) (fo .sub .f32 x2 y2))) ∧ Below w.heap.size w w' := by
  go_enter Try.func12, Try.ntmps12
  go_wp2_with (go_at_call 10; refine (sLess h0 h1 h2 g0 g1 g2 _).mono ?_; rintro eq W1 ⟨r0, r1, r2, rfl, i0, i1, i2, hb⟩)
  refine (sLong i0 i1 i2 _).mono ?_
  rintro _ W2 ⟨r, rfl, ir, hb2⟩
  go_wp2_with fail
  go_ret
  have z1 := hb.1.size
  exact ⟨_, rfl, ir, (((Below.refl w.heap.size w).alloc (Nat.le_refl _) _).alloc (by simp) _).trans ((hb.1.mono (by simp; omega)).trans (hb2.1.mono (by simp at z1; omega)))⟩

theorem l00In_any (a b c : Int) (w : World) : Calls Try.prog 23 #[.int .i64 a, .int .i64 b, .int .i64 c] w (RetV (.bool (decide (b ≤ a) && decide (a ≤ c))) w) := by
  by_cases h0 : b ≤ a
  · have h1 : ¬ a < b := by omega
    by_cases h2 : a ≤ c
    · have h3 : ¬ c < a := by omega
      go_enter Try.func23, Try.ntmps23
      go_wp2
      go_ret
      exact RetV.eq 0 (by simp [h0, h2])
    · have h3 : c < a := by omega
      go_enter Try.func23, Try.ntmps23
      go_wp2
      go_ret
      exact RetV.eq 0 (by simp [h0, h2])
  · have h1 : a < b := by omega
    go_enter Try.func23, Try.ntmps23
    go_wp2
    go_ret
    exact RetV.eq 0 (by simp; omega)

theorem sHas (b off n cap : Nat) (f : Nat → Nat) (v : Nat → Option Nat) (i : Int) (w : World) (hn : n ≤ 1048576) (hb : b < w.heap.size) (hr : ∀ i, i < 7 * n → w.cell? ⟨b, off + i, none⟩ = some (.float .f32 (f i))) (hv : ∀ i, i < 7 * n → Is .f32 (f i) (v i)) :
    Calls Try.prog 9 #[.slice (some ⟨b, off, none⟩) n cap, .int .i64 i] w fun e w' => e = .returned (.bool (areB v n && inB i n)) ∧ Below w.heap.size w w' := by
  have HA := sAre b off n cap f v w hn hb hr hv
  have HI := fun W => l00In_any i 0 ((n : Int) - 1) W
  have hw : wrap64 ((n : Int) - 1) = (n : Int) - 1 := by unfold wrap64; omega
  have hI : (decide (0 ≤ i) && decide (i ≤ (n : Int) - 1)) = inB i n := by unfold inB; congr 1; simp; omega
  rw [hI] at HI
  clear hr hv hI
  cases ha : areB v n with
  | false =>
    rw [ha] at HA
    go_enter Try.func9, Try.ntmps9
    go_wp2_with (go_at_call 22; refine (HA).mono ?_; rintro _ W1 ⟨rfl, b1⟩)
    go_ret
    exact ⟨rfl, b1⟩
  | true =>
    rw [ha] at HA
    go_enter Try.func9, Try.ntmps9
    go_wp2_with (first | (go_at_call 22; refine (HA).mono ?_; rintro _ W1 ⟨rfl, b1⟩) | (go_at_call 23; refine (HI _).mono ?_; rintro eq wq ⟨nq, rfl, rfl⟩))
    go_ret
    exact ⟨by simp, below_drewN b1 _⟩

set_option maxHeartbeats 6400000 in
theorem sBnd (b off n cap : Nat) (f : Nat → Nat) (v : Nat → Option Nat) (i k : Int) (w : World) (hn : n ≤ 1048576) (hb : b < w.heap.size) (hr : ∀ i, i < 7 * n → w.cell? ⟨b, off + i, none⟩ = some (.float .f32 (f i))) (hv : ∀ i, i < 7 * n → Is .f32 (f i) (v i)) :
    Calls Try.prog 5 #[.slice (some ⟨b, off, none⟩) n cap, .int .i64 i, .int .i64 k] w fun e w' => e = .returned (.tuple #[.bool (bndB v n i k), .bool (bndO v n i k)]) ∧ Below w.heap.size w w' := by
  have hst := run_store_float Try.prog
  have HI := fun (W : World) (hB : Below w.heap.size w W) => sHas b off n cap f v i W hn (Nat.lt_of_lt_of_le hb hB.size) (cellsB hB hb hr) hv
  have HK := fun (W : World) (hB : Below w.heap.size w W) => sHas b off n cap f v k W hn (Nat.lt_of_lt_of_le hb hB.size) (cellsB hB hb hr) hv
  have HR := Lib.hid hr
  have HV := Lib.hid hv
  clear hr hv
  have b0 := Below.refl w.heap.size w
  cases hi : (areB v n && inB i n) with
  | false =>
    have e : bndO v n i k = false := by simp [bndO, bndG, hi]
    have e2 : bndB v n i k = false := by simp [bndB, e]
    rw [e, e2]
    rw [hi] at HI
    go_enter Try.func5, Try.ntmps5
    go_wp2_with (go_at_call 9; (with_reducible refine (HI _ b0).mono ?_); rintro _ W1 ⟨rfl, b1⟩)
    go_ret2
    exact ⟨rfl, b1⟩
  | true =>
    rw [hi] at HI
    have hA : areB v n = true := by cases h : areB v n <;> simp_all
    have hI : inB i n = true := by cases h : inB i n <;> simp_all
    cases hk : inB k n with
    | false =>
      have e : bndO v n i k = false := by simp [bndO, bndG, hk]
      have e2 : bndB v n i k = false := by simp [bndB, e]
      rw [e, e2]
      rw [hA, hk] at HK
      go_enter Try.func5, Try.ntmps5
      go_wp2_with (go_at_call 9; (with_reducible refine (HI _ b0).mono ?_); rintro _ W1 ⟨rfl, b1⟩)
      refine (HK _ b1).mono ?_
      rintro _ W2 ⟨rfl, b2⟩
      go_wp2_with fail
      go_ret2
      exact ⟨rfl, b1.trans (b2.mono b1.size)⟩
    | true =>
      rw [hA, hk] at HK
      by_cases hne : i = k
      · have e : bndO v n i k = false := by simp [bndO, bndG, hne]
        have e2 : bndB v n i k = false := by simp [bndB, e]
        rw [e, e2]
        clear e e2
        subst hne
        go_enter Try.func5, Try.ntmps5
        go_wp2_with (go_at_call 9; (with_reducible refine (HI _ b0).mono ?_); rintro _ W1 ⟨rfl, b1⟩)
        refine (HK _ b1).mono ?_
        rintro _ W2 ⟨rfl, b2⟩
        go_wp2_with fail
        go_ret2
        exact ⟨rfl, b1.trans (b2.mono b1.size)⟩
      · have hd : decide (i = k) = false := by simp [hne]
        have e : bndO v n i k = finS (bndE v i.toNat k.toNat) := by simp [bndO, bndG, hA, hI, hk, hne]
        have e2 : bndB v n i k = (finS (bndE v i.toNat k.toNat) && cmpB .lss .f32 (bndE v i.toNat k.toNat) (some 0)) := by simp [bndB, e]
        rw [e, e2]
        clear e e2
        unfold inB at hI hk
        simp only [Bool.and_eq_true, decide_eq_true_eq] at hI hk
        obtain ⟨i, rfl⟩ := Int.eq_ofNat_of_zero_le hI.1
        obtain ⟨k, rfl⟩ := Int.eq_ofNat_of_zero_le hk.1
        rw [Int.toNat_natCast, Int.toNat_natCast]
        have hi2 : i < n := by omega
        have hk2 : k < n := by omega
        have HAre := Lib.hid hA
        clear hi hI hk hA
        have i0 := HV.out (7 * i) (by omega)
        have i1 := HV.out (7 * i + 1) (by omega)
        have i2 := HV.out (7 * i + 2) (by omega)
        have i3 := HV.out (7 * i + 3) (by omega)
        have i4 := HV.out (7 * i + 4) (by omega)
        have i5 := HV.out (7 * i + 5) (by omega)
        have i6 := HV.out (7 * i + 6) (by omega)
        have k0 := HV.out (7 * k) (by omega)
        have k1 := HV.out (7 * k + 1) (by omega)
        have k2 := HV.out (7 * k + 2) (by omega)
        have k3 := HV.out (7 * k + 3) (by omega)
        have k4 := HV.out (7 * k + 4) (by omega)
        have k5 := HV.out (7 * k + 5) (by omega)
        have k6 := HV.out (7 * k + 6) (by omega)
        go_enter Try.func5, Try.ntmps5
        go_wp2_with (go_at_call 9; (with_reducible refine (HI _ b0).mono ?_); rintro _ W1 ⟨rfl, b1⟩)
        refine (HK _ b1).mono ?_
        rintro _ X ⟨rfl, b2⟩
        have bX := b1.trans (b2.mono b1.size)
        clear b1 b2
        have hS := bX.size
        have HC := Lib.hid (fun (W : World) (h : Below w.heap.size w W) => cells7f (cellsB h hb HR.out) hi2)
        have HD := Lib.hid (fun (W : World) (h : Below w.heap.size w W) => cells7f (cellsB h hb HR.out) hk2)
        obtain ⟨c0, c1, c2, c3, c4, c5, c6⟩ := HC.out X bX
        obtain ⟨d0, d1, d2, d3, d4, d5, d6⟩ := HD.out X bX
        have hb1 : b < X.heap.size := by omega
        go_wp2_with fail
        go_cut [8] (fun s8 wx => NewV X (fo .sub .f32 (v (7 * k + 3)) (v (7 * i + 3))) (fo .sub .f32 (v (7 * k + 4)) (v (7 * i + 4))) (fo .sub .f32 (v (7 * k + 5)) (v (7 * i + 5))) s8 wx)
        case first =>
          go_region_with (go_at_call 10; refine (sLess k3 k4 k5 i3 i4 i5 _).mono ?_; rintro eq wq ⟨rq0, rq1, rq2, rfl, hq0, hq1, hq2, hb⟩; obtain ⟨hc, hf⟩ := bcell hb.1; have hl : X.heap.size < wq.heap.size := (by have := hb.2; (try simp at this); omega); have HZ := Lib.hid hb; clear hb)
          all_goals
            go_wp2_with fail
            go_meet
            first | with_reducible exact NewV.behind (growD HZ.out) hq0 hq1 hq2 | with_reducible exact NewV.ahead (growD HZ.out) hq0 hq1 hq2
        case rest =>
          clear c0 c1 c2 c3 c4 c5 c6 d0 d1 d2 d3 d4 d5 d6
          obtain ⟨E, e0, e1, e2, rfl, hE, m0, m1, m2, bE⟩ := hcut
          obtain ⟨Z, rfl⟩ : ∃ Z, Z = wc := ⟨wc, rfl⟩
          have bZ := bX.trans (bE.mono hS)
          have hS3 := bZ.size
          have HQ := Lib.hid hE
          clear hE
          obtain ⟨rI, rM, rA, rS, eI, eM, iM, eA, iA, eS, iS, eB⟩ := bnd_words HAre.out hi2 hk2 HV.out
          have EB := Lib.hid eB
          clear eB
          have CI : ∀ W, Calls Try.prog 11 #[vecV e0 e1 e2, vecV e0 e1 e2] W fun e w' => e = .returned (.float .f32 rI) ∧ Grow 2 W w' := fun W => (sInner m0 m1 m2 m0 m1 m2 W).mono fun _ _ ⟨r, he, ir, hg⟩ => by rw [eI] at ir; obtain rfl := ir.notNaN; exact ⟨he, hg⟩
          have CS : ∀ W, Calls Try.prog 12 #[vecV (f (7 * k)) (f (7 * k + 1)) (f (7 * k + 2)), vecV (f (7 * i)) (f (7 * i + 1)) (f (7 * i + 2))] W fun e w' => e = .returned (.float .f32 rS) ∧ Below W.heap.size W w' := fun W => (sApart k0 k1 k2 i0 i1 i2 W).mono fun _ _ ⟨r, he, ir, hg⟩ => by rw [eS] at ir; obtain rfl := ir.notNaN; exact ⟨he, hg⟩
          obtain ⟨c0, c1, c2, c3, c4, c5, c6⟩ := HC.out Z bZ
          obtain ⟨d0, d1, d2, d3, d4, d5, d6⟩ := HD.out Z bZ
          obtain ⟨q0, q1, q2⟩ := row3 HQ.out
          have hb4 : b < Z.heap.size := by omega
          have hZ0 := Below.refl Z.heap.size Z
          go_wp2_with fail
          go_cut [9] (fun s10 wx => ∃ r, s10 = .float .f32 r ∧ Is .f32 r (bndE v i k) ∧ Below Z.heap.size Z wx)
          case first =>
            have A1 := fun w => run_fo32 eM 31 w
            have A2 := fun w => run_fo32 eA 31 w
            clear eI eM eA eS
            have kc0 : ∀ w', Below Z.heap.size Z w' → w'.cell? ⟨b, off + i * 7, none⟩ = some (.float .f32 (f (7 * i))) := fun w' h => (HC.out w' (bZ.trans (h.mono hS3))).1
            have kc1 : ∀ w', Below Z.heap.size Z w' → w'.cell? ⟨b, off + i * 7 + 1, none⟩ = some (.float .f32 (f (7 * i + 1))) := fun w' h => (HC.out w' (bZ.trans (h.mono hS3))).2.1
            have kc2 : ∀ w', Below Z.heap.size Z w' → w'.cell? ⟨b, off + i * 7 + 2, none⟩ = some (.float .f32 (f (7 * i + 2))) := fun w' h => (HC.out w' (bZ.trans (h.mono hS3))).2.2.1
            have kc6 : ∀ w', Below Z.heap.size Z w' → w'.cell? ⟨b, off + i * 7 + 6, none⟩ = some (.float .f32 (f (7 * i + 6))) := fun w' h => (HC.out w' (bZ.trans (h.mono hS3))).2.2.2.2.2.2
            have kd0 : ∀ w', Below Z.heap.size Z w' → w'.cell? ⟨b, off + k * 7, none⟩ = some (.float .f32 (f (7 * k))) := fun w' h => (HD.out w' (bZ.trans (h.mono hS3))).1
            have kd1 : ∀ w', Below Z.heap.size Z w' → w'.cell? ⟨b, off + k * 7 + 1, none⟩ = some (.float .f32 (f (7 * k + 1))) := fun w' h => (HD.out w' (bZ.trans (h.mono hS3))).2.1
            have kd2 : ∀ w', Below Z.heap.size Z w' → w'.cell? ⟨b, off + k * 7 + 2, none⟩ = some (.float .f32 (f (7 * k + 2))) := fun w' h => (HD.out w' (bZ.trans (h.mono hS3))).2.2.1
            have kd6 : ∀ w', Below Z.heap.size Z w' → w'.cell? ⟨b, off + k * 7 + 6, none⟩ = some (.float .f32 (f (7 * k + 6))) := fun w' h => (HD.out w' (bZ.trans (h.mono hS3))).2.2.2.2.2.2
            have kq0 : ∀ w', Below Z.heap.size Z w' → w'.cell? ⟨E, 0, none⟩ = some (.float .f32 e0) := fun w' h => by obtain ⟨t0, t1, t2⟩ := row3 (rt HQ.out h); exact t0
            have kq1 : ∀ w', Below Z.heap.size Z w' → w'.cell? ⟨E, 1, none⟩ = some (.float .f32 e1) := fun w' h => by obtain ⟨t0, t1, t2⟩ := row3 (rt HQ.out h); exact t1
            have kq2 : ∀ w', Below Z.heap.size Z w' → w'.cell? ⟨E, 2, none⟩ = some (.float .f32 e2) := fun w' h => by obtain ⟨t0, t1, t2⟩ := row3 (rt HQ.out h); exact t2
            clear c0 c1 c2 c3 c4 c5 c6 d0 d1 d2 d3 d4 d5 d6 q0 q1 q2
            refine wp_region_noPanic ?_
            refine wp_region_held_drew (S := fun w' => Below Z.heap.size Z w') (by kernel_rfl) (by (try dsimp only); (repeat' (first | with_reducible assumption | with_reducible exact Below.refl _ _ | with_reducible exact keepW (by with_reducible assumption) (by with_reducible assumption) (by first | exact Nat.le_refl _ | assumption | omega | (simp; done) | (simp; omega)) | with_reducible exact keepS (by with_reducible assumption) (by with_reducible assumption) (by first | exact Nat.le_refl _ | assumption | omega | (simp; done) | (simp; omega)) | (with_reducible refine Below.setCell ?_ (by first | omega | (simp; done) | (simp; omega)) _) | (with_reducible refine below_drewN ?_ _) | (with_reducible refine Below.drew ?_) | (with_reducible refine Below.trans ?_ (Below.mono (by with_reducible assumption) (by first | omega | (simp; done) | (simp; omega)))) | (with_reducible refine Below.trans ?_ (Below.mono (Grow.below (by with_reducible assumption)) (by first | omega | (simp; done) | (simp; omega)))) | (with_reducible refine Below.alloc ?_ (by first | omega | (simp; done) | (simp; omega)) _)))) (fun hHeld => ?_)
            refine wpAnyH_take (i := 0) (v := ?_) rfl (by kernel_rfl) (by kernel_rfl) (by kernel_rfl) (fun _ _ _ h => h) (Or.inl ⟨by rfl, ?_⟩) (by assumption) ?_
            rotate_left
            · intro w hSw; (try dsimp only at hSw); go_simp; (try with_reducible rfl)
            try simp only [Act.put, List.setIfInBounds_toArray, List.set_cons_zero, List.set_cons_succ]
            refine wpAnyH_take (i := 1) (v := ?_) rfl (by kernel_rfl) (by kernel_rfl) (by kernel_rfl) (fun _ _ _ h => h) (Or.inl ⟨by rfl, ?_⟩) (by assumption) ?_
            rotate_left
            · intro w hSw; (try dsimp only at hSw); go_simp; (try with_reducible rfl)
            try simp only [Act.put, List.setIfInBounds_toArray, List.set_cons_zero, List.set_cons_succ]
            refine wpAnyH_take (i := 4) (v := ?_) rfl (by kernel_rfl) (by kernel_rfl) (by kernel_rfl) (fun _ _ _ h => h) (Or.inl ⟨by rfl, ?_⟩) (by assumption) ?_
            rotate_left
            · intro w hSw; (try dsimp only at hSw); go_simp; (try with_reducible rfl)
            try simp only [Act.put, List.setIfInBounds_toArray, List.set_cons_zero, List.set_cons_succ]
            refine wpAnyH_take (i := 5) (v := ?_) rfl (by kernel_rfl) (by kernel_rfl) (by kernel_rfl) (fun _ _ _ h => h) (Or.inl ⟨by rfl, ?_⟩) (by assumption) ?_
            rotate_left
            · intro w hSw; (try dsimp only at hSw); go_simp; (try with_reducible rfl)
            try simp only [Act.put, List.setIfInBounds_toArray, List.set_cons_zero, List.set_cons_succ]
            refine wpAnyH_take (i := 6) (v := ?_) rfl (by kernel_rfl) (by kernel_rfl) (by kernel_rfl) (fun _ _ _ h => h) (Or.inl ⟨by rfl, ?_⟩) (by assumption) ?_
            rotate_left
            · intro w hSw; (try dsimp only at hSw); go_simp; (try with_reducible rfl)
            try simp only [Act.put, List.setIfInBounds_toArray, List.set_cons_zero, List.set_cons_succ]
            refine wpAnyH_take (i := 7) (v := ?_) rfl (by kernel_rfl) (by kernel_rfl) (by kernel_rfl) (fun _ _ _ h => h) (Or.inl ⟨by rfl, ?_⟩) (by assumption) ?_
            rotate_left
            · intro w hSw; (try dsimp only at hSw); go_simp; (try with_reducible rfl)
            try simp only [Act.put, List.setIfInBounds_toArray, List.set_cons_zero, List.set_cons_succ]
            refine wpAnyH_take (i := 8) (v := ?_) rfl (by kernel_rfl) (by kernel_rfl) (by kernel_rfl) (fun _ _ _ h => h) (Or.inl ⟨by rfl, ?_⟩) (by assumption) ?_
            rotate_left
            · intro w hSw; (try dsimp only at hSw); go_simp; (try with_reducible rfl)
            try simp only [Act.put, List.setIfInBounds_toArray, List.set_cons_zero, List.set_cons_succ]
            refine wpAnyH_take (i := 9) (v := ?_) rfl (by kernel_rfl) (by kernel_rfl) (by kernel_rfl) (fun _ _ _ h => h) (Or.inl ⟨by rfl, ?_⟩) (by assumption) ?_
            rotate_left
            · intro w hSw; (try dsimp only at hSw); go_simp; (try with_reducible rfl)
            try simp only [Act.put, List.setIfInBounds_toArray, List.set_cons_zero, List.set_cons_succ]
            refine wpAnyH_take (i := 10) (v := ?_) rfl (by kernel_rfl) (by kernel_rfl) (by kernel_rfl) (fun _ _ _ h => h) (Or.inl ⟨by rfl, ?_⟩) (by assumption) ?_
            rotate_left
            · intro w hSw; (try dsimp only at hSw); go_simp; (try with_reducible rfl)
            try simp only [Act.put, List.setIfInBounds_toArray, List.set_cons_zero, List.set_cons_succ]
            refine wpAnyH_take (i := 11) (v := ?_) rfl (by kernel_rfl) (by kernel_rfl) (by kernel_rfl) (fun _ _ _ h => h) (Or.inl ⟨by rfl, ?_⟩) (by assumption) ?_
            rotate_left
            · intro w hSw; (try dsimp only at hSw); go_simp; (try with_reducible rfl)
            try simp only [Act.put, List.setIfInBounds_toArray, List.set_cons_zero, List.set_cons_succ]
            refine wpAnyH_take (i := 12) (v := ?_) rfl (by kernel_rfl) (by kernel_rfl) (by kernel_rfl) (fun _ _ _ h => h) (Or.inl ⟨by rfl, ?_⟩) (by assumption) ?_
            rotate_left
            · intro w hSw; (try dsimp only at hSw); go_simp; (try with_reducible rfl)
            try simp only [Act.put, List.setIfInBounds_toArray, List.set_cons_zero, List.set_cons_succ]
            refine wpAnyH_take (i := 13) (v := ?_) rfl (by kernel_rfl) (by kernel_rfl) (by kernel_rfl) (fun _ _ _ h => h) (Or.inl ⟨by rfl, ?_⟩) (by assumption) ?_
            rotate_left
            · intro w hSw; (try dsimp only at hSw); go_simp; (try with_reducible rfl)
            try simp only [Act.put, List.setIfInBounds_toArray, List.set_cons_zero, List.set_cons_succ]
            refine wpAnyH_take (i := 14) (v := ?_) rfl (by kernel_rfl) (by kernel_rfl) (by kernel_rfl) (fun _ _ _ h => h) (Or.inl ⟨by rfl, ?_⟩) (by assumption) ?_
            rotate_left
            · intro w hSw; (try dsimp only at hSw); go_simp; (try with_reducible rfl)
            try simp only [Act.put, List.setIfInBounds_toArray, List.set_cons_zero, List.set_cons_succ]
            refine wpAnyH_take (i := 15) (v := ?_) rfl (by kernel_rfl) (by kernel_rfl) (by kernel_rfl) (fun _ _ _ h => h) (Or.inl ⟨by rfl, ?_⟩) (by assumption) ?_
            rotate_left
            · intro w hSw; (try dsimp only at hSw); go_simp; (try with_reducible rfl)
            try simp only [Act.put, List.setIfInBounds_toArray, List.set_cons_zero, List.set_cons_succ]
            refine wpAnyH_take (i := 16) (v := ?_) rfl (by kernel_rfl) (by kernel_rfl) (by kernel_rfl) (fun _ _ _ h => h) (Or.inl ⟨by rfl, ?_⟩) (by assumption) ?_
            rotate_left
            · intro w hSw; (try dsimp only at hSw); go_simp; (try with_reducible rfl)
            try simp only [Act.put, List.setIfInBounds_toArray, List.set_cons_zero, List.set_cons_succ]
            refine wpAnyH_take (i := 17) (v := ?_) rfl (by kernel_rfl) (by kernel_rfl) (by kernel_rfl) (fun _ _ _ h => h) (Or.inl ⟨by rfl, ?_⟩) (by assumption) ?_
            rotate_left
            · intro w hSw; (try dsimp only at hSw); go_simp; (try with_reducible rfl)
            try simp only [Act.put, List.setIfInBounds_toArray, List.set_cons_zero, List.set_cons_succ]
            refine wpAnyH_take (i := 18) (v := ?_) rfl (by kernel_rfl) (by kernel_rfl) (by kernel_rfl) (fun _ _ _ h => h) (Or.inl ⟨by rfl, ?_⟩) (by assumption) ?_
            rotate_left
            · intro w hSw; (try dsimp only at hSw); go_simp; (try with_reducible rfl)
            try simp only [Act.put, List.setIfInBounds_toArray, List.set_cons_zero, List.set_cons_succ]
            refine wpAnyH_take (i := 19) (v := ?_) rfl (by kernel_rfl) (by kernel_rfl) (by kernel_rfl) (fun _ _ _ h => h) (Or.inl ⟨by rfl, ?_⟩) (by assumption) ?_
            rotate_left
            · intro w hSw; (try dsimp only at hSw); go_simp; (try with_reducible rfl)
            try simp only [Act.put, List.setIfInBounds_toArray, List.set_cons_zero, List.set_cons_succ]
            refine wpAnyH_take (i := 20) (v := ?_) rfl (by kernel_rfl) (by kernel_rfl) (by kernel_rfl) (fun _ _ _ h => h) (Or.inl ⟨by rfl, ?_⟩) (by assumption) ?_
            rotate_left
            · intro w hSw; (try dsimp only at hSw); go_simp; (try with_reducible rfl)
            try simp only [Act.put, List.setIfInBounds_toArray, List.set_cons_zero, List.set_cons_succ]
            refine wpAnyH_take (i := 21) (v := ?_) rfl (by kernel_rfl) (by kernel_rfl) (by kernel_rfl) (fun _ _ _ h => h) (Or.inl ⟨by rfl, ?_⟩) (by assumption) ?_
            rotate_left
            · intro w hSw; (try dsimp only at hSw); go_simp; (try with_reducible rfl)
            try simp only [Act.put, List.setIfInBounds_toArray, List.set_cons_zero, List.set_cons_succ]
            refine wpAnyH_take (i := 22) (v := ?_) rfl (by kernel_rfl) (by kernel_rfl) (by kernel_rfl) (fun _ _ _ h => h) (Or.inl ⟨by rfl, ?_⟩) (by assumption) ?_
            rotate_left
            · intro w hSw; (try dsimp only at hSw); go_simp; (try with_reducible rfl)
            try simp only [Act.put, List.setIfInBounds_toArray, List.set_cons_zero, List.set_cons_succ]
            refine wpAnyH_take (i := 23) (v := ?_) rfl (by kernel_rfl) (by kernel_rfl) (by kernel_rfl) (fun _ _ _ h => h) (Or.inl ⟨by rfl, ?_⟩) (by assumption) ?_
            rotate_left
            · intro w hSw; (try dsimp only at hSw); go_simp; (try with_reducible rfl)
            try simp only [Act.put, List.setIfInBounds_toArray, List.set_cons_zero, List.set_cons_succ]
            refine wpAnyH_take (i := 24) (v := ?_) rfl (by kernel_rfl) (by kernel_rfl) (by kernel_rfl) (fun _ _ _ h => h) (Or.inl ⟨by rfl, ?_⟩) (by assumption) ?_
            rotate_left
            · intro w hSw; (try dsimp only at hSw); go_simp; (try with_reducible rfl)
            try simp only [Act.put, List.setIfInBounds_toArray, List.set_cons_zero, List.set_cons_succ]
            refine wpAnyH_ready (rs := [2]) (by kernel_rfl) (by simp) ?_
            refine AllReadyH.cons rfl (fun K hK => ?_) AllReadyH.nil
            go_simp
            (go_at_call 11; (with_reducible refine (CI _).mono ?_); rintro eq wq ⟨rfl, hbx⟩)
            go_wp2_with fail
            refine hK.out _ _ (by (try dsimp only); (repeat' (first | with_reducible assumption | with_reducible exact Below.refl _ _ | with_reducible exact keepW (by with_reducible assumption) (by with_reducible assumption) (by first | exact Nat.le_refl _ | assumption | omega | (simp; done) | (simp; omega)) | with_reducible exact keepS (by with_reducible assumption) (by with_reducible assumption) (by first | exact Nat.le_refl _ | assumption | omega | (simp; done) | (simp; omega)) | (with_reducible refine Below.setCell ?_ (by first | omega | (simp; done) | (simp; omega)) _) | (with_reducible refine below_drewN ?_ _) | (with_reducible refine Below.drew ?_) | (with_reducible refine Below.trans ?_ (Below.mono (by with_reducible assumption) (by first | omega | (simp; done) | (simp; omega)))) | (with_reducible refine Below.trans ?_ (Below.mono (Grow.below (by with_reducible assumption)) (by first | omega | (simp; done) | (simp; omega)))) | (with_reducible refine Below.alloc ?_ (by first | omega | (simp; done) | (simp; omega)) _)))) (fun hHeld => ?_)
            clear hK K
            try simp only [Act.put, List.setIfInBounds_toArray, List.set_cons_zero, List.set_cons_succ]
            refine wpAnyH_take (i := 3) (v := ?_) rfl (by kernel_rfl) (by kernel_rfl) (by kernel_rfl) (fun _ _ _ h => h) (Or.inl ⟨by rfl, ?_⟩) (by assumption) ?_
            rotate_left
            · intro w hSw; (try dsimp only at hSw); go_simp; (try with_reducible rfl)
            try simp only [Act.put, List.setIfInBounds_toArray, List.set_cons_zero, List.set_cons_succ]
            refine wpAnyH_ready (rs := [25]) (by kernel_rfl) (by simp) ?_
            refine AllReadyH.cons rfl (fun K hK => ?_) AllReadyH.nil
            go_simp
            (go_at_call 12; (with_reducible refine (CS _).mono ?_); rintro eq wq ⟨rfl, hbx⟩)
            go_wp2_with fail
            refine hK.out _ _ (by (try dsimp only); (repeat' (first | with_reducible assumption | with_reducible exact Below.refl _ _ | with_reducible exact keepW (by with_reducible assumption) (by with_reducible assumption) (by first | exact Nat.le_refl _ | assumption | omega | (simp; done) | (simp; omega)) | with_reducible exact keepS (by with_reducible assumption) (by with_reducible assumption) (by first | exact Nat.le_refl _ | assumption | omega | (simp; done) | (simp; omega)) | (with_reducible refine Below.setCell ?_ (by first | omega | (simp; done) | (simp; omega)) _) | (with_reducible refine below_drewN ?_ _) | (with_reducible refine Below.drew ?_) | (with_reducible refine Below.trans ?_ (Below.mono (by with_reducible assumption) (by first | omega | (simp; done) | (simp; omega)))) | (with_reducible refine Below.trans ?_ (Below.mono (Grow.below (by with_reducible assumption)) (by first | omega | (simp; done) | (simp; omega)))) | (with_reducible refine Below.alloc ?_ (by first | omega | (simp; done) | (simp; omega)) _)))) (fun hHeld => ?_)
            clear hK K
            try simp only [Act.put, List.setIfInBounds_toArray, List.set_cons_zero, List.set_cons_succ]
            refine wpAnyH_ready (rs := [26]) (by kernel_rfl) (by simp) ?_
            refine AllReadyH.cons (o := ({ dst := some 62, op := Op.binOp BinOp.quo 31 (Operand.tmp 50) (Operand.tmp 61) 31, type := 31, pos := "l02_bodies.go:479", after := #[{ on := 14, ground := Ground.data }, { on := 25, ground := Ground.data }], guard := none } : Oper)) rfl (fun K hK => ?_) AllReadyH.nil
            go_simp
            (refine upon_arith (by simp [Arith]) (by first | assumption | exact is_lit64 _ (by decide) | exact is_lit32 _ (by decide)) (by first | assumption | exact is_lit64 _ (by decide) | exact is_lit32 _ (by decide)) ?_; intro rq nq hq; go_simp)
            refine hK.out _ _ (by (try dsimp only); (repeat' (first | with_reducible assumption | with_reducible exact Below.refl _ _ | with_reducible exact keepW (by with_reducible assumption) (by with_reducible assumption) (by first | exact Nat.le_refl _ | assumption | omega | (simp; done) | (simp; omega)) | with_reducible exact keepS (by with_reducible assumption) (by with_reducible assumption) (by first | exact Nat.le_refl _ | assumption | omega | (simp; done) | (simp; omega)) | (with_reducible refine Below.setCell ?_ (by first | omega | (simp; done) | (simp; omega)) _) | (with_reducible refine below_drewN ?_ _) | (with_reducible refine Below.drew ?_) | (with_reducible refine Below.trans ?_ (Below.mono (by with_reducible assumption) (by first | omega | (simp; done) | (simp; omega)))) | (with_reducible refine Below.trans ?_ (Below.mono (Grow.below (by with_reducible assumption)) (by first | omega | (simp; done) | (simp; omega)))) | (with_reducible refine Below.alloc ?_ (by first | omega | (simp; done) | (simp; omega)) _)))) (fun hHeld => ?_)
            clear hK K
            try simp only [Act.put, List.setIfInBounds_toArray, List.set_cons_zero, List.set_cons_succ]
            refine wpAnyH_ready (rs := [27]) (by kernel_rfl) (by simp) ?_
            refine AllReadyH.cons (o := ({ dst := some 63, op := Op.binOp BinOp.sub 31 (Operand.tmp 39) (Operand.tmp 62) 31, type := 31, pos := "l02_bodies.go:479", after := #[{ on := 3, ground := Ground.data }, { on := 26, ground := Ground.data }], guard := none } : Oper)) rfl (fun K hK => ?_) AllReadyH.nil
            go_simp
            (refine upon_arith (by simp [Arith]) (by first | assumption | exact is_lit64 _ (by decide) | exact is_lit32 _ (by decide)) (by first | assumption | exact is_lit64 _ (by decide) | exact is_lit32 _ (by decide)) ?_; intro rq nq hq; go_simp)
            refine hK.out _ _ (by (try dsimp only); (repeat' (first | with_reducible assumption | with_reducible exact Below.refl _ _ | with_reducible exact keepW (by with_reducible assumption) (by with_reducible assumption) (by first | exact Nat.le_refl _ | assumption | omega | (simp; done) | (simp; omega)) | with_reducible exact keepS (by with_reducible assumption) (by with_reducible assumption) (by first | exact Nat.le_refl _ | assumption | omega | (simp; done) | (simp; omega)) | (with_reducible refine Below.setCell ?_ (by first | omega | (simp; done) | (simp; omega)) _) | (with_reducible refine below_drewN ?_ _) | (with_reducible refine Below.drew ?_) | (with_reducible refine Below.trans ?_ (Below.mono (by with_reducible assumption) (by first | omega | (simp; done) | (simp; omega)))) | (with_reducible refine Below.trans ?_ (Below.mono (Grow.below (by with_reducible assumption)) (by first | omega | (simp; done) | (simp; omega)))) | (with_reducible refine Below.alloc ?_ (by first | omega | (simp; done) | (simp; omega)) _)))) (fun hHeld => ?_)
            clear hK K
            try simp only [Act.put, List.setIfInBounds_toArray, List.set_cons_zero, List.set_cons_succ]
            refine wpAnyH_take (i := 28) (oi := ({ dst := some 9, op := Op.assign (Operand.tmp 63), type := 31, pos := "l02_bodies.go:479", after := #[{ on := 27, ground := Ground.data }, { on := 25, ground := Ground.chain }, { on := 0, ground := Ground.phase }, { on := 1, ground := Ground.phase }, { on := 2, ground := Ground.phase }, { on := 3, ground := Ground.phase }, { on := 4, ground := Ground.phase }, { on := 5, ground := Ground.phase }, { on := 6, ground := Ground.phase }, { on := 7, ground := Ground.phase }, { on := 8, ground := Ground.phase }, { on := 9, ground := Ground.phase }, { on := 10, ground := Ground.phase }, { on := 11, ground := Ground.phase }, { on := 12, ground := Ground.phase }, { on := 13, ground := Ground.phase }, { on := 14, ground := Ground.phase }, { on := 15, ground := Ground.phase }, { on := 16, ground := Ground.phase }, { on := 17, ground := Ground.phase }, { on := 18, ground := Ground.phase }, { on := 19, ground := Ground.phase }, { on := 20, ground := Ground.phase }, { on := 21, ground := Ground.phase }, { on := 22, ground := Ground.phase }, { on := 23, ground := Ground.phase }, { on := 24, ground := Ground.phase }, { on := 25, ground := Ground.phase }, { on := 26, ground := Ground.phase }, { on := 27, ground := Ground.phase }], guard := none } : Oper)) (v := ?_) rfl (by kernel_rfl) (by kernel_rfl) (by kernel_rfl) (fun _ _ _ h => h) (Or.inl ⟨by rfl, ?_⟩) (by assumption) ?_
            rotate_left
            · intro w hSw; (try dsimp only at hSw); go_simp; (try with_reducible rfl)
            try simp only [Act.put, List.setIfInBounds_toArray, List.set_cons_zero, List.set_cons_succ]
            refine wpAnyH_done (by kernel_rfl) ?_ _
            refine NoPanic.normal ?_
            go_wp2_with fail
            go_meet
            exact ⟨_, rfl, by rw [EB.out]; assumption, by (repeat' (first | with_reducible assumption | with_reducible exact Below.refl _ _ | with_reducible exact keepW (by with_reducible assumption) (by with_reducible assumption) (by first | exact Nat.le_refl _ | assumption | omega | (simp; done) | (simp; omega)) | with_reducible exact keepS (by with_reducible assumption) (by with_reducible assumption) (by first | exact Nat.le_refl _ | assumption | omega | (simp; done) | (simp; omega)) | (with_reducible refine Below.setCell ?_ (by first | omega | (simp; done) | (simp; omega)) _) | (with_reducible refine below_drewN ?_ _) | (with_reducible refine Below.drew ?_) | (with_reducible refine Below.trans ?_ (Below.mono (by with_reducible assumption) (by first | omega | (simp; done) | (simp; omega)))) | (with_reducible refine Below.trans ?_ (Below.mono (Grow.below (by with_reducible assumption)) (by first | omega | (simp; done) | (simp; omega)))) | (with_reducible refine Below.alloc ?_ (by first | omega | (simp; done) | (simp; omega)) _)))⟩
          case rest =>
            obtain ⟨r, rfl, hE, bR⟩ := hcut
            have bZ2 := bZ.trans (bR.mono hS3)
            have FF := fun W => finite_any hE W
            clear c0 c1 c2 c3 c4 c5 c6 d0 d1 d2 d3 d4 d5 d6 q0 q1 q2 HC HD HQ HR HV
            cases hF : finS (bndE v i k) with
            | false =>
              rw [hF] at FF
              go_wp2_with (go_at_call 13; refine (FF _).mono ?_; rintro eq wq ⟨nq, rfl, rfl⟩)
              go_ret2
              exact ⟨by simp [hF], below_drewN bZ2 _⟩
            | true =>
              rw [hF] at FF
              go_wp2_with (first | (apply wpList_cmp; rfl; simp [Cmp]; rfl; rfl; (first | assumption | exact is_lit64 _ (by decide) | exact is_lit32 _ (by decide)); (first | assumption | exact is_lit64 _ (by decide) | exact is_lit32 _ (by decide)); intro Kq hKq; go_simp) | (go_at_call 13; refine (FF _).mono ?_; rintro eq wq ⟨nq, rfl, rfl⟩))
              go_ret2
              exact ⟨by simp [hF], below_drewN bZ2 _⟩
end Go.Proofs.Ytffoogflalkpbaa
