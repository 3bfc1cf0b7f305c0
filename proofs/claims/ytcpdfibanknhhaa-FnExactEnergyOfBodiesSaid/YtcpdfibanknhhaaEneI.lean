/-
  The energy of bodies, of the program. No condition.
-/
import Derived.Test.YtcpdfibanknhhaaEne
import Derived.Test.YtcpdfibanknhhaaHas
import Derived.Test.YtcpdfibanknhhaaTakA
namespace Go.Proofs.Ytcpdfibanknhhaa
open Go.RowKit

theorem iInner3 {a0 a1 a2 rI : Nat} {x0 x1 x2 : Option Nat} (h0 : Is .f32 a0 x0) (h1 : Is .f32 a1 x1) (h2 : Is .f32 a2 x2) (e : innerO x0 x1 x2 x0 x1 x2 = some rI) (W : World) :
    Calls Try.prog 21 #[vecV a0 a1 a2, vecV a0 a1 a2] W fun e w' => e = .returned (.float .f32 rI) ∧ Below W.heap.size W w' := by
  refine (implInner h0 h1 h2 h0 h1 h2 W).mono ?_
  rintro _ w' ⟨r, rfl, h, hg⟩
  rw [e] at h
  obtain rfl := h.notNaN
  exact ⟨rfl, hg.below⟩

theorem enN_t {v : Nat → Option Nat} {c : Option Nat} {n : Nat} (hA : areB v n = true) (hc : leastB c = true) : enN v c n = finN (enO v c n n) := by simp [enN, hA, hc]
theorem enOk_t {v : Nat → Option Nat} {c : Option Nat} {n : Nat} (hA : areB v n = true) (hc : leastB c = true) : enOk v c n = finS (enO v c n n) := by simp [enOk, hA, hc]
theorem enN_f {v : Nat → Option Nat} {c : Option Nat} {n : Nat} (h : (areB v n && leastB c) = false) : enN v c n = some 0 := by simp [enN, h]
theorem enOk_f {v : Nat → Option Nat} {c : Option Nat} {n : Nat} (h : (areB v n && leastB c) = false) : enOk v c n = false := by
  unfold enOk
  rw [← Bool.and_assoc, h]
  rfl

theorem iSqOf {x0 x1 x2 x rI rC rQ : Nat} (i0 : Is .f32 x0 (some x0)) (i1 : Is .f32 x1 (some x1)) (i2 : Is .f32 x2 (some x2)) (ix : Is .f32 x (some x)) (eI : innerO (some x0) (some x1) (some x2) (some x0) (some x1) (some x2) = some rI) (eC : fo .mul .f32 (some x) (some x) = some rC) (eQ : fo .add .f32 (some rI) (some rC) = some rQ) (W : World) :
    Calls Try.prog 22 #[vecV x0 x1 x2, .float .f32 x] W fun e w' => e = .returned (.float .f32 rQ) ∧ Below W.heap.size W w' := by
  have IN := fun W => iInner3 i0 i1 i2 eI W
  have iI : Is .f32 rI (some rI) := is_fo32 (show fo .add .f32 _ _ = some rI from eI)
  have EC := Lib.hid eC
  have EQ := Lib.hid eQ
  clear eI eC eQ
  go_enter Try.func22, Try.ntmps22
  go_wp2_with (first | (apply wpList_arith; rfl; simp [Arith]; rfl; rfl; (first | assumption | exact is_lit64 _ (by decide) | exact is_lit32 _ (by decide)); (first | assumption | exact is_lit64 _ (by decide) | exact is_lit32 _ (by decide)); intro Kq hKq rq nq hq; go_simp) | (go_at_call 21; (with_reducible refine (IN _).mono ?_); rintro eq wq ⟨rfl, hbs⟩))
  go_ret
  rw [EC.out, EQ.out] at hq
  obtain rfl := hq.notNaN
  exact ⟨rfl, by repeat' (first | with_reducible exact Below.refl _ _ | with_reducible assumption | (with_reducible refine Below.setCell ?_ (by first | omega | (simp; done) | (simp; omega)) _) | (with_reducible refine Below.alloc ?_ (by first | omega | (simp; done) | (simp; omega)) _) | (with_reducible refine below_drewN ?_ _) | (with_reducible refine Below.drew ?_) | (with_reducible refine Below.trans ?_ (Below.mono (by first | (with_reducible assumption) | exact Grow.below (by assumption)) (by first | omega | (simp; done) | (simp; omega)))))⟩

theorem iLess3 {a0 a1 a2 b0 b1 b2 x0 x1 x2 : Nat} {u0 u1 u2 w0 w1 w2 : Option Nat} (h0 : Is .f32 a0 u0) (h1 : Is .f32 a1 u1) (h2 : Is .f32 a2 u2) (g0 : Is .f32 b0 w0) (g1 : Is .f32 b1 w1) (g2 : Is .f32 b2 w2) (e0 : fo .sub .f32 u0 w0 = some x0) (e1 : fo .sub .f32 u1 w1 = some x1) (e2 : fo .sub .f32 u2 w2 = some x2) (W : World) :
    Calls Try.prog 23 #[vecV a0 a1 a2, vecV b0 b1 b2] W fun e w' => e = .returned (vecV x0 x1 x2) ∧ Below W.heap.size W w' := by
  refine (implLess h0 h1 h2 g0 g1 g2 W).mono ?_
  rintro _ w' ⟨r0, r1, r2, rfl, k0, k1, k2, hg⟩
  rw [e0] at k0
  rw [e1] at k1
  rw [e2] at k2
  obtain rfl := k0.notNaN
  obtain rfl := k1.notNaN
  obtain rfl := k2.notNaN
  exact ⟨rfl, hg.below⟩

theorem iRoot3 {x r : Nat} {v : Option Nat} (ix : Is .f32 x v) (e : rootO v = some r) (W : World) : Calls Try.prog 24 #[.float .f32 x] W fun e w' => e = .returned (.float .f32 r) ∧ Below W.heap.size W w' := by
  refine (root_any ix W).mono ?_
  rintro _ w' ⟨q, n, rfl, h, rfl⟩
  rw [e] at h
  obtain rfl := h.notNaN
  exact ⟨rfl, below_drewN (Below.refl _ _) _⟩

set_option maxHeartbeats 6400000 in
theorem iEne (b off n x : Nat) (f : Nat → Nat) (v : Nat → Option Nat) (c : Option Nat) (w : World) (hn : n ≤ 1048576) (hb : b < w.heap.size) (hr : ∀ i, i < 7 * n → w.cell? ⟨b, off + i, none⟩ = some (.float .f32 (f i))) (hv : ∀ i, i < 7 * n → Is .f32 (f i) (v i)) (ic : Is .f32 x c) :
    Calls Try.prog 8 #[.slice (some ⟨b, off, none⟩) n n, .float .f32 x] w (RetNum (enN v c n) (enOk v c n) w) := by
  have HC := iAre b off n n f v w hn hb hr hv
  have CL := fun W => iLeast ic W
  have HR := Lib.hid hr
  have HV := Lib.hid hv
  clear hr hv
  cases hA : areB v n with
  | false =>
    have h0 : (areB v n && leastB c) = false := by rw [hA]; rfl
    rw [enN_f h0, enOk_f h0]
    rw [hA] at HC
    go_enter Try.func8, Try.ntmps8
    go_wp2_with fail
    (go_at_call 12; refine HC.mono ?_; rintro _ w1 ⟨rfl, b1⟩)
    go_wp2_with fail
    go_ret2
    exact ⟨⟨_, rfl, zero32⟩, b1⟩
  | true =>
    cases hc : leastB c with
    | false =>
      have h0 : (areB v n && leastB c) = false := by rw [hA, hc]; rfl
      rw [enN_f h0, enOk_f h0]
      rw [hA] at HC
      rw [hc] at CL
      go_enter Try.func8, Try.ntmps8
      go_wp2_with fail
      (go_at_call 12; refine HC.mono ?_; rintro _ w1 ⟨rfl, b1⟩)
      go_wp2_with fail
      (go_at_call 20; refine (CL _).mono ?_; rintro _ w2 ⟨n2, rfl, rfl⟩)
      go_wp2_with fail
      go_ret2
      exact ⟨⟨_, rfl, zero32⟩, below_drewN b1 _⟩
    | true =>
      have HA := Lib.hid hA
      rw [enN_t hA hc, enOk_t hA hc]
      rw [hA] at HC
      rw [hc] at CL
      have hst := run_store_float Try.prog
      go_enter Try.func8, Try.ntmps8
      go_wp2_with fail
      (go_at_call 12; refine HC.mono ?_; rintro _ w1 ⟨rfl, b1⟩)
      go_wp2_with fail
      (go_at_call 20; refine (CL _).mono ?_; rintro _ w2 ⟨n2, rfl, rfl⟩)
      go_wp2_with fail
      go_loopw [6, 24] (fun s i wr => ∃ k r : Nat, k ≤ n ∧ i = .int .i64 k ∧ s = .float .f32 r ∧ Is .f32 r (kinS v k) ∧ Below w.heap.size w wr) (fun _ i _ => n - (intOf i).toNat)
      case atStart => exact ⟨0, 0, Nat.zero_le _, rfl, rfl, zero32, by repeat' (first | with_reducible exact Below.refl _ _ | with_reducible assumption | (with_reducible refine Below.setCell ?_ (by first | omega | (simp; done) | (simp; omega)) _) | (with_reducible refine Below.alloc ?_ (by first | omega | (simp; done) | (simp; omega)) _) | (with_reducible refine below_drewN ?_ _) | (with_reducible refine Below.drew ?_) | (with_reducible refine Below.trans ?_ (Below.mono (by first | (with_reducible assumption) | exact Grow.below (by assumption)) (by first | omega | (simp; done) | (simp; omega)))))⟩
      case round =>
        obtain ⟨k, r, hk, rfl, rfl, hs, hbel⟩ := hrel
        by_cases hlt : k < n
        · obtain ⟨c0, c1, c2, c3, c4, c5, c6⟩ := cells7 HR.out hlt
          rw [← hbel.cell (by exact hb)] at c0 c1 c2 c3 c4 c5 c6
          have hz := hbel.size
          have hb2 : b < wr.heap.size := by omega
          obtain ⟨rM, rI, eM, iM, eI, iI, eK⟩ := kin_words HA.out hlt HV.out
          have hs1 : Is .f32 r (kinS v k) := hs
          have IN := fun W => iInner3 (HV.out (7 * k + 3) (by omega)) (HV.out (7 * k + 4) (by omega)) (HV.out (7 * k + 5) (by omega)) eI W
          have AM := fun w => run_fo32 eM 23 w
          have EK := Lib.hid eK
          clear eM eI eK hs
          go_wp2_with fail
          obtain ⟨D, hD⟩ : ∃ D, D = wr.heap.size := ⟨_, rfl⟩
          obtain ⟨Z, hZ⟩ : ∃ Z, Z = wr.alloc (Obj.cells #[Value.float FloatKind.f32 (f (7 * k)), Value.float FloatKind.f32 (f (7 * k + 1)), Value.float FloatKind.f32 (f (7 * k + 2)), Value.float FloatKind.f32 (f (7 * k + 3)), Value.float FloatKind.f32 (f (7 * k + 4)), Value.float FloatKind.f32 (f (7 * k + 5)), Value.float FloatKind.f32 (f (7 * k + 6))] 39) := ⟨_, rfl⟩
          have bZ : Below w.heap.size w Z := by rw [hZ]; exact hbel.alloc hz _
          have z3 : Z.cell? ⟨D, 3, none⟩ = some (.float .f32 (f (7 * k + 3))) := by rw [hZ, hD]; simp
          have z4 : Z.cell? ⟨D, 4, none⟩ = some (.float .f32 (f (7 * k + 4))) := by rw [hZ, hD]; simp
          have z5 : Z.cell? ⟨D, 5, none⟩ = some (.float .f32 (f (7 * k + 5))) := by rw [hZ, hD]; simp
          have z6 : Z.cell? ⟨D, 6, none⟩ = some (.float .f32 (f (7 * k + 6))) := by rw [hZ, hD]; simp
          have sZ : D < Z.heap.size := by rw [hZ, hD]; simp
          try rw [Nat.add_zero] at hZ
          rw [← hZ, ← hD]
          have HZ := Lib.hid hZ
          have HD := Lib.hid hD
          clear hZ hD c0 c1 c2 c3 c4 c5 c6
          have kz3 : ∀ w', Below Z.heap.size Z w' → w'.cell? ⟨D, 3, none⟩ = some (.float .f32 (f (7 * k + 3))) := fun w' h => by rw [h.cell (by assumption), z3]
          have kz4 : ∀ w', Below Z.heap.size Z w' → w'.cell? ⟨D, 4, none⟩ = some (.float .f32 (f (7 * k + 4))) := fun w' h => by rw [h.cell (by assumption), z4]
          have kz5 : ∀ w', Below Z.heap.size Z w' → w'.cell? ⟨D, 5, none⟩ = some (.float .f32 (f (7 * k + 5))) := fun w' h => by rw [h.cell (by assumption), z5]
          have kz6 : ∀ w', Below Z.heap.size Z w' → w'.cell? ⟨D, 6, none⟩ = some (.float .f32 (f (7 * k + 6))) := fun w' h => by rw [h.cell (by assumption), z6]
          clear z3 z4 z5 z6
          (refine wp_region_held_drew (S := fun w' => Below Z.heap.size Z w') (by kernel_rfl) (by (try dsimp only); (repeat' (first | with_reducible assumption | with_reducible exact Below.refl _ _ | with_reducible exact keepW (by with_reducible assumption) (by with_reducible assumption) (by first | exact Nat.le_refl _ | assumption | omega | (simp; done) | (simp; omega)) | with_reducible exact keepS (by with_reducible assumption) (by with_reducible assumption) (by first | exact Nat.le_refl _ | assumption | omega | (simp; done) | (simp; omega)) | (with_reducible refine Below.setCell ?_ (by first | omega | (simp; done) | (simp; omega)) _) | (with_reducible refine below_drewN ?_ _) | (with_reducible refine Below.drew ?_) | (with_reducible refine Below.trans ?_ (Below.mono (by with_reducible assumption) (by first | omega | (simp; done) | (simp; omega)))) | (with_reducible refine Below.trans ?_ (Below.mono (Grow.below (by with_reducible assumption)) (by first | omega | (simp; done) | (simp; omega)))) | (with_reducible refine Below.alloc ?_ (by first | omega | (simp; done) | (simp; omega)) _)))) (fun hHeld => ?_))
          (refine wpTake (i := 0) (some 28) (v := ?_) rfl (by rfl) (by kernel_rfl) (by kernel_rfl) (by kernel_rfl) (fun _ _ _ h => h) (Or.inl ⟨by rfl, ?_⟩) (by assumption) ?_; rotate_left; (focus (intro w hSw; (try dsimp only at hSw); go_simp; (try with_reducible rfl))); (simp only [Act.put, List.setIfInBounds_toArray, List.set_cons_zero, List.set_cons_succ]))
          (refine wpTake (i := 1) (some 29) (v := ?_) rfl (by rfl) (by kernel_rfl) (by kernel_rfl) (by kernel_rfl) (fun _ _ _ h => h) (Or.inl ⟨by rfl, ?_⟩) (by assumption) ?_; rotate_left; (focus (intro w hSw; (try dsimp only at hSw); go_simp; (try with_reducible rfl))); (simp only [Act.put, List.setIfInBounds_toArray, List.set_cons_zero, List.set_cons_succ]))
          (refine wpTake (i := 2) (some 30) (v := ?_) rfl (by rfl) (by kernel_rfl) (by kernel_rfl) (by kernel_rfl) (fun _ _ _ h => h) (Or.inl ⟨by rfl, ?_⟩) (by assumption) ?_; rotate_left; (focus (intro w hSw; (try dsimp only at hSw); go_simp; (try with_reducible rfl))); (simp only [Act.put, List.setIfInBounds_toArray, List.set_cons_zero, List.set_cons_succ]))
          (refine wpTake (i := 3) (some 31) (v := ?_) rfl (by rfl) (by kernel_rfl) (by kernel_rfl) (by kernel_rfl) (fun _ _ _ h => h) (Or.inl ⟨by rfl, ?_⟩) (by assumption) ?_; rotate_left; (focus (intro w hSw; (try dsimp only at hSw); go_simp; (try with_reducible rfl))); (simp only [Act.put, List.setIfInBounds_toArray, List.set_cons_zero, List.set_cons_succ]))
          (refine wpTake (i := 4) (some 32) (v := ?_) rfl (by rfl) (by kernel_rfl) (by kernel_rfl) (by kernel_rfl) (fun _ _ _ h => h) (Or.inl ⟨by rfl, ?_⟩) (by assumption) ?_; rotate_left; (focus (intro w hSw; (try dsimp only at hSw); go_simp; (try with_reducible rfl))); (simp only [Act.put, List.setIfInBounds_toArray, List.set_cons_zero, List.set_cons_succ]))
          (refine wpTake (i := 5) (some 33) (v := ?_) rfl (by rfl) (by kernel_rfl) (by kernel_rfl) (by kernel_rfl) (fun _ _ _ h => h) (Or.inl ⟨by rfl, ?_⟩) (by assumption) ?_; rotate_left; (focus (intro w hSw; (try dsimp only at hSw); go_simp; (try with_reducible rfl))); (simp only [Act.put, List.setIfInBounds_toArray, List.set_cons_zero, List.set_cons_succ]))
          (refine wpTake (i := 6) (some 34) (v := ?_) rfl (by rfl) (by kernel_rfl) (by kernel_rfl) (by kernel_rfl) (fun _ _ _ h => h) (Or.inl ⟨by rfl, ?_⟩) (by assumption) ?_; rotate_left; (focus (intro w hSw; (try dsimp only at hSw); go_simp; (try with_reducible rfl))); (simp only [Act.put, List.setIfInBounds_toArray, List.set_cons_zero, List.set_cons_succ]))
          (refine wpTake (i := 7) (some 35) (v := ?_) rfl (by rfl) (by kernel_rfl) (by kernel_rfl) (by kernel_rfl) (fun _ _ _ h => h) (Or.inl ⟨by rfl, ?_⟩) (by assumption) ?_; rotate_left; (focus (intro w hSw; (try dsimp only at hSw); go_simp; (try with_reducible rfl))); (simp only [Act.put, List.setIfInBounds_toArray, List.set_cons_zero, List.set_cons_succ]))
          (refine wpAnyH_ready (rs := [8]) (by kernel_rfl) (by simp) ?_; refine AllReadyH.cons rfl (fun K hK => ?_) AllReadyH.nil; go_simp)
          (go_at_call 21; (with_reducible refine (IN _).mono ?_); rintro eq wq ⟨rfl, hbs⟩)
          (go_wp2_with fail; refine hK.out _ _ (by (try dsimp only); (repeat' (first | with_reducible assumption | with_reducible exact Below.refl _ _ | with_reducible exact keepW (by with_reducible assumption) (by with_reducible assumption) (by first | exact Nat.le_refl _ | assumption | omega | (simp; done) | (simp; omega)) | with_reducible exact keepS (by with_reducible assumption) (by with_reducible assumption) (by first | exact Nat.le_refl _ | assumption | omega | (simp; done) | (simp; omega)) | (with_reducible refine Below.setCell ?_ (by first | omega | (simp; done) | (simp; omega)) _) | (with_reducible refine below_drewN ?_ _) | (with_reducible refine Below.drew ?_) | (with_reducible refine Below.trans ?_ (Below.mono (by with_reducible assumption) (by first | omega | (simp; done) | (simp; omega)))) | (with_reducible refine Below.trans ?_ (Below.mono (Grow.below (by with_reducible assumption)) (by first | omega | (simp; done) | (simp; omega)))) | (with_reducible refine Below.alloc ?_ (by first | omega | (simp; done) | (simp; omega)) _)))) (fun hHeld => ?_); clear hK K; try (simp only [Act.put, List.setIfInBounds_toArray, List.set_cons_zero, List.set_cons_succ]))
          (apply wpTakeA (i := 9) (some 37); rfl; rfl; rfl; kernel_rfl; rfl; simp [Arith]; rfl; rfl; exact iM; exact iI; (intro nq; (try dsimp only); (repeat' (first | with_reducible assumption | with_reducible exact Below.refl _ _ | with_reducible exact keepW (by with_reducible assumption) (by with_reducible assumption) (by first | exact Nat.le_refl _ | assumption | omega | (simp; done) | (simp; omega)) | with_reducible exact keepS (by with_reducible assumption) (by with_reducible assumption) (by first | exact Nat.le_refl _ | assumption | omega | (simp; done) | (simp; omega)) | (with_reducible refine Below.setCell ?_ (by first | omega | (simp; done) | (simp; omega)) _) | (with_reducible refine below_drewN ?_ _) | (with_reducible refine Below.drew ?_) | (with_reducible refine Below.trans ?_ (Below.mono (by with_reducible assumption) (by first | omega | (simp; done) | (simp; omega)))) | (with_reducible refine Below.trans ?_ (Below.mono (Grow.below (by with_reducible assumption)) (by first | omega | (simp; done) | (simp; omega)))) | (with_reducible refine Below.alloc ?_ (by first | omega | (simp; done) | (simp; omega)) _)))); intro rq nq hq hHeld; (simp only [Act.put, List.setIfInBounds_toArray, List.set_cons_zero, List.set_cons_succ]))
          have hq1 := hq
          (apply wpTakeA (i := 10) (some 38); rfl; rfl; rfl; kernel_rfl; rfl; simp [Arith]; rfl; rfl; exact hs1; exact hq1; (intro nq; (try dsimp only); (repeat' (first | with_reducible assumption | with_reducible exact Below.refl _ _ | with_reducible exact keepW (by with_reducible assumption) (by with_reducible assumption) (by first | exact Nat.le_refl _ | assumption | omega | (simp; done) | (simp; omega)) | with_reducible exact keepS (by with_reducible assumption) (by with_reducible assumption) (by first | exact Nat.le_refl _ | assumption | omega | (simp; done) | (simp; omega)) | (with_reducible refine Below.setCell ?_ (by first | omega | (simp; done) | (simp; omega)) _) | (with_reducible refine below_drewN ?_ _) | (with_reducible refine Below.drew ?_) | (with_reducible refine Below.trans ?_ (Below.mono (by with_reducible assumption) (by first | omega | (simp; done) | (simp; omega)))) | (with_reducible refine Below.trans ?_ (Below.mono (Grow.below (by with_reducible assumption)) (by first | omega | (simp; done) | (simp; omega)))) | (with_reducible refine Below.alloc ?_ (by first | omega | (simp; done) | (simp; omega)) _)))); intro rq nq hq hHeld; (simp only [Act.put, List.setIfInBounds_toArray, List.set_cons_zero, List.set_cons_succ]))
          have hq2 := hq
          (refine wpTake (i := 11) (some 6) (v := ?_) rfl (by rfl) (by kernel_rfl) (by kernel_rfl) (by kernel_rfl) (fun _ _ _ h => h) (Or.inl ⟨by rfl, ?_⟩) (by assumption) ?_; rotate_left; (focus (intro w hSw; (try dsimp only at hSw); go_simp; (try with_reducible rfl))); (simp only [Act.put, List.setIfInBounds_toArray, List.set_cons_zero, List.set_cons_succ]))
          (refine wpAnyH_done (by kernel_rfl) ?_ _)
          go_wp2_with fail
          go_roundw
          case rel => exact ⟨k + 1, _, by omega, by go_num, rfl, by rw [kinS_succ, EK.out]; exact hq2, by have h := bZ.trans (hHeld.mono bZ.size); simpa using h⟩
          case measure => simp [intOf]; omega
        · have hkn : k = n := by omega
          subst hkn
          clear hk hlt
          go_wp2_with fail
          go_loopw [6, 42] (fun s i wr => ∃ i0 r0 : Nat, i0 ≤ k ∧ i = .int .i64 i0 ∧ s = .float .f32 r0 ∧ Is .f32 r0 (enO v c k i0) ∧ Below w.heap.size w wr) (fun _ i _ => k - (intOf i).toNat)
          case atStart => exact ⟨0, r, Nat.zero_le _, rfl, rfl, hs, hbel⟩
          case round =>
            clear hs hbel
            obtain ⟨i, r0, hi, rfl, rfl, hs, hbel⟩ := hrel
            by_cases hlt : i < k
            · obtain ⟨c0, c1, c2, c3, c4, c5, c6⟩ := cells7 HR.out hlt
              rw [← hbel.cell (by exact hb)] at c0 c1 c2 c3 c4 c5 c6
              have hz := hbel.size
              have hb2 : b < wr.heap.size := by omega
              have hin : wrap64 ((i : Int) + 1) = ((i + 1 : Nat) : Int) := by unfold wrap64; omega
              by_cases h1 : k = i + 1
              · have h1' : ((k : Nat) : Int) = i + 1 := by omega
                have hE : enO v c k (i + 1) = enO v c k i := by show enI v c i (enO v c k i) (k - (i + 1)) = _; rw [h1, Nat.sub_self]; rfl
                have HE := Lib.hid hE
                have bZ : ∀ o : Obj, Below w.heap.size w (wr.alloc o) := fun o => hbel.alloc hz o
                have BZ := Lib.hid bZ
                clear hE bZ
                go_wp2_with fail
                go_loopw [6, 52] (fun s q wx => s = .float .f32 r0 ∧ q = .int .i64 0 ∧ Below w.heap.size w wx) (fun _ _ _ => 0)
                case atStart => exact ⟨rfl, rfl, BZ.out _⟩
                case round =>
                  obtain ⟨rfl, rfl, hbel2⟩ := hrel
                  go_wp2_with fail
                  go_roundw
                  case rel => exact ⟨i + 1, r0, by omega, by go_num, rfl, by rw [HE.out]; exact hs, hbel2⟩
                  case measure => simp [intOf]; omega
              · have h1' : i + 1 < k := by omega
                have hl0 : ((k : Nat) : Int) - (i + 1) = ((k - (i + 1) : Nat) : Int) := by omega
                have HBEL := Lib.hid hbel
                have HS := Lib.hid hs
                go_wp2_with fail
                obtain ⟨D, hD⟩ : ∃ D, D = wr.heap.size := ⟨_, rfl⟩
                obtain ⟨Z, hZ⟩ : ∃ Z, Z = wr.alloc (Obj.cells #[Value.float FloatKind.f32 (f (7 * i)), Value.float FloatKind.f32 (f (7 * i + 1)), Value.float FloatKind.f32 (f (7 * i + 2)), Value.float FloatKind.f32 (f (7 * i + 3)), Value.float FloatKind.f32 (f (7 * i + 4)), Value.float FloatKind.f32 (f (7 * i + 5)), Value.float FloatKind.f32 (f (7 * i + 6))] 39) := ⟨_, rfl⟩
                have bZ : Below w.heap.size w Z := by rw [hZ]; exact hbel.alloc hz _
                have z0 : Z.cell? ⟨D, 0, none⟩ = some (.float .f32 (f (7 * i))) := by rw [hZ, hD]; simp
                have z1 : Z.cell? ⟨D, 1, none⟩ = some (.float .f32 (f (7 * i + 1))) := by rw [hZ, hD]; simp
                have z2 : Z.cell? ⟨D, 2, none⟩ = some (.float .f32 (f (7 * i + 2))) := by rw [hZ, hD]; simp
                have z3 : Z.cell? ⟨D, 3, none⟩ = some (.float .f32 (f (7 * i + 3))) := by rw [hZ, hD]; simp
                have z4 : Z.cell? ⟨D, 4, none⟩ = some (.float .f32 (f (7 * i + 4))) := by rw [hZ, hD]; simp
                have z5 : Z.cell? ⟨D, 5, none⟩ = some (.float .f32 (f (7 * i + 5))) := by rw [hZ, hD]; simp
                have z6 : Z.cell? ⟨D, 6, none⟩ = some (.float .f32 (f (7 * i + 6))) := by rw [hZ, hD]; simp
                have sZ : D < Z.heap.size := by rw [hZ, hD]; simp
                try rw [Nat.add_zero] at hZ
                rw [← hZ, ← hD]
                have HZ := Lib.hid hZ
                have HD := Lib.hid hD
                clear hZ hD c0 c1 c2 c3 c4 c5 c6 hs hbel
                go_loopw [6, 52] (fun s q wx => ∃ j r1 : Nat, j ≤ k - (i + 1) ∧ q = .int .i64 j ∧ s = .float .f32 r1 ∧ Is .f32 r1 (enI v c i (enO v c k i) j) ∧ Below Z.heap.size Z wx) (fun _ q _ => (k - (i + 1)) - (intOf q).toNat)
                case atStart => exact ⟨0, r0, Nat.zero_le _, rfl, rfl, HS.out, Below.refl _ _⟩
                case round =>
                  obtain ⟨j, r1, hj, rfl, rfl, hs, hbel⟩ := hrel
                  by_cases hlj : j < k - (i + 1)
                  · have hz2 := hbel.size
                    obtain ⟨K, hK⟩ : ∃ K, K = i + 1 + j := ⟨_, rfl⟩
                    have hKn : K < k := by omega
                    have hcf : finS c = true := by
                      have h := hc
                      unfold leastB at h
                      simp only [Bool.and_eq_true] at h
                      exact h.1
                    obtain ⟨hcx, -⟩ := fin_num32 ic hcf
                    have ixx : Is .f32 x (some x) := hcx ▸ ic
                    obtain ⟨x0, x1, x2, rI, rC, rQ, rM, rR, ⟨e0, e1, e2⟩, ⟨i0, i1, i2⟩, eI, eC, eQ, nQ, eS, eR, nR, eM, iM, eP⟩ := pot_words HA.out hlt hKn HV.out ic hc
                    have LS := fun W => iLess3 (HV.out (7 * K) (by omega)) (HV.out (7 * K + 1) (by omega)) (HV.out (7 * K + 2) (by omega)) (HV.out (7 * i) (by omega)) (HV.out (7 * i + 1) (by omega)) (HV.out (7 * i + 2) (by omega)) e0 e1 e2 W
                    have SQ := fun W => iSqOf i0 i1 i2 ixx eI eC eQ W
                    have RT := fun W => iRoot3 (nn_is nQ) eR W
                    have AM := fun w => run_fo32 eM 23 w
                    have hst1 : enI v c i (enO v c k i) (j + 1) = if cmpB .gtr .f32 (some rQ) (some 0) then fo .sub .f32 (enI v c i (enO v c k i) j) (fo .quo .f32 (some rM) (some rR)) else enI v c i (enO v c k i) j := by
                      show (if cmpB .gtr .f32 (sqD v c i (i + 1 + j)) (some 0) then fo .sub .f32 (enI v c i (enO v c k i) j) (potO v c i (i + 1 + j)) else enI v c i (enO v c k i) j) = _
                      rw [← hK, eS, eP]
                    have iQ := nn_is nQ
                    have iR := nn_is nR
                    have iM1 : Is .f32 rM (some rM) := iM
                    have HST := Lib.hid hst1
                    obtain ⟨c0, c1, c2, c3, c4, c5, c6⟩ := cells7 HR.out hKn
                    have hbb : b < Z.heap.size := Nat.lt_of_lt_of_le hb bZ.size
                    have eoff : off + (i + 1) * 7 + j * 7 = off + K * 7 := by omega
                    rw [← eoff] at c0 c1 c2 c3 c4 c5 c6
                    replace c0 := (hbel.cell (p := ⟨b, _, none⟩) hbb).trans ((bZ.cell (p := ⟨b, _, none⟩) hb).trans c0)
                    replace c1 := (hbel.cell (p := ⟨b, _, none⟩) hbb).trans ((bZ.cell (p := ⟨b, _, none⟩) hb).trans c1)
                    replace c2 := (hbel.cell (p := ⟨b, _, none⟩) hbb).trans ((bZ.cell (p := ⟨b, _, none⟩) hb).trans c2)
                    replace c3 := (hbel.cell (p := ⟨b, _, none⟩) hbb).trans ((bZ.cell (p := ⟨b, _, none⟩) hb).trans c3)
                    replace c4 := (hbel.cell (p := ⟨b, _, none⟩) hbb).trans ((bZ.cell (p := ⟨b, _, none⟩) hb).trans c4)
                    replace c5 := (hbel.cell (p := ⟨b, _, none⟩) hbb).trans ((bZ.cell (p := ⟨b, _, none⟩) hb).trans c5)
                    replace c6 := (hbel.cell (p := ⟨b, _, none⟩) hbb).trans ((bZ.cell (p := ⟨b, _, none⟩) hb).trans c6)
                    have y0 := (hbel.cell (p := ⟨D, _, none⟩) sZ).trans z0
                    have y1 := (hbel.cell (p := ⟨D, _, none⟩) sZ).trans z1
                    have y2 := (hbel.cell (p := ⟨D, _, none⟩) sZ).trans z2
                    have y3 := (hbel.cell (p := ⟨D, _, none⟩) sZ).trans z3
                    have y4 := (hbel.cell (p := ⟨D, _, none⟩) sZ).trans z4
                    have y5 := (hbel.cell (p := ⟨D, _, none⟩) sZ).trans z5
                    have y6 := (hbel.cell (p := ⟨D, _, none⟩) sZ).trans z6
                    have hb3 : b < wr.heap.size := Nat.lt_of_lt_of_le hbb hz2
                    have hD3 : D < wr.heap.size := Nat.lt_of_lt_of_le sZ hz2
                    have HK := Lib.hid hK
                    have hs1 : Is .f32 r1 (enI v c i (enO v c k i) j) := hs
                    have HZ0 := Lib.hid (And.intro z6 sZ)
                    clear hK eoff e0 e1 e2 i0 i1 i2 eI eC eQ nQ eS eR nR eM iM eP hst1 hcf hcx ixx hs z0 z1 z2 z3 z4 z5 z6
                    go_wp2_with fail
                    obtain ⟨E, hE⟩ : ∃ E, E = wr.heap.size := ⟨_, rfl⟩
                    obtain ⟨Y, hY⟩ : ∃ Y, Y = wr.alloc (Obj.cells #[Value.float FloatKind.f32 (f (7 * K + 0)), Value.float FloatKind.f32 (f (7 * K + 1)), Value.float FloatKind.f32 (f (7 * K + 2)), Value.float FloatKind.f32 (f (7 * K + 3)), Value.float FloatKind.f32 (f (7 * K + 4)), Value.float FloatKind.f32 (f (7 * K + 5)), Value.float FloatKind.f32 (f (7 * K + 6))] 39) := ⟨_, rfl⟩
                    have bY : Below Z.heap.size Z Y := by rw [hY]; exact hbel.alloc hz2 _
                    have q6 : Y.cell? ⟨E, 6, none⟩ = some (.float .f32 (f (7 * K + 6))) := by rw [hY, hE]; simp
                    have p6 : Y.cell? ⟨D, 6, none⟩ = some (.float .f32 (f (7 * i + 6))) := (bY.cell (p := ⟨D, 6, none⟩) HZ0.out.2).trans HZ0.out.1
                    have sE : E < Y.heap.size := by rw [hY, hE]; simp
                    have sD : D < Y.heap.size := Nat.lt_of_lt_of_le HZ0.out.2 bY.size
                    try rw [Nat.add_zero] at hY
                    rw [← hY, ← hE]
                    have HY := Lib.hid hY
                    have HE := Lib.hid hE
                    clear hY hE c0 c1 c2 c3 c4 c5 c6 y0 y1 y2 y3 y4 y5 y6
                    (go_at_call 23; refine (LS _).mono ?_; rintro _ W1 ⟨rfl, g1⟩)
                    go_wp2_with fail
                    (go_at_call 22; refine (SQ _).mono ?_; rintro _ W2 ⟨rfl, g2⟩)
                    have bY2 : Below Y.heap.size Y W2 := bt g1 g2
                    have kD : ∀ w', Below W2.heap.size W2 w' → w'.cell? ⟨D, 6, none⟩ = some (.float .f32 (f (7 * i + 6))) := fun w' h => ((bt bY2 h).cell (p := ⟨D, 6, none⟩) sD).trans p6
                    have kE : ∀ w', Below W2.heap.size W2 w' → w'.cell? ⟨E, 6, none⟩ = some (.float .f32 (f (7 * K + 6))) := fun w' h => ((bt bY2 h).cell (p := ⟨E, 6, none⟩) sE).trans q6
                    have bZ2 : Below Z.heap.size Z W2 := bY.trans (bY2.mono bY.size)
                    clear p6 q6 g1 g2 LS SQ
                    cases cG : cmpB .gtr .f32 (some rQ) (some 0) with
                    | false =>
                      have ST := Lib.hid (HST.out.trans (by rw [cG]))
                      go_wp2_with (apply wpList_cmp; rfl; simp [Cmp]; rfl; rfl; (first | assumption | exact is_lit64 _ (by decide) | exact is_lit32 _ (by decide)); (first | assumption | exact is_lit64 _ (by decide) | exact is_lit32 _ (by decide)); intro Kq hKq; go_simp)
                      go_roundw
                      case rel => exact ⟨j + 1, r1, by omega, by go_num, rfl, by rw [ST.out]; exact hs1, bZ2⟩
                      case measure => simp [intOf]; omega
                    | true =>
                      have ST := Lib.hid (HST.out.trans (by rw [cG]))
                      go_wp2_with (apply wpList_cmp; rfl; simp [Cmp]; rfl; rfl; (first | assumption | exact is_lit64 _ (by decide) | exact is_lit32 _ (by decide)); (first | assumption | exact is_lit64 _ (by decide) | exact is_lit32 _ (by decide)); intro Kq hKq; go_simp)
                      (refine wp_region_held_drew (S := fun w' => Below W2.heap.size W2 w') (by kernel_rfl) (by (try dsimp only); (repeat' (first | with_reducible assumption | with_reducible exact Below.refl _ _ | with_reducible exact keepW (by with_reducible assumption) (by with_reducible assumption) (by first | exact Nat.le_refl _ | assumption | omega | (simp; done) | (simp; omega)) | with_reducible exact keepS (by with_reducible assumption) (by with_reducible assumption) (by first | exact Nat.le_refl _ | assumption | omega | (simp; done) | (simp; omega)) | (with_reducible refine Below.setCell ?_ (by first | omega | (simp; done) | (simp; omega)) _) | (with_reducible refine below_drewN ?_ _) | (with_reducible refine Below.drew ?_) | (with_reducible refine Below.trans ?_ (Below.mono (by with_reducible assumption) (by first | omega | (simp; done) | (simp; omega)))) | (with_reducible refine Below.trans ?_ (Below.mono (Grow.below (by with_reducible assumption)) (by first | omega | (simp; done) | (simp; omega)))) | (with_reducible refine Below.alloc ?_ (by first | omega | (simp; done) | (simp; omega)) _)))) (fun hHeld => ?_))
                      (refine wpTake (i := 0) (some 65) (v := ?_) rfl (by rfl) (by kernel_rfl) (by kernel_rfl) (by kernel_rfl) (fun _ _ _ h => h) (Or.inl ⟨by rfl, ?_⟩) (by assumption) ?_; rotate_left; (focus (intro w hSw; (try dsimp only at hSw); go_simp; (try with_reducible rfl))); (simp only [Act.put, List.setIfInBounds_toArray, List.set_cons_zero, List.set_cons_succ]))
                      (refine wpTake (i := 1) (some 66) (v := ?_) rfl (by rfl) (by kernel_rfl) (by kernel_rfl) (by kernel_rfl) (fun _ _ _ h => h) (Or.inl ⟨by rfl, ?_⟩) (by assumption) ?_; rotate_left; (focus (intro w hSw; (try dsimp only at hSw); go_simp; (try with_reducible rfl))); (simp only [Act.put, List.setIfInBounds_toArray, List.set_cons_zero, List.set_cons_succ]))
                      (refine wpTake (i := 2) (some 67) (v := ?_) rfl (by rfl) (by kernel_rfl) (by kernel_rfl) (by kernel_rfl) (fun _ _ _ h => h) (Or.inl ⟨by rfl, ?_⟩) (by assumption) ?_; rotate_left; (focus (intro w hSw; (try dsimp only at hSw); go_simp; (try with_reducible rfl))); (simp only [Act.put, List.setIfInBounds_toArray, List.set_cons_zero, List.set_cons_succ]))
                      (refine wpTake (i := 3) (some 68) (v := ?_) rfl (by rfl) (by kernel_rfl) (by kernel_rfl) (by kernel_rfl) (fun _ _ _ h => h) (Or.inl ⟨by rfl, ?_⟩) (by assumption) ?_; rotate_left; (focus (intro w hSw; (try dsimp only at hSw); go_simp; (try with_reducible rfl))); (simp only [Act.put, List.setIfInBounds_toArray, List.set_cons_zero, List.set_cons_succ]))
                      (refine wpTake (i := 4) (some 69) (v := ?_) rfl (by rfl) (by kernel_rfl) (by kernel_rfl) (by kernel_rfl) (fun _ _ _ h => h) (Or.inl ⟨by rfl, ?_⟩) (by assumption) ?_; rotate_left; (focus (intro w hSw; (try dsimp only at hSw); go_simp; (try with_reducible rfl))); (simp only [Act.put, List.setIfInBounds_toArray, List.set_cons_zero, List.set_cons_succ]))
                      (refine wpTake (i := 5) (some 70) (v := ?_) rfl (by rfl) (by kernel_rfl) (by kernel_rfl) (by kernel_rfl) (fun _ _ _ h => h) (Or.inl ⟨by rfl, ?_⟩) (by assumption) ?_; rotate_left; (focus (intro w hSw; (try dsimp only at hSw); go_simp; (try with_reducible rfl))); (simp only [Act.put, List.setIfInBounds_toArray, List.set_cons_zero, List.set_cons_succ]))
                      (refine wpTake (i := 6) (some 71) (v := ?_) rfl (by rfl) (by kernel_rfl) (by kernel_rfl) (by kernel_rfl) (fun _ _ _ h => h) (Or.inl ⟨by rfl, ?_⟩) (by assumption) ?_; rotate_left; (focus (intro w hSw; (try dsimp only at hSw); go_simp; (try with_reducible rfl))); (simp only [Act.put, List.setIfInBounds_toArray, List.set_cons_zero, List.set_cons_succ]))
                      (refine wpAnyH_ready (rs := [7]) (by kernel_rfl) (by simp) ?_; refine AllReadyH.cons rfl (fun K hK => ?_) AllReadyH.nil; go_simp)
                      (go_at_call 24; (with_reducible refine (RT _).mono ?_); rintro eq wq ⟨rfl, hbs⟩)
                      (go_wp2_with fail; refine hK.out _ _ (by (try dsimp only); (repeat' (first | with_reducible assumption | with_reducible exact Below.refl _ _ | with_reducible exact keepW (by with_reducible assumption) (by with_reducible assumption) (by first | exact Nat.le_refl _ | assumption | omega | (simp; done) | (simp; omega)) | with_reducible exact keepS (by with_reducible assumption) (by with_reducible assumption) (by first | exact Nat.le_refl _ | assumption | omega | (simp; done) | (simp; omega)) | (with_reducible refine Below.setCell ?_ (by first | omega | (simp; done) | (simp; omega)) _) | (with_reducible refine below_drewN ?_ _) | (with_reducible refine Below.drew ?_) | (with_reducible refine Below.trans ?_ (Below.mono (by with_reducible assumption) (by first | omega | (simp; done) | (simp; omega)))) | (with_reducible refine Below.trans ?_ (Below.mono (Grow.below (by with_reducible assumption)) (by first | omega | (simp; done) | (simp; omega)))) | (with_reducible refine Below.alloc ?_ (by first | omega | (simp; done) | (simp; omega)) _)))) (fun hHeld => ?_); clear hK K; try (simp only [Act.put, List.setIfInBounds_toArray, List.set_cons_zero, List.set_cons_succ]))
                      (apply wpTakeA (i := 8) (some 73); rfl; rfl; rfl; kernel_rfl; rfl; simp [Arith]; rfl; rfl; exact iM1; exact iR; (intro nq; (try dsimp only); (repeat' (first | with_reducible assumption | with_reducible exact Below.refl _ _ | with_reducible exact keepW (by with_reducible assumption) (by with_reducible assumption) (by first | exact Nat.le_refl _ | assumption | omega | (simp; done) | (simp; omega)) | with_reducible exact keepS (by with_reducible assumption) (by with_reducible assumption) (by first | exact Nat.le_refl _ | assumption | omega | (simp; done) | (simp; omega)) | (with_reducible refine Below.setCell ?_ (by first | omega | (simp; done) | (simp; omega)) _) | (with_reducible refine below_drewN ?_ _) | (with_reducible refine Below.drew ?_) | (with_reducible refine Below.trans ?_ (Below.mono (by with_reducible assumption) (by first | omega | (simp; done) | (simp; omega)))) | (with_reducible refine Below.trans ?_ (Below.mono (Grow.below (by with_reducible assumption)) (by first | omega | (simp; done) | (simp; omega)))) | (with_reducible refine Below.alloc ?_ (by first | omega | (simp; done) | (simp; omega)) _)))); intro rq nq hq hHeld; (simp only [Act.put, List.setIfInBounds_toArray, List.set_cons_zero, List.set_cons_succ]))
                      have hq1 := hq
                      (apply wpTakeA (i := 9) (some 74); rfl; rfl; rfl; kernel_rfl; rfl; simp [Arith]; rfl; rfl; exact hs1; exact hq1; (intro nq; (try dsimp only); (repeat' (first | with_reducible assumption | with_reducible exact Below.refl _ _ | with_reducible exact keepW (by with_reducible assumption) (by with_reducible assumption) (by first | exact Nat.le_refl _ | assumption | omega | (simp; done) | (simp; omega)) | with_reducible exact keepS (by with_reducible assumption) (by with_reducible assumption) (by first | exact Nat.le_refl _ | assumption | omega | (simp; done) | (simp; omega)) | (with_reducible refine Below.setCell ?_ (by first | omega | (simp; done) | (simp; omega)) _) | (with_reducible refine below_drewN ?_ _) | (with_reducible refine Below.drew ?_) | (with_reducible refine Below.trans ?_ (Below.mono (by with_reducible assumption) (by first | omega | (simp; done) | (simp; omega)))) | (with_reducible refine Below.trans ?_ (Below.mono (Grow.below (by with_reducible assumption)) (by first | omega | (simp; done) | (simp; omega)))) | (with_reducible refine Below.alloc ?_ (by first | omega | (simp; done) | (simp; omega)) _)))); intro rq nq hq hHeld; (simp only [Act.put, List.setIfInBounds_toArray, List.set_cons_zero, List.set_cons_succ]))
                      have hq2 := hq
                      (refine wpTake (i := 10) (some 6) (v := ?_) rfl (by rfl) (by kernel_rfl) (by kernel_rfl) (by kernel_rfl) (fun _ _ _ h => h) (Or.inl ⟨by rfl, ?_⟩) (by assumption) ?_; rotate_left; (focus (intro w hSw; (try dsimp only at hSw); go_simp; (try with_reducible rfl))); (simp only [Act.put, List.setIfInBounds_toArray, List.set_cons_zero, List.set_cons_succ]))
                      (refine wpAnyH_done (by kernel_rfl) ?_ _)
                      go_wp2_with fail
                      go_roundw
                      case rel => exact ⟨j + 1, _, by omega, by go_num, rfl, by rw [ST.out]; exact hq2, by have h := bZ2.trans (hHeld.mono bZ2.size); simpa using h⟩
                      case measure => simp [intOf]; omega
                  · have hjn : Hid (j = k - (i + 1)) := (show j = k - (i + 1) by omega)
                    go_wp2_with fail
                    go_roundw
                    case rel => exact ⟨i + 1, r1, by omega, by go_num, rfl, by rw [hjn.out] at hs; exact hs, bZ.trans (hbel.mono bZ.size)⟩
                    case measure => simp [intOf]; omega
            · have hki : i = k := by omega
              have HS := Lib.hid (hki ▸ hs)
              clear hs
              go_wp2_with fail
              refine (iFinN HS.out _).mono ?_
              rintro _ W3 ⟨⟨r3, rfl, hr3⟩, b3⟩
              go_wp2_with fail
              go_ret2
              exact ⟨⟨_, rfl, hr3⟩, bt hbel b3⟩
end Go.Proofs.Ytcpdfibanknhhaa
