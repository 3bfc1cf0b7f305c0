/-
  The energy of bodies, of the model. No condition.
-/
import Derived.Test.YtcpdfibanknhhaaEneI
import Derived.Test.YtcpdfibanknhhaaRow3
import Derived.Deep.RegionWith
import Derived.Deep.DeepCutAuto
namespace Go.Proofs.Ytcpdfibanknhhaa
open Go.RowKit

theorem sInner3 {a0 a1 a2 rI : Nat} {x0 x1 x2 : Option Nat} (h0 : Is .f32 a0 x0) (h1 : Is .f32 a1 x1) (h2 : Is .f32 a2 x2) (e : innerO x0 x1 x2 x0 x1 x2 = some rI) (W : World) :
    Calls Try.prog 15 #[vecV a0 a1 a2, vecV a0 a1 a2] W fun e w' => e = .returned (.float .f32 rI) ∧ Below W.heap.size W w' := by
  refine (sInner h0 h1 h2 h0 h1 h2 W).mono ?_
  rintro _ w' ⟨r, rfl, h, hg⟩
  rw [e] at h
  obtain rfl := h.notNaN
  exact ⟨rfl, hg.below⟩
theorem sLess3 {a0 a1 a2 b0 b1 b2 x0 x1 x2 : Nat} {u0 u1 u2 w0 w1 w2 : Option Nat} (h0 : Is .f32 a0 u0) (h1 : Is .f32 a1 u1) (h2 : Is .f32 a2 u2) (g0 : Is .f32 b0 w0) (g1 : Is .f32 b1 w1) (g2 : Is .f32 b2 w2) (e0 : fo .sub .f32 u0 w0 = some x0) (e1 : fo .sub .f32 u1 w1 = some x1) (e2 : fo .sub .f32 u2 w2 = some x2) (W : World) :
    Calls Try.prog 16 #[vecV a0 a1 a2, vecV b0 b1 b2] W fun e w' => e = .returned (vecV x0 x1 x2) ∧ Below W.heap.size W w' := by
  refine (sLess h0 h1 h2 g0 g1 g2 W).mono ?_
  rintro _ w' ⟨r0, r1, r2, rfl, k0, k1, k2, hg⟩
  rw [e0] at k0
  rw [e1] at k1
  rw [e2] at k2
  obtain rfl := k0.notNaN
  obtain rfl := k1.notNaN
  obtain rfl := k2.notNaN
  exact ⟨rfl, hg.below⟩
theorem sRoot3 {x r : Nat} {v : Option Nat} (ix : Is .f32 x v) (e : rootO v = some r) (W : World) : Calls Try.prog 17 #[.float .f32 x] W fun e w' => e = .returned (.float .f32 r) ∧ Below W.heap.size W w' := by
  refine (l01Sqrt_any ix W).mono ?_
  rintro _ w' ⟨q, n, rfl, h, rfl⟩
  rw [e] at h
  obtain rfl := h.notNaN
  exact ⟨rfl, below_drewN (Below.refl _ _) _⟩

theorem cellsK {w W : World} {b off n k : Nat} {f : Nat → Nat} (h : Below w.heap.size w W) (hb : b < w.heap.size) (hr : ∀ i, i < 7 * n → w.cell? ⟨b, off + i, none⟩ = some (.float .f32 (f i))) (hk : k < n) :
    W.cell? ⟨b, off + k * 7, none⟩ = some (.float .f32 (f (7 * k))) ∧ W.cell? ⟨b, off + k * 7 + 1, none⟩ = some (.float .f32 (f (7 * k + 1))) ∧ W.cell? ⟨b, off + k * 7 + 2, none⟩ = some (.float .f32 (f (7 * k + 2))) ∧ W.cell? ⟨b, off + k * 7 + 3, none⟩ = some (.float .f32 (f (7 * k + 3))) ∧ W.cell? ⟨b, off + k * 7 + 4, none⟩ = some (.float .f32 (f (7 * k + 4))) ∧ W.cell? ⟨b, off + k * 7 + 5, none⟩ = some (.float .f32 (f (7 * k + 5))) ∧ W.cell? ⟨b, off + k * 7 + 6, none⟩ = some (.float .f32 (f (7 * k + 6))) :=
  cells7 (fun i hi => (h.cell (p := ⟨b, off + i, none⟩) hb).trans (hr i hi)) hk

set_option maxHeartbeats 6400000 in
theorem sEne (b off n x : Nat) (f : Nat → Nat) (v : Nat → Option Nat) (c : Option Nat) (w : World) (hn : n ≤ 1048576) (hb : b < w.heap.size) (hr : ∀ i, i < 7 * n → w.cell? ⟨b, off + i, none⟩ = some (.float .f32 (f i))) (hv : ∀ i, i < 7 * n → Is .f32 (f i) (v i)) (ic : Is .f32 x c) :
    Calls Try.prog 6 #[.slice (some ⟨b, off, none⟩) n n, .float .f32 x] w (RetNum (enN v c n) (enOk v c n) w) := by
  have HC := sAre b off n n f v w hn hb hr hv
  have CL := fun W => sLeast ic W
  have HR := Lib.hid hr
  have HV := Lib.hid hv
  clear hr hv
  cases hA : areB v n with
  | false =>
    have h0 : (areB v n && leastB c) = false := by rw [hA]; rfl
    rw [enN_f h0, enOk_f h0]
    rw [hA] at HC
    go_enter Try.func6, Try.ntmps6
    go_wp2_with fail
    (go_at_call 13; refine HC.mono ?_; rintro _ w1 ⟨rfl, b1⟩)
    go_wp2_with fail
    go_ret2
    exact ⟨⟨_, rfl, zero32⟩, b1⟩
  | true =>
    cases hc : leastB c with
    | false =>
      have h0 : (areB v n && leastB c) = false := by rw [hA, hc]; rfl
      rw [enN_f h0, enOk_f h0]
      rw [hA] at HC
      rw [hc] at CL
      go_enter Try.func6, Try.ntmps6
      go_wp2_with fail
      (go_at_call 13; refine HC.mono ?_; rintro _ w1 ⟨rfl, b1⟩)
      go_wp2_with fail
      (go_at_call 14; refine (CL _).mono ?_; rintro _ w2 ⟨n2, rfl, rfl⟩)
      go_wp2_with fail
      go_ret2
      exact ⟨⟨_, rfl, zero32⟩, below_drewN b1 _⟩
    | true =>
      have HA := Lib.hid hA
      rw [enN_t hA hc, enOk_t hA hc]
      rw [hA] at HC
      rw [hc] at CL
      have hst := run_store_float Try.prog
      go_enter Try.func6, Try.ntmps6
      go_wp2_with fail
      (go_at_call 13; refine HC.mono ?_; rintro _ w1 ⟨rfl, b1⟩)
      go_wp2_with fail
      (go_at_call 14; refine (CL _).mono ?_; rintro _ w2 ⟨n2, rfl, rfl⟩)
      go_wp2_with fail
      go_loopw [6, 7] (fun s i wr => ∃ k r : Nat, k ≤ n ∧ i = .int .i64 k ∧ s = .float .f32 r ∧ Is .f32 r (kinS v k) ∧ Below w.heap.size w wr) (fun _ i _ => n - (intOf i).toNat)
      case atStart => exact ⟨0, 0, Nat.zero_le _, rfl, rfl, zero32, below_drewN b1 _⟩
      case round =>
        obtain ⟨k, r, hk, rfl, rfl, hs, hbel⟩ := hrel
        by_cases hlt : k < n
        · have hz := hbel.size
          have hwk : wrap64 ((k : Int) + 1) = ((k + 1 : Nat) : Int) := by unfold wrap64; omega
          obtain ⟨c0, c1, c2, c3, c4, c5, c6⟩ := cells7 HR.out hlt
          have kc3 := fun (w' : World) (h : Below wr.heap.size wr w') => ((hbel.trans (h.mono hz)).cell (p := ⟨b, _, none⟩) hb).trans c3
          have kc4 := fun (w' : World) (h : Below wr.heap.size wr w') => ((hbel.trans (h.mono hz)).cell (p := ⟨b, _, none⟩) hb).trans c4
          have kc5 := fun (w' : World) (h : Below wr.heap.size wr w') => ((hbel.trans (h.mono hz)).cell (p := ⟨b, _, none⟩) hb).trans c5
          have kc6 := fun (w' : World) (h : Below wr.heap.size wr w') => ((hbel.trans (h.mono hz)).cell (p := ⟨b, _, none⟩) hb).trans c6
          have hb2 : b < wr.heap.size := by omega
          obtain ⟨rM, rI, eM, iM, eI, iI, eK⟩ := kin_words HA.out hlt HV.out
          have hs1 : Is .f32 r (kinS v k) := hs
          have IN := fun W => sInner3 (HV.out (7 * k + 3) (by omega)) (HV.out (7 * k + 4) (by omega)) (HV.out (7 * k + 5) (by omega)) eI W
          have AM := fun w => run_fo32 eM 23 w
          have EK := Lib.hid eK
          clear eM eI eK hs c0 c1 c2 c3 c4 c5 c6
          go_wp2_with fail
          (refine wp_region_held_drew (S := fun w' => Below wr.heap.size wr w') (by kernel_rfl) (by (try dsimp only); (repeat' (first | with_reducible assumption | with_reducible exact Below.refl _ _ | with_reducible exact keepW (by with_reducible assumption) (by with_reducible assumption) (by first | exact Nat.le_refl _ | assumption | omega | (simp; done) | (simp; omega)) | with_reducible exact keepS (by with_reducible assumption) (by with_reducible assumption) (by first | exact Nat.le_refl _ | assumption | omega | (simp; done) | (simp; omega)) | (with_reducible refine Below.setCell ?_ (by first | omega | (simp; done) | (simp; omega)) _) | (with_reducible refine below_drewN ?_ _) | (with_reducible refine Below.drew ?_) | (with_reducible refine Below.trans ?_ (Below.mono (by with_reducible assumption) (by first | omega | (simp; done) | (simp; omega)))) | (with_reducible refine Below.trans ?_ (Below.mono (Grow.below (by with_reducible assumption)) (by first | omega | (simp; done) | (simp; omega)))) | (with_reducible refine Below.alloc ?_ (by first | omega | (simp; done) | (simp; omega)) _)))) (fun hHeld => ?_))
          (refine wpTake (i := 0) (some 26) (v := ?_) rfl (by rfl) (by kernel_rfl) (by kernel_rfl) (by kernel_rfl) (fun _ _ _ h => h) (Or.inl ⟨by rfl, ?_⟩) (by assumption) ?_; rotate_left; (focus (intro w hSw; (try dsimp only at hSw); go_simp; (try with_reducible rfl))); (simp only [Act.put, List.setIfInBounds_toArray, List.set_cons_zero, List.set_cons_succ]))
          (refine wpTake (i := 1) (some 27) (v := ?_) rfl (by rfl) (by kernel_rfl) (by kernel_rfl) (by kernel_rfl) (fun _ _ _ h => h) (Or.inl ⟨by rfl, ?_⟩) (by assumption) ?_; rotate_left; (focus (intro w hSw; (try dsimp only at hSw); go_simp; (try with_reducible rfl))); (simp only [Act.put, List.setIfInBounds_toArray, List.set_cons_zero, List.set_cons_succ]))
          (refine wpTake (i := 2) (some 28) (v := ?_) rfl (by rfl) (by kernel_rfl) (by kernel_rfl) (by kernel_rfl) (fun _ _ _ h => h) (Or.inl ⟨by rfl, ?_⟩) (by assumption) ?_; rotate_left; (focus (intro w hSw; (try dsimp only at hSw); go_simp; (try with_reducible rfl))); (simp only [Act.put, List.setIfInBounds_toArray, List.set_cons_zero, List.set_cons_succ]))
          (refine wpTake (i := 3) (some 29) (v := ?_) rfl (by rfl) (by kernel_rfl) (by kernel_rfl) (by kernel_rfl) (fun _ _ _ h => h) (Or.inl ⟨by rfl, ?_⟩) (by assumption) ?_; rotate_left; (focus (intro w hSw; (try dsimp only at hSw); go_simp; (try with_reducible rfl))); (simp only [Act.put, List.setIfInBounds_toArray, List.set_cons_zero, List.set_cons_succ]))
          (refine wpTake (i := 4) (some 30) (v := ?_) rfl (by rfl) (by kernel_rfl) (by kernel_rfl) (by kernel_rfl) (fun _ _ _ h => h) (Or.inl ⟨by rfl, ?_⟩) (by assumption) ?_; rotate_left; (focus (intro w hSw; (try dsimp only at hSw); go_simp; (try with_reducible rfl))); (simp only [Act.put, List.setIfInBounds_toArray, List.set_cons_zero, List.set_cons_succ]))
          (refine wpTake (i := 5) (some 31) (v := ?_) rfl (by rfl) (by kernel_rfl) (by kernel_rfl) (by kernel_rfl) (fun _ _ _ h => h) (Or.inl ⟨by rfl, ?_⟩) (by assumption) ?_; rotate_left; (focus (intro w hSw; (try dsimp only at hSw); go_simp; (try with_reducible rfl))); (simp only [Act.put, List.setIfInBounds_toArray, List.set_cons_zero, List.set_cons_succ]))
          (refine wpTake (i := 6) (some 32) (v := ?_) rfl (by rfl) (by kernel_rfl) (by kernel_rfl) (by kernel_rfl) (fun _ _ _ h => h) (Or.inl ⟨by rfl, ?_⟩) (by assumption) ?_; rotate_left; (focus (intro w hSw; (try dsimp only at hSw); go_simp; (try with_reducible rfl))); (simp only [Act.put, List.setIfInBounds_toArray, List.set_cons_zero, List.set_cons_succ]))
          (refine wpTake (i := 7) (some 33) (v := ?_) rfl (by rfl) (by kernel_rfl) (by kernel_rfl) (by kernel_rfl) (fun _ _ _ h => h) (Or.inl ⟨by rfl, ?_⟩) (by assumption) ?_; rotate_left; (focus (intro w hSw; (try dsimp only at hSw); go_simp; (try with_reducible rfl))); (simp only [Act.put, List.setIfInBounds_toArray, List.set_cons_zero, List.set_cons_succ]))
          (refine wpTake (i := 8) (some 34) (v := ?_) rfl (by rfl) (by kernel_rfl) (by kernel_rfl) (by kernel_rfl) (fun _ _ _ h => h) (Or.inl ⟨by rfl, ?_⟩) (by assumption) ?_; rotate_left; (focus (intro w hSw; (try dsimp only at hSw); go_simp; (try with_reducible rfl))); (simp only [Act.put, List.setIfInBounds_toArray, List.set_cons_zero, List.set_cons_succ]))
          (refine wpTake (i := 9) (some 35) (v := ?_) rfl (by rfl) (by kernel_rfl) (by kernel_rfl) (by kernel_rfl) (fun _ _ _ h => h) (Or.inl ⟨by rfl, ?_⟩) (by assumption) ?_; rotate_left; (focus (intro w hSw; (try dsimp only at hSw); go_simp; (try with_reducible rfl))); (simp only [Act.put, List.setIfInBounds_toArray, List.set_cons_zero, List.set_cons_succ]))
          (refine wpTake (i := 10) (some 36) (v := ?_) rfl (by rfl) (by kernel_rfl) (by kernel_rfl) (by kernel_rfl) (fun _ _ _ h => h) (Or.inl ⟨by rfl, ?_⟩) (by assumption) ?_; rotate_left; (focus (intro w hSw; (try dsimp only at hSw); go_simp; (try with_reducible rfl))); (simp only [Act.put, List.setIfInBounds_toArray, List.set_cons_zero, List.set_cons_succ]))
          (refine wpTake (i := 11) (some 37) (v := ?_) rfl (by rfl) (by kernel_rfl) (by kernel_rfl) (by kernel_rfl) (fun _ _ _ h => h) (Or.inl ⟨by rfl, ?_⟩) (by assumption) ?_; rotate_left; (focus (intro w hSw; (try dsimp only at hSw); go_simp; (try with_reducible rfl))); (simp only [Act.put, List.setIfInBounds_toArray, List.set_cons_zero, List.set_cons_succ]))
          (refine wpTake (i := 12) (some 38) (v := ?_) rfl (by rfl) (by kernel_rfl) (by kernel_rfl) (by kernel_rfl) (fun _ _ _ h => h) (Or.inl ⟨by rfl, ?_⟩) (by assumption) ?_; rotate_left; (focus (intro w hSw; (try dsimp only at hSw); go_simp; (try with_reducible rfl))); (simp only [Act.put, List.setIfInBounds_toArray, List.set_cons_zero, List.set_cons_succ]))
          (refine wpTake (i := 13) (some 39) (v := ?_) rfl (by rfl) (by kernel_rfl) (by kernel_rfl) (by kernel_rfl) (fun _ _ _ h => h) (Or.inl ⟨by rfl, ?_⟩) (by assumption) ?_; rotate_left; (focus (intro w hSw; (try dsimp only at hSw); go_simp; (try with_reducible rfl))); (simp only [Act.put, List.setIfInBounds_toArray, List.set_cons_zero, List.set_cons_succ]))
          (refine wpTake (i := 14) (some 40) (v := ?_) rfl (by rfl) (by kernel_rfl) (by kernel_rfl) (by kernel_rfl) (fun _ _ _ h => h) (Or.inl ⟨by rfl, ?_⟩) (by assumption) ?_; rotate_left; (focus (intro w hSw; (try dsimp only at hSw); go_simp; (try with_reducible rfl))); (simp only [Act.put, List.setIfInBounds_toArray, List.set_cons_zero, List.set_cons_succ]))
          (refine wpTake (i := 15) (some 41) (v := ?_) rfl (by rfl) (by kernel_rfl) (by kernel_rfl) (by kernel_rfl) (fun _ _ _ h => h) (Or.inl ⟨by rfl, ?_⟩) (by assumption) ?_; rotate_left; (focus (intro w hSw; (try dsimp only at hSw); go_simp; (try with_reducible rfl))); (simp only [Act.put, List.setIfInBounds_toArray, List.set_cons_zero, List.set_cons_succ]))
          (refine wpTake (i := 16) (some 42) (v := ?_) rfl (by rfl) (by kernel_rfl) (by kernel_rfl) (by kernel_rfl) (fun _ _ _ h => h) (Or.inl ⟨by rfl, ?_⟩) (by assumption) ?_; rotate_left; (focus (intro w hSw; (try dsimp only at hSw); go_simp; (try with_reducible rfl))); (simp only [Act.put, List.setIfInBounds_toArray, List.set_cons_zero, List.set_cons_succ]))
          (refine wpAnyH_ready (rs := [17]) (by kernel_rfl) (by simp) ?_; refine AllReadyH.cons rfl (fun K hK => ?_) AllReadyH.nil; go_simp)
          (go_at_call 15; (with_reducible refine (IN _).mono ?_); rintro eq wq ⟨rfl, hbs⟩)
          (go_wp2_with fail; refine hK.out _ _ (by (try dsimp only); (repeat' (first | with_reducible assumption | with_reducible exact Below.refl _ _ | with_reducible exact keepW (by with_reducible assumption) (by with_reducible assumption) (by first | exact Nat.le_refl _ | assumption | omega | (simp; done) | (simp; omega)) | with_reducible exact keepS (by with_reducible assumption) (by with_reducible assumption) (by first | exact Nat.le_refl _ | assumption | omega | (simp; done) | (simp; omega)) | (with_reducible refine Below.setCell ?_ (by first | omega | (simp; done) | (simp; omega)) _) | (with_reducible refine below_drewN ?_ _) | (with_reducible refine Below.drew ?_) | (with_reducible refine Below.trans ?_ (Below.mono (by with_reducible assumption) (by first | omega | (simp; done) | (simp; omega)))) | (with_reducible refine Below.trans ?_ (Below.mono (Grow.below (by with_reducible assumption)) (by first | omega | (simp; done) | (simp; omega)))) | (with_reducible refine Below.alloc ?_ (by first | omega | (simp; done) | (simp; omega)) _)))) (fun hHeld => ?_); clear hK K; try (simp only [Act.put, List.setIfInBounds_toArray, List.set_cons_zero, List.set_cons_succ]))
          (apply wpTakeA (i := 18) (some 44); rfl; rfl; rfl; kernel_rfl; rfl; simp [Arith]; rfl; rfl; exact iM; exact iI; (intro nq; (try dsimp only); (repeat' (first | with_reducible assumption | with_reducible exact Below.refl _ _ | with_reducible exact keepW (by with_reducible assumption) (by with_reducible assumption) (by first | exact Nat.le_refl _ | assumption | omega | (simp; done) | (simp; omega)) | with_reducible exact keepS (by with_reducible assumption) (by with_reducible assumption) (by first | exact Nat.le_refl _ | assumption | omega | (simp; done) | (simp; omega)) | (with_reducible refine Below.setCell ?_ (by first | omega | (simp; done) | (simp; omega)) _) | (with_reducible refine below_drewN ?_ _) | (with_reducible refine Below.drew ?_) | (with_reducible refine Below.trans ?_ (Below.mono (by with_reducible assumption) (by first | omega | (simp; done) | (simp; omega)))) | (with_reducible refine Below.trans ?_ (Below.mono (Grow.below (by with_reducible assumption)) (by first | omega | (simp; done) | (simp; omega)))) | (with_reducible refine Below.alloc ?_ (by first | omega | (simp; done) | (simp; omega)) _)))); intro rq nq hq hHeld; (simp only [Act.put, List.setIfInBounds_toArray, List.set_cons_zero, List.set_cons_succ]))
          have hq1 := hq
          (apply wpTakeA (i := 19) (some 45); rfl; rfl; rfl; kernel_rfl; rfl; simp [Arith]; rfl; rfl; exact hs1; exact hq1; (intro nq; (try dsimp only); (repeat' (first | with_reducible assumption | with_reducible exact Below.refl _ _ | with_reducible exact keepW (by with_reducible assumption) (by with_reducible assumption) (by first | exact Nat.le_refl _ | assumption | omega | (simp; done) | (simp; omega)) | with_reducible exact keepS (by with_reducible assumption) (by with_reducible assumption) (by first | exact Nat.le_refl _ | assumption | omega | (simp; done) | (simp; omega)) | (with_reducible refine Below.setCell ?_ (by first | omega | (simp; done) | (simp; omega)) _) | (with_reducible refine below_drewN ?_ _) | (with_reducible refine Below.drew ?_) | (with_reducible refine Below.trans ?_ (Below.mono (by with_reducible assumption) (by first | omega | (simp; done) | (simp; omega)))) | (with_reducible refine Below.trans ?_ (Below.mono (Grow.below (by with_reducible assumption)) (by first | omega | (simp; done) | (simp; omega)))) | (with_reducible refine Below.alloc ?_ (by first | omega | (simp; done) | (simp; omega)) _)))); intro rq nq hq hHeld; (simp only [Act.put, List.setIfInBounds_toArray, List.set_cons_zero, List.set_cons_succ]))
          have hq2 := hq
          (refine wpTake (i := 20) (some 6) (v := ?_) rfl (by rfl) (by kernel_rfl) (by kernel_rfl) (by kernel_rfl) (fun _ _ _ h => h) (Or.inl ⟨by rfl, ?_⟩) (by assumption) ?_; rotate_left; (focus (intro w hSw; (try dsimp only at hSw); go_simp; (try with_reducible rfl))); (simp only [Act.put, List.setIfInBounds_toArray, List.set_cons_zero, List.set_cons_succ]))
          (refine wpAnyH_done (by kernel_rfl) ?_ _)
          go_wp2_with fail
          go_roundw
          case rel => exact ⟨k + 1, _, by omega, by go_num, rfl, by rw [kinS_succ, EK.out]; exact hq2, by have h := hbel.trans (hHeld.mono hz); simpa using h⟩
          case measure => simp [intOf]; omega
        · have hkn : k = n := by omega
          subst hkn
          clear hk hlt
          go_wp2_with fail
          go_loopw [6, 8] (fun s i wr => ∃ i0 r0 : Nat, i0 ≤ k ∧ i = .int .i64 i0 ∧ s = .float .f32 r0 ∧ Is .f32 r0 (enO v c k i0) ∧ Below w.heap.size w wr) (fun _ i _ => k - (intOf i).toNat)
          case atStart => exact ⟨0, r, Nat.zero_le _, rfl, rfl, hs, hbel⟩
          case round =>
            clear hs hbel
            obtain ⟨i, r0, hi, rfl, rfl, hs, hbel⟩ := hrel
            by_cases hlt : i < k
            · have hin : wrap64 ((i : Int) + 1) = ((i + 1 : Nat) : Int) := by unfold wrap64; omega
              have HS := Lib.hid hs
              clear hs
              go_wp2_with fail
              go_loopw [6, 9] (fun s q wx => ∃ j K r1 : Nat, j ≤ k - (i + 1) ∧ K = i + 1 + j ∧ q = .int .i64 K ∧ s = .float .f32 r1 ∧ Is .f32 r1 (enI v c i (enO v c k i) j) ∧ Below w.heap.size w wx) (fun _ q _ => k - (intOf q).toNat)
              case atStart => exact ⟨0, i + 1, r0, Nat.zero_le _, rfl, by simp, rfl, HS.out, hbel⟩
              case round =>
                clear hbel
                obtain ⟨j, K, r1, hj, hK, rfl, rfl, hs, hbel⟩ := hrel
                have hjn : K < k ↔ j < k - (i + 1) := by omega
                have HK := Lib.hid hK
                clear hK
                by_cases hlk : K < k
                · have hj2 : j < k - (i + 1) := hjn.1 hlk
                  clear hjn
                  have hwk : wrap64 ((K : Int) + 1) = ((K + 1 : Nat) : Int) := by unfold wrap64; omega
                  have hKj : K + 1 = i + 1 + (j + 1) := by rw [HK.out]; rfl
                  have HKJ := Lib.hid hKj
                  have hcf : finS c = true := by
                    have h := hc
                    unfold leastB at h
                    simp only [Bool.and_eq_true] at h
                    exact h.1
                  obtain ⟨hcx, -⟩ := fin_num32 ic hcf
                  have ixx : Is .f32 x (some x) := hcx ▸ ic
                  obtain ⟨x0, x1, x2, rI, rC, rQ, rM, rR, ⟨e0, e1, e2⟩, ⟨i0, i1, i2⟩, eI, eC, eQ, nQ, eS, eR, nR, eM, iM, eP⟩ := pot_words HA.out hlt hlk HV.out ic hc
                  have IN := fun W => sInner3 i0 i1 i2 eI W
                  have RT := fun W => sRoot3 (nn_is nQ) eR W
                  have AM := fun w => run_fo32 eM 23 w
                  have hst1 : enI v c i (enO v c k i) (j + 1) = if cmpB .gtr .f32 (some rQ) (some 0) then fo .sub .f32 (enI v c i (enO v c k i) j) (fo .quo .f32 (some rM) (some rR)) else enI v c i (enO v c k i) j := by
                    show (if cmpB .gtr .f32 (sqD v c i (i + 1 + j)) (some 0) then fo .sub .f32 (enI v c i (enO v c k i) j) (potO v c i (i + 1 + j)) else enI v c i (enO v c k i) j) = _
                    rw [← HK.out, eS, eP]
                  have iQ := nn_is nQ
                  have iR := nn_is nR
                  have iM1 : Is .f32 rM (some rM) := iM
                  have iI : Is .f32 rI (some rI) := is_fo32 (show fo .add .f32 _ _ = some rI from eI)
                  have HST := Lib.hid hst1
                  have AC := fun w => run_fo32 eC 23 w
                  have AQ := fun w => run_fo32 eQ 23 w
                  have hs1 : Is .f32 r1 (enI v c i (enO v c k i) j) := hs
                  have g0 := HV.out (7 * i) (by omega)
                  have g1 := HV.out (7 * i + 1) (by omega)
                  have g2 := HV.out (7 * i + 2) (by omega)
                  have h0 := HV.out (7 * K + 0) (by omega)
                  have h1 := HV.out (7 * K + 1) (by omega)
                  have h2 := HV.out (7 * K + 2) (by omega)
                  have LS := fun W => sLess h0 h1 h2 g0 g1 g2 W
                  rw [Nat.add_zero, Nat.add_zero, e0, e1, e2] at LS
                  obtain ⟨X, rfl⟩ : ∃ X, X = wr := ⟨wr, rfl⟩
                  have hS := hbel.size
                  have HC := Lib.hid (fun (W : World) (h : Below w.heap.size w W) => cellsK h hb HR.out hlt)
                  have HD := Lib.hid (fun (W : World) (h : Below w.heap.size w W) => cellsK h hb HR.out hlk)
                  obtain ⟨c0, c1, c2, c3, c4, c5, c6⟩ := HC.out X hbel
                  obtain ⟨d0, d1, d2, d3, d4, d5, d6⟩ := HD.out X hbel
                  have hb1 : b < X.heap.size := by omega
                  clear hKj hcf hcx ixx e0 e1 e2 i0 i1 i2 eI eC eQ nQ eS eR nR eM iM eP hst1 hs g0 g1 g2 h0 h1 h2
                  go_wp2_with fail
                  go_cut [10] (fun s10 wx => NewV X (some x0) (some x1) (some x2) s10 wx)
                  case first =>
                    go_region_with (go_at_call 16; refine (LS _).mono ?_; rintro eq wq ⟨rq0, rq1, rq2, rfl, hq0, hq1, hq2, hb⟩; obtain ⟨hc, hf⟩ := bcell hb.1; have hl : X.heap.size < wq.heap.size := (by have := hb.2; (try simp at this); omega); have HZ := Lib.hid hb; clear hb)
                    all_goals
                      go_wp2_with fail
                      go_meet
                      first | with_reducible exact NewV.behind (growD HZ.out) hq0 hq1 hq2 | with_reducible exact NewV.ahead (growD HZ.out) hq0 hq1 hq2
                  case rest =>
                    clear c0 c1 c2 c3 c4 c5 c6 d0 d1 d2 d3 d4 d5 d6
                    obtain ⟨E, y0, y1, y2, rfl, hE, m0, m1, m2, bE⟩ := hcut
                    obtain rfl := m0.notNaN
                    obtain rfl := m1.notNaN
                    obtain rfl := m2.notNaN
                    obtain ⟨Z, rfl⟩ : ∃ Z, Z = wc := ⟨wc, rfl⟩
                    have bZ : Below w.heap.size w Z := hbel.trans (bE.mono hS)
                    have hZ := bZ.size
                    obtain ⟨q0, q1, q2⟩ := row3 hE
                    have sE : E < Z.heap.size := hE.lt
                    clear LS m0 m1 m2 hE bE hbel hS
                    cases cG : cmpB .gtr .f32 (some rQ) (some 0) with
                    | false =>
                      have ST := Lib.hid (HST.out.trans (by rw [cG]))
                      go_wp2_with fail
                      (go_at_call 15; refine (IN _).mono ?_; rintro _ W1 ⟨rfl, g1⟩)
                      go_wp2_with (apply wpList_cmp; rfl; simp [Cmp]; rfl; rfl; (first | assumption | exact is_lit64 _ (by decide) | exact is_lit32 _ (by decide)); (first | assumption | exact is_lit64 _ (by decide) | exact is_lit32 _ (by decide)); intro Kq hKq; go_simp)
                      go_roundw
                      case rel => exact ⟨j + 1, K + 1, r1, by omega, HKJ.out, by go_num, rfl, by rw [ST.out]; exact hs1, bZ.trans (g1.mono hZ)⟩
                      case measure => simp [intOf]; omega
                    | true =>
                      have ST := Lib.hid (HST.out.trans (by rw [cG]))
                      go_wp2_with fail
                      (go_at_call 15; refine (IN _).mono ?_; rintro _ W1 ⟨rfl, g1⟩)
                      have bW : Below w.heap.size w W1 := bZ.trans (g1.mono hZ)
                      have hW := bW.size
                      have kC : ∀ w', Below W1.heap.size W1 w' → w'.cell? ⟨b, off + i * 7 + 6, none⟩ = some (.float .f32 (f (7 * i + 6))) := fun w' h => (HC.out w' (bW.trans (h.mono hW))).2.2.2.2.2.2
                      have kD : ∀ w', Below W1.heap.size W1 w' → w'.cell? ⟨b, off + K * 7 + 6, none⟩ = some (.float .f32 (f (7 * K + 6))) := fun w' h => (HD.out w' (bW.trans (h.mono hW))).2.2.2.2.2.2
                      go_wp2_with (apply wpList_cmp; rfl; simp [Cmp]; rfl; rfl; (first | assumption | exact is_lit64 _ (by decide) | exact is_lit32 _ (by decide)); (first | assumption | exact is_lit64 _ (by decide) | exact is_lit32 _ (by decide)); intro Kq hKq; go_simp)
                      (refine wp_region_held_drew (S := fun w' => Below W1.heap.size W1 w') (by kernel_rfl) (by (try dsimp only); (repeat' (first | with_reducible assumption | with_reducible exact Below.refl _ _ | with_reducible exact keepW (by with_reducible assumption) (by with_reducible assumption) (by first | exact Nat.le_refl _ | assumption | omega | (simp; done) | (simp; omega)) | with_reducible exact keepS (by with_reducible assumption) (by with_reducible assumption) (by first | exact Nat.le_refl _ | assumption | omega | (simp; done) | (simp; omega)) | (with_reducible refine Below.setCell ?_ (by first | omega | (simp; done) | (simp; omega)) _) | (with_reducible refine below_drewN ?_ _) | (with_reducible refine Below.drew ?_) | (with_reducible refine Below.trans ?_ (Below.mono (by with_reducible assumption) (by first | omega | (simp; done) | (simp; omega)))) | (with_reducible refine Below.trans ?_ (Below.mono (Grow.below (by with_reducible assumption)) (by first | omega | (simp; done) | (simp; omega)))) | (with_reducible refine Below.alloc ?_ (by first | omega | (simp; done) | (simp; omega)) _)))) (fun hHeld => ?_))
                      (refine wpTake (i := 0) (some 80) (v := ?_) rfl (by rfl) (by kernel_rfl) (by kernel_rfl) (by kernel_rfl) (fun _ _ _ h => h) (Or.inl ⟨by rfl, ?_⟩) (by assumption) ?_; rotate_left; (focus (intro w hSw; (try dsimp only at hSw); go_simp; (try with_reducible rfl))); (simp only [Act.put, List.setIfInBounds_toArray, List.set_cons_zero, List.set_cons_succ]))
                      (refine wpTake (i := 1) (some 81) (v := ?_) rfl (by rfl) (by kernel_rfl) (by kernel_rfl) (by kernel_rfl) (fun _ _ _ h => h) (Or.inl ⟨by rfl, ?_⟩) (by assumption) ?_; rotate_left; (focus (intro w hSw; (try dsimp only at hSw); go_simp; (try with_reducible rfl))); (simp only [Act.put, List.setIfInBounds_toArray, List.set_cons_zero, List.set_cons_succ]))
                      (refine wpTake (i := 2) (some 82) (v := ?_) rfl (by rfl) (by kernel_rfl) (by kernel_rfl) (by kernel_rfl) (fun _ _ _ h => h) (Or.inl ⟨by rfl, ?_⟩) (by assumption) ?_; rotate_left; (focus (intro w hSw; (try dsimp only at hSw); go_simp; (try with_reducible rfl))); (simp only [Act.put, List.setIfInBounds_toArray, List.set_cons_zero, List.set_cons_succ]))
                      (refine wpTake (i := 3) (some 83) (v := ?_) rfl (by rfl) (by kernel_rfl) (by kernel_rfl) (by kernel_rfl) (fun _ _ _ h => h) (Or.inl ⟨by rfl, ?_⟩) (by assumption) ?_; rotate_left; (focus (intro w hSw; (try dsimp only at hSw); go_simp; (try with_reducible rfl))); (simp only [Act.put, List.setIfInBounds_toArray, List.set_cons_zero, List.set_cons_succ]))
                      (refine wpTake (i := 4) (some 84) (v := ?_) rfl (by rfl) (by kernel_rfl) (by kernel_rfl) (by kernel_rfl) (fun _ _ _ h => h) (Or.inl ⟨by rfl, ?_⟩) (by assumption) ?_; rotate_left; (focus (intro w hSw; (try dsimp only at hSw); go_simp; (try with_reducible rfl))); (simp only [Act.put, List.setIfInBounds_toArray, List.set_cons_zero, List.set_cons_succ]))
                      (refine wpTake (i := 5) (some 85) (v := ?_) rfl (by rfl) (by kernel_rfl) (by kernel_rfl) (by kernel_rfl) (fun _ _ _ h => h) (Or.inl ⟨by rfl, ?_⟩) (by assumption) ?_; rotate_left; (focus (intro w hSw; (try dsimp only at hSw); go_simp; (try with_reducible rfl))); (simp only [Act.put, List.setIfInBounds_toArray, List.set_cons_zero, List.set_cons_succ]))
                      (refine wpTake (i := 6) (some 86) (v := ?_) rfl (by rfl) (by kernel_rfl) (by kernel_rfl) (by kernel_rfl) (fun _ _ _ h => h) (Or.inl ⟨by rfl, ?_⟩) (by assumption) ?_; rotate_left; (focus (intro w hSw; (try dsimp only at hSw); go_simp; (try with_reducible rfl))); (simp only [Act.put, List.setIfInBounds_toArray, List.set_cons_zero, List.set_cons_succ]))
                      (refine wpTake (i := 7) (some 87) (v := ?_) rfl (by rfl) (by kernel_rfl) (by kernel_rfl) (by kernel_rfl) (fun _ _ _ h => h) (Or.inl ⟨by rfl, ?_⟩) (by assumption) ?_; rotate_left; (focus (intro w hSw; (try dsimp only at hSw); go_simp; (try with_reducible rfl))); (simp only [Act.put, List.setIfInBounds_toArray, List.set_cons_zero, List.set_cons_succ]))
                      (refine wpTake (i := 8) (some 88) (v := ?_) rfl (by rfl) (by kernel_rfl) (by kernel_rfl) (by kernel_rfl) (fun _ _ _ h => h) (Or.inl ⟨by rfl, ?_⟩) (by assumption) ?_; rotate_left; (focus (intro w hSw; (try dsimp only at hSw); go_simp; (try with_reducible rfl))); (simp only [Act.put, List.setIfInBounds_toArray, List.set_cons_zero, List.set_cons_succ]))
                      (refine wpTake (i := 9) (some 89) (v := ?_) rfl (by rfl) (by kernel_rfl) (by kernel_rfl) (by kernel_rfl) (fun _ _ _ h => h) (Or.inl ⟨by rfl, ?_⟩) (by assumption) ?_; rotate_left; (focus (intro w hSw; (try dsimp only at hSw); go_simp; (try with_reducible rfl))); (simp only [Act.put, List.setIfInBounds_toArray, List.set_cons_zero, List.set_cons_succ]))
                      (refine wpTake (i := 10) (some 90) (v := ?_) rfl (by rfl) (by kernel_rfl) (by kernel_rfl) (by kernel_rfl) (fun _ _ _ h => h) (Or.inl ⟨by rfl, ?_⟩) (by assumption) ?_; rotate_left; (focus (intro w hSw; (try dsimp only at hSw); go_simp; (try with_reducible rfl))); (simp only [Act.put, List.setIfInBounds_toArray, List.set_cons_zero, List.set_cons_succ]))
                      (refine wpTake (i := 11) (some 91) (v := ?_) rfl (by rfl) (by kernel_rfl) (by kernel_rfl) (by kernel_rfl) (fun _ _ _ h => h) (Or.inl ⟨by rfl, ?_⟩) (by assumption) ?_; rotate_left; (focus (intro w hSw; (try dsimp only at hSw); go_simp; (try with_reducible rfl))); (simp only [Act.put, List.setIfInBounds_toArray, List.set_cons_zero, List.set_cons_succ]))
                      (refine wpTake (i := 12) (some 92) (v := ?_) rfl (by rfl) (by kernel_rfl) (by kernel_rfl) (by kernel_rfl) (fun _ _ _ h => h) (Or.inl ⟨by rfl, ?_⟩) (by assumption) ?_; rotate_left; (focus (intro w hSw; (try dsimp only at hSw); go_simp; (try with_reducible rfl))); (simp only [Act.put, List.setIfInBounds_toArray, List.set_cons_zero, List.set_cons_succ]))
                      (refine wpAnyH_ready (rs := [13]) (by kernel_rfl) (by simp) ?_; refine AllReadyH.cons rfl (fun K hK => ?_) AllReadyH.nil; go_simp)
                      (go_at_call 17; (with_reducible refine (RT _).mono ?_); rintro eq wq ⟨rfl, hbs⟩)
                      (go_wp2_with fail; refine hK.out _ _ (by (try dsimp only); (repeat' (first | with_reducible assumption | with_reducible exact Below.refl _ _ | with_reducible exact keepW (by with_reducible assumption) (by with_reducible assumption) (by first | exact Nat.le_refl _ | assumption | omega | (simp; done) | (simp; omega)) | with_reducible exact keepS (by with_reducible assumption) (by with_reducible assumption) (by first | exact Nat.le_refl _ | assumption | omega | (simp; done) | (simp; omega)) | (with_reducible refine Below.setCell ?_ (by first | omega | (simp; done) | (simp; omega)) _) | (with_reducible refine below_drewN ?_ _) | (with_reducible refine Below.drew ?_) | (with_reducible refine Below.trans ?_ (Below.mono (by with_reducible assumption) (by first | omega | (simp; done) | (simp; omega)))) | (with_reducible refine Below.trans ?_ (Below.mono (Grow.below (by with_reducible assumption)) (by first | omega | (simp; done) | (simp; omega)))) | (with_reducible refine Below.alloc ?_ (by first | omega | (simp; done) | (simp; omega)) _)))) (fun hHeld => ?_); clear hK K; try (simp only [Act.put, List.setIfInBounds_toArray, List.set_cons_zero, List.set_cons_succ]))
                      (apply wpTakeA (i := 14) (some 94); rfl; rfl; rfl; kernel_rfl; rfl; simp [Arith]; rfl; rfl; exact iM1; exact iR; (intro nq; (try dsimp only); (repeat' (first | with_reducible assumption | with_reducible exact Below.refl _ _ | with_reducible exact keepW (by with_reducible assumption) (by with_reducible assumption) (by first | exact Nat.le_refl _ | assumption | omega | (simp; done) | (simp; omega)) | with_reducible exact keepS (by with_reducible assumption) (by with_reducible assumption) (by first | exact Nat.le_refl _ | assumption | omega | (simp; done) | (simp; omega)) | (with_reducible refine Below.setCell ?_ (by first | omega | (simp; done) | (simp; omega)) _) | (with_reducible refine below_drewN ?_ _) | (with_reducible refine Below.drew ?_) | (with_reducible refine Below.trans ?_ (Below.mono (by with_reducible assumption) (by first | omega | (simp; done) | (simp; omega)))) | (with_reducible refine Below.trans ?_ (Below.mono (Grow.below (by with_reducible assumption)) (by first | omega | (simp; done) | (simp; omega)))) | (with_reducible refine Below.alloc ?_ (by first | omega | (simp; done) | (simp; omega)) _)))); intro rq nq hq hHeld; (simp only [Act.put, List.setIfInBounds_toArray, List.set_cons_zero, List.set_cons_succ]))
                      have hq1 := hq
                      (apply wpTakeA (i := 15) (some 95); rfl; rfl; rfl; kernel_rfl; rfl; simp [Arith]; rfl; rfl; exact hs1; exact hq1; (intro nq; (try dsimp only); (repeat' (first | with_reducible assumption | with_reducible exact Below.refl _ _ | with_reducible exact keepW (by with_reducible assumption) (by with_reducible assumption) (by first | exact Nat.le_refl _ | assumption | omega | (simp; done) | (simp; omega)) | with_reducible exact keepS (by with_reducible assumption) (by with_reducible assumption) (by first | exact Nat.le_refl _ | assumption | omega | (simp; done) | (simp; omega)) | (with_reducible refine Below.setCell ?_ (by first | omega | (simp; done) | (simp; omega)) _) | (with_reducible refine below_drewN ?_ _) | (with_reducible refine Below.drew ?_) | (with_reducible refine Below.trans ?_ (Below.mono (by with_reducible assumption) (by first | omega | (simp; done) | (simp; omega)))) | (with_reducible refine Below.trans ?_ (Below.mono (Grow.below (by with_reducible assumption)) (by first | omega | (simp; done) | (simp; omega)))) | (with_reducible refine Below.alloc ?_ (by first | omega | (simp; done) | (simp; omega)) _)))); intro rq nq hq hHeld; (simp only [Act.put, List.setIfInBounds_toArray, List.set_cons_zero, List.set_cons_succ]))
                      have hq2 := hq
                      (refine wpTake (i := 16) (some 6) (v := ?_) rfl (by rfl) (by kernel_rfl) (by kernel_rfl) (by kernel_rfl) (fun _ _ _ h => h) (Or.inl ⟨by rfl, ?_⟩) (by assumption) ?_; rotate_left; (focus (intro w hSw; (try dsimp only at hSw); go_simp; (try with_reducible rfl))); (simp only [Act.put, List.setIfInBounds_toArray, List.set_cons_zero, List.set_cons_succ]))
                      (refine wpAnyH_done (by kernel_rfl) ?_ _)
                      go_wp2_with fail
                      go_roundw
                      case rel => exact ⟨j + 1, K + 1, _, by omega, HKJ.out, by go_num, rfl, by rw [ST.out]; exact hq2, by have h := bW.trans (hHeld.mono hW); simpa using h⟩
                      case measure => simp [intOf]; omega
                · have hjm : Hid (j = k - (i + 1)) := (show j = k - (i + 1) by omega)
                  clear hjn
                  go_wp2_with fail
                  go_roundw
                  case rel => exact ⟨i + 1, r1, by omega, by go_num, rfl, by rw [hjm.out] at hs; exact hs, hbel⟩
                  case measure => simp [intOf]; omega
            · have hki : i = k := by omega
              have HS := Lib.hid (hki ▸ hs)
              clear hs
              go_wp2_with fail
              refine (sFinN HS.out _).mono ?_
              rintro _ W3 ⟨⟨r3, rfl, hr3⟩, b3⟩
              go_wp2_with fail
              go_ret2
              exact ⟨⟨_, rfl, hr3⟩, bt hbel b3⟩
end Go.Proofs.Ytcpdfibanknhhaa
