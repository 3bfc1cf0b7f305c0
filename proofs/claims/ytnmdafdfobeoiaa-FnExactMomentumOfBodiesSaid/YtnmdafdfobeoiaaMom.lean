/-
  The momentum of bodies, of the program and of the model. No condition.
-/
import Derived.Test.YtnmdafdfobeoiaaSumB
import Derived.Test.YtnmdafdfobeoiaaVScale
namespace Go.Proofs.Ytnmdafdfobeoiaa
open Go.RowKit

/-- The part c of the momentum of the body k. -/
def momO (v : Nat → Option Nat) (c k : Nat) : Option Nat := fo .mul .f32 (v (7 * k + 3 + c)) (v (7 * k + 6))
def momS (v : Nat → Option Nat) (c n : Nat) : Option Nat := sumC (momO v c) n
theorem momS_succ0 (v : Nat → Option Nat) (k : Nat) : momS v 0 (k + 1) = fo .add .f32 (momS v 0 k) (fo .mul .f32 (v (7 * k + 3)) (v (7 * k + 6))) := rfl
theorem momS_succ1 (v : Nat → Option Nat) (k : Nat) : momS v 1 (k + 1) = fo .add .f32 (momS v 1 k) (fo .mul .f32 (v (7 * k + 4)) (v (7 * k + 6))) := rfl
theorem momS_succ2 (v : Nat → Option Nat) (k : Nat) : momS v 2 (k + 1) = fo .add .f32 (momS v 2 k) (fo .mul .f32 (v (7 * k + 5)) (v (7 * k + 6))) := rfl
def momOk (v : Nat → Option Nat) (n : Nat) : Bool := areB v n && finV (momS v 0 n) (momS v 1 n) (momS v 2 n)
def momN (v : Nat → Option Nat) (c n : Nat) : Option Nat := if areB v n then finP (momS v 0 n) (momS v 1 n) (momS v 2 n) (momS v c n) else some 0
theorem momN_t {v : Nat → Option Nat} {n : Nat} (h : areB v n = true) (c : Nat) : momN v c n = finP (momS v 0 n) (momS v 1 n) (momS v 2 n) (momS v c n) := by simp [momN, h]
theorem momN_f {v : Nat → Option Nat} {n : Nat} (h : areB v n = false) (c : Nat) : momN v c n = some 0 := by simp [momN, h]
theorem momOk_t {v : Nat → Option Nat} {n : Nat} (h : areB v n = true) : momOk v n = finV (momS v 0 n) (momS v 1 n) (momS v 2 n) := by simp [momOk, h]
theorem momOk_f {v : Nat → Option Nat} {n : Nat} (h : areB v n = false) : momOk v n = false := by simp [momOk, h]

theorem iMomOf {a0 a1 a2 a3 a4 a5 a6 : Nat} {x3 x4 x5 x6 : Option Nat} (h3 : Is .f32 a3 x3) (h4 : Is .f32 a4 x4) (h5 : Is .f32 a5 x5) (h6 : Is .f32 a6 x6) (w : World) :
    Calls Try.prog 39 #[bodV a0 a1 a2 a3 a4 a5 a6] w (RetV3 (fo .mul .f32 x3 x6) (fo .mul .f32 x4 x6) (fo .mul .f32 x5 x6) w) := by
  have hst := run_store_float Try.prog
  go_enter Try.func39, Try.ntmps39
  go_wp2_with (go_at_call 54; refine (implScale h3 h4 h5 h6 _).mono ?_; rintro eq wq ⟨rq0, rq1, rq2, rfl, hq0, hq1, hq2, hb⟩; obtain ⟨hc, hf⟩ := bcell hb.1; have hz := hb.2; try simp at hz)
  refine bodyPost_ret (v := vecV rq0 rq1 rq2) (by simp [results, Try.results39, go_sem, hc, hz]) rfl ⟨⟨_, _, _, rfl, hq0, hq1, hq2⟩, ?_⟩
  repeat' (first | with_reducible exact Below.refl _ _ | with_reducible assumption | (with_reducible refine Below.setCell ?_ (by first | omega | (simp; done) | (simp; omega)) _) | (with_reducible refine Below.alloc ?_ (by first | omega | (simp; done) | (simp; omega)) _) | (with_reducible refine below_drewN ?_ _) | (with_reducible refine Below.trans ?_ (Below.mono (by first | (with_reducible assumption) | exact Grow.below (by assumption)) (by first | omega | (simp; done) | (simp; omega)))))

theorem cellsB {w W : World} {b off m : Nat} {f : Nat → Nat} (hB : Below w.heap.size w W) (hb : b < w.heap.size) (hr : ∀ i, i < m → w.cell? ⟨b, off + i, none⟩ = some (.float .f32 (f i))) : ∀ i, i < m → W.cell? ⟨b, off + i, none⟩ = some (.float .f32 (f i)) := fun i hi => (hB.cell (p := ⟨b, off + i, none⟩) hb).trans (hr i hi)

theorem fit16 {v : Nat → Option Nat} {n : Nat} (h : areB v n = true) : n ≤ 16 := by simp [areB] at h; exact h.1

set_option maxHeartbeats 1600000 in
theorem iMom (b off n cap : Nat) (f : Nat → Nat) (v : Nat → Option Nat) (w : World) (hn : n ≤ 1048576) (hb : b < w.heap.size) (hr : ∀ i, i < 7 * n → w.cell? ⟨b, off + i, none⟩ = some (.float .f32 (f i))) (hv : ∀ i, i < 7 * n → Is .f32 (f i) (v i)) :
    Calls Try.prog 19 #[.slice (some ⟨b, off, none⟩) n cap] w (RetVB (momN v 0 n) (momN v 1 n) (momN v 2 n) (momOk v n) w) := by
  have hst := run_store_float Try.prog
  have HR := Lib.hid hr
  have HV := Lib.hid hv
  have HA := fun (W : World) (hB : Below w.heap.size w W) => iAre b off n cap f v W hn (Nat.lt_of_lt_of_le hb hB.size) (cellsB hB hb hr) hv
  clear hr hv
  cases ha : areB v n with
  | false =>
    rw [ha] at HA
    rw [momN_f ha, momN_f ha, momN_f ha, momOk_f ha]
    go_enter Try.func19, Try.ntmps19
    go_wp2_with (go_at_call 11; refine (HA _ (by repeat' (first | with_reducible exact Below.refl _ _ | with_reducible assumption | (with_reducible refine Below.setCell ?_ (by first | omega | (simp; done) | (simp; omega)) _) | (with_reducible refine Below.alloc ?_ (by first | omega | (simp; done) | (simp; omega)) _) | (with_reducible refine below_drewN ?_ _) | (with_reducible refine Below.trans ?_ (Below.mono (by first | (with_reducible assumption) | exact Grow.below (by assumption)) (by first | omega | (simp; done) | (simp; omega))))))).mono ?_; rintro eq wq ⟨rfl, hb⟩; obtain ⟨hc, hf⟩ := bcell hb; have hz := hb.size; (try simp at hz); (try have hl : w.heap.size < wq.heap.size := by omega))
    refine bodyPost_ret (v := .tuple #[vecV 0 0 0, .bool false]) (by simp [results, Try.results19, go_sem, hc]) rfl ⟨⟨_, _, _, rfl, zero32, zero32, zero32⟩, ?_⟩
    repeat' (first | with_reducible exact Below.refl _ _ | with_reducible assumption | (with_reducible refine Below.setCell ?_ (by first | omega | (simp; done) | (simp; omega)) _) | (with_reducible refine Below.alloc ?_ (by first | omega | (simp; done) | (simp; omega)) _) | (with_reducible refine below_drewN ?_ _) | (with_reducible refine Below.trans ?_ (Below.mono (by first | (with_reducible assumption) | exact Grow.below (by assumption)) (by first | omega | (simp; done) | (simp; omega)))))
  | true =>
    rw [ha] at HA
    rw [momN_t ha, momN_t ha, momN_t ha, momOk_t ha]
    have h16 := fit16 ha
    have HS := fun (W : World) (hB : Below w.heap.size w W) => iSumOver 39 (momO v 0) (momO v 1) (momO v 2) b off n cap f W h16 (Nat.lt_of_lt_of_le hb hB.size) (cellsB hB hb HR.out) (enters_of Try.func39 (by kernel_rfl) rfl) (fun k hk W => iMomOf (HV.out _ (by omega)) (HV.out _ (by omega)) (HV.out _ (by omega)) (HV.out _ (by omega)) W)
    go_enter Try.func19, Try.ntmps19
    go_wp2_with (first | (go_at_call 11; refine (HA _ (by repeat' (first | with_reducible exact Below.refl _ _ | with_reducible assumption | (with_reducible refine Below.setCell ?_ (by first | omega | (simp; done) | (simp; omega)) _) | (with_reducible refine Below.alloc ?_ (by first | omega | (simp; done) | (simp; omega)) _) | (with_reducible refine below_drewN ?_ _) | (with_reducible refine Below.trans ?_ (Below.mono (by first | (with_reducible assumption) | exact Grow.below (by assumption)) (by first | omega | (simp; done) | (simp; omega))))))).mono ?_; rintro eq wq ⟨rfl, hb⟩; obtain ⟨hc, hf⟩ := bcell hb; have hz := hb.size; (try simp at hz); (try have hl : w.heap.size < wq.heap.size := by omega)) | (go_at_call 38; refine (HS _ (by repeat' (first | with_reducible exact Below.refl _ _ | with_reducible assumption | (with_reducible refine Below.setCell ?_ (by first | omega | (simp; done) | (simp; omega)) _) | (with_reducible refine Below.alloc ?_ (by first | omega | (simp; done) | (simp; omega)) _) | (with_reducible refine below_drewN ?_ _) | (with_reducible refine Below.trans ?_ (Below.mono (by first | (with_reducible assumption) | exact Grow.below (by assumption)) (by first | omega | (simp; done) | (simp; omega))))))).mono ?_; rintro eq wq ⟨⟨rq0, rq1, rq2, rfl, hq0, hq1, hq2⟩, hb⟩; obtain ⟨hc, hf⟩ := bcell hb; have hz := hb.size; (try simp at hz); (try have hl : w.heap.size < wq.heap.size := by omega)) | (go_at_call 37; refine (iFinVec (by assumption) (by assumption) (by assumption) _).mono ?_; rintro eq wq ⟨⟨rq3, rq4, rq5, rfl, hq3, hq4, hq5⟩, hb⟩; obtain ⟨hc, hf⟩ := bcell hb; have hz := hb.size; (try simp at hz); (try have hl : w.heap.size < wq.heap.size := by omega)))
    refine bodyPost_ret (v := .tuple #[vecV rq3 rq4 rq5, .bool (finV (momS v 0 n) (momS v 1 n) (momS v 2 n))]) (by simp [results, Try.results19, go_sem, *]; rfl) rfl ⟨⟨_, _, _, rfl, hq3, hq4, hq5⟩, ?_⟩
    repeat' (first | with_reducible exact Below.refl _ _ | with_reducible assumption | (with_reducible refine Below.setCell ?_ (by first | omega | (simp; done) | (simp; omega)) _) | (with_reducible refine Below.alloc ?_ (by first | omega | (simp; done) | (simp; omega)) _) | (with_reducible refine below_drewN ?_ _) | (with_reducible refine Below.trans ?_ (Below.mono (by first | (with_reducible assumption) | exact Grow.below (by assumption)) (by first | omega | (simp; done) | (simp; omega)))))

set_option maxHeartbeats 1600000 in
theorem specMom (b off n cap : Nat) (f : Nat → Nat) (v : Nat → Option Nat) (w : World) (hn : n ≤ 1048576) (hb : b < w.heap.size) (hr : ∀ i, i < 7 * n → w.cell? ⟨b, off + i, none⟩ = some (.float .f32 (f i))) (hv : ∀ i, i < 7 * n → Is .f32 (f i) (v i)) :
    Calls Try.prog 18 #[.slice (some ⟨b, off, none⟩) n cap] w (RetVB (momN v 0 n) (momN v 1 n) (momN v 2 n) (momOk v n) w) := by
  have hst := run_store_float Try.prog
  have HR := Lib.hid hr
  have HV := Lib.hid hv
  have HA := fun (W : World) (hB : Below w.heap.size w W) => sAre b off n cap f v W hn (Nat.lt_of_lt_of_le hb hB.size) (cellsB hB hb hr) hv
  clear hr hv
  cases ha : areB v n with
  | false =>
    rw [ha] at HA
    rw [momN_f ha, momN_f ha, momN_f ha, momOk_f ha]
    go_enter Try.func18, Try.ntmps18
    go_wp2_with (go_at_call 23; refine (HA _ (by repeat' (first | with_reducible exact Below.refl _ _ | with_reducible assumption | (with_reducible refine Below.setCell ?_ (by first | omega | (simp; done) | (simp; omega)) _) | (with_reducible refine Below.alloc ?_ (by first | omega | (simp; done) | (simp; omega)) _) | (with_reducible refine below_drewN ?_ _) | (with_reducible refine Below.trans ?_ (Below.mono (by first | (with_reducible assumption) | exact Grow.below (by assumption)) (by first | omega | (simp; done) | (simp; omega))))))).mono ?_; rintro eq wq ⟨rfl, hb⟩; obtain ⟨hc, hf⟩ := bcell hb; have hz := hb.size; (try simp at hz); (try have hl : w.heap.size < wq.heap.size := by omega))
    refine bodyPost_ret (v := .tuple #[vecV 0 0 0, .bool false]) (by simp [results, Try.results18, go_sem, hc]) rfl ⟨⟨_, _, _, rfl, zero32, zero32, zero32⟩, ?_⟩
    repeat' (first | with_reducible exact Below.refl _ _ | with_reducible assumption | (with_reducible refine Below.setCell ?_ (by first | omega | (simp; done) | (simp; omega)) _) | (with_reducible refine Below.alloc ?_ (by first | omega | (simp; done) | (simp; omega)) _) | (with_reducible refine below_drewN ?_ _) | (with_reducible refine Below.trans ?_ (Below.mono (by first | (with_reducible assumption) | exact Grow.below (by assumption)) (by first | omega | (simp; done) | (simp; omega)))))
  | true =>
    rw [ha] at HA
    rw [momN_t ha, momN_t ha, momN_t ha, momOk_t ha]
    have h16 := fit16 ha
    go_enter Try.func18, Try.ntmps18
    go_wp2_with (go_at_call 23; refine (HA _ (by repeat' (first | with_reducible exact Below.refl _ _ | with_reducible assumption | (with_reducible refine Below.setCell ?_ (by first | omega | (simp; done) | (simp; omega)) _) | (with_reducible refine Below.alloc ?_ (by first | omega | (simp; done) | (simp; omega)) _) | (with_reducible refine below_drewN ?_ _) | (with_reducible refine Below.trans ?_ (Below.mono (by first | (with_reducible assumption) | exact Grow.below (by assumption)) (by first | omega | (simp; done) | (simp; omega))))))).mono ?_; rintro eq wq ⟨rfl, hb⟩; obtain ⟨hc, hf⟩ := bcell hb; have hz := hb.size; (try simp at hz); (try have hl : w.heap.size < wq.heap.size := by omega))
    have hR0 := rt (alloc3 w 0 0 0 36) hb
    generalize hSz : wq.heap.size = S at *
    go_loopw [5] (fun i wr => ∃ k s0 s1 s2 : Nat, k ≤ n ∧ i = .int .i64 k ∧ Is .f32 s0 (momS v 0 k) ∧ Is .f32 s1 (momS v 1 k) ∧ Is .f32 s2 (momS v 2 k) ∧ wr.rowIs S 36 3 (w3 s0 s1 s2) ∧ wr.rowIs w.heap.size 36 3 (w3 0 0 0) ∧ Below w.heap.size w wr) (fun i _ => n - (intOf i).toNat)
    case atStart => exact ⟨0, 0, 0, 0, Nat.zero_le _, rfl, zero32, zero32, zero32, hSz ▸ alloc3 wq 0 0 0 _, hR0.alloc _, by repeat' (first | with_reducible exact Below.refl _ _ | with_reducible assumption | (with_reducible refine Below.setCell ?_ (by first | omega | (simp; done) | (simp; omega)) _) | (with_reducible refine Below.alloc ?_ (by first | omega | (simp; done) | (simp; omega)) _) | (with_reducible refine below_drewN ?_ _) | (with_reducible refine Below.trans ?_ (Below.mono (by first | (with_reducible assumption) | exact Grow.below (by assumption)) (by first | omega | (simp; done) | (simp; omega)))))⟩
    case round =>
      obtain ⟨k, s0, s1, s2, hk, rfl, j0, j1, j2, hS, hR, hbel⟩ := hrel
      by_cases hlt : k < n
      · obtain ⟨c0, c1, c2, c3, c4, c5, c6⟩ := cells7 HR.out hlt
        rw [← hbel.cell (by assumption)] at c0 c1 c2 c3 c4 c5 c6
        have hz1 := hbel.size
        have hlS := hS.lt
        have hb2 : b < wr.heap.size := by omega
        obtain ⟨t0, t1, t2⟩ := row3 hS
        have tf : ∀ o, wr.frozen? ⟨S, o, none⟩ = false := hS.frozen
        have HS := Lib.hid hS
        have HRR := Lib.hid hR
        have i3 : Is .f32 (f (7 * k + 3)) (v (7 * k + 3)) := HV.out _ (by omega)
        have i4 : Is .f32 (f (7 * k + 4)) (v (7 * k + 4)) := HV.out _ (by omega)
        have i5 : Is .f32 (f (7 * k + 5)) (v (7 * k + 5)) := HV.out _ (by omega)
        have i6 : Is .f32 (f (7 * k + 6)) (v (7 * k + 6)) := HV.out _ (by omega)
        clear hS hR
        go_wp2_with fail
        go_region_with (first | (go_at_call 35; refine (sScale i3 i4 i5 i6 _).mono ?_; rintro eq wq ⟨rq0, rq1, rq2, rfl, hq0, hq1, hq2, hbp⟩; have hS1 := rth hbp.1 HS.out rfl; have hR1 := rth hbp.1 HRR.out rfl; obtain ⟨t0', t1', t2'⟩ := row3 hS1; have tf' : ∀ o, wq.frozen? ⟨S, o, none⟩ = false := hS1.frozen; have hl' := hS1.lt; have HS1 := Lib.hid hS1; clear hS1; have HR1 := Lib.hid hR1; clear hR1) | (go_at_call 34; refine (sAdd (by assumption) (by assumption) (by assumption) (by assumption) (by assumption) (by assumption) _).mono ?_; rintro eq wq ⟨rq0, rq1, rq2, rfl, hq0, hq1, hq2, hb⟩; obtain ⟨hc, hf⟩ := bcell hb.1; have hz := hb.2; try simp at hz))
        all_goals
          have hS2 := rt HS1.out hb.1
          have hR2 := rt HR1.out hb.1
          clear HS HS1 HRR HR1
          go_wp2
          go_roundw
          case rel =>
            refine ⟨k + 1, rq0, rq1, rq2, by omega, by go_num, by rw [momS_succ0]; exact hq0, by rw [momS_succ1]; exact hq1, by rw [momS_succ2]; exact hq2, set3 hS2 _ _ _, ((hR2.setOther (Nat.ne_of_lt (by exact hl)) _).setOther (Nat.ne_of_lt (by exact hl)) _).setOther (Nat.ne_of_lt (by exact hl)) _, ?_⟩
            have hb3 : Below w.heap.size w _ := hbel.drew.trans (hbp.1.mono (by simp; omega))
            have hb4 := hb3.trans (hb.1.mono (by omega))
            exact ((hb4.setCell (by simp; omega) _).setCell (by simp; omega) _).setCell (by simp; omega) _
          case measure => simp [intOf]; omega
      · have hkn : Hid (k = n) := (show k = n by omega)
        have hz := hbel.size
        have hlS := hS.lt
        have hlR := hR.lt
        obtain ⟨t0, t1, t2⟩ := row3 hS
        obtain ⟨u0, u1, u2⟩ := row3 hR
        have tf : ∀ o, wr.frozen? ⟨w.heap.size, o, none⟩ = false := hR.frozen
        go_wp2_with (go_at_call 36; refine (sFinVec j0 j1 j2 _).mono ?_; rintro eq wq ⟨⟨rq3, rq4, rq5, rfl, hq3, hq4, hq5⟩, hb⟩; obtain ⟨hc, hf⟩ := bcell hb; have hz := hb.size; (try simp at hz); (try have hl : w.heap.size < wq.heap.size := by omega))
        refine bodyPost_ret (v := .tuple #[vecV rq3 rq4 rq5, .bool (finV (momS v 0 k) (momS v 1 k) (momS v 2 k))]) (by simp [results, Try.results18, go_sem, hc, hlR, u0, u1, u2]) rfl ⟨⟨_, _, _, by rw [← hkn.out], hkn.out ▸ hq3, hkn.out ▸ hq4, hkn.out ▸ hq5⟩, ?_⟩
        repeat' (first | with_reducible exact Below.refl _ _ | with_reducible assumption | (with_reducible refine Below.setCell ?_ (by first | omega | (simp; done) | (simp; omega)) _) | (with_reducible refine Below.alloc ?_ (by first | omega | (simp; done) | (simp; omega)) _) | (with_reducible refine below_drewN ?_ _) | (with_reducible refine Below.trans ?_ (Below.mono (by first | (with_reducible assumption) | exact Grow.below (by assumption)) (by first | omega | (simp; done) | (simp; omega)))))
end Go.Proofs.Ytnmdafdfobeoiaa
