/-
  The turning momentum of bodies, of the program and of the model. No condition.
-/
import Derived.Test.YtkhinppmldodiaaSumB
import Derived.Test.YtkhinppmldodiaaVScale
import Derived.Test.YtkhinppmldodiaaVCross
import Derived.Test.YtkhinppmldodiaaHas
import Derived.Deep.RegionHeld3
namespace Go.Proofs.Ytkhinppmldodiaa
open Go.RowKit

/-- The part c of the cross of the place and the speed of the body k. -/
def crossB (v : Nat → Option Nat) : Nat → Nat → Option Nat
  | 0, k => fo .sub .f32 (fo .mul .f32 (v (7 * k + 1)) (v (7 * k + 5))) (fo .mul .f32 (v (7 * k + 2)) (v (7 * k + 4)))
  | 1, k => fo .sub .f32 (fo .mul .f32 (v (7 * k + 2)) (v (7 * k + 3))) (fo .mul .f32 (v (7 * k)) (v (7 * k + 5)))
  | _, k => fo .sub .f32 (fo .mul .f32 (v (7 * k)) (v (7 * k + 4))) (fo .mul .f32 (v (7 * k + 1)) (v (7 * k + 3)))
/-- The part c of the turning momentum of the body k. -/
def turnO (v : Nat → Option Nat) (c k : Nat) : Option Nat := fo .mul .f32 (crossB v c k) (v (7 * k + 6))
def turnS (v : Nat → Option Nat) (c n : Nat) : Option Nat := sumC (turnO v c) n
theorem turnS_succ0 (v : Nat → Option Nat) (k : Nat) : turnS v 0 (k + 1) = fo .add .f32 (turnS v 0 k) (fo .mul .f32 (crossB v 0 k) (v (7 * k + 6))) := rfl
theorem turnS_succ1 (v : Nat → Option Nat) (k : Nat) : turnS v 1 (k + 1) = fo .add .f32 (turnS v 1 k) (fo .mul .f32 (crossB v 1 k) (v (7 * k + 6))) := rfl
theorem turnS_succ2 (v : Nat → Option Nat) (k : Nat) : turnS v 2 (k + 1) = fo .add .f32 (turnS v 2 k) (fo .mul .f32 (crossB v 2 k) (v (7 * k + 6))) := rfl
def turnOk (v : Nat → Option Nat) (n : Nat) : Bool := areB v n && finV (turnS v 0 n) (turnS v 1 n) (turnS v 2 n)
def turnN (v : Nat → Option Nat) (c n : Nat) : Option Nat := if areB v n then finP (turnS v 0 n) (turnS v 1 n) (turnS v 2 n) (turnS v c n) else some 0
theorem turnN_t {v : Nat → Option Nat} {n : Nat} (h : areB v n = true) (c : Nat) : turnN v c n = finP (turnS v 0 n) (turnS v 1 n) (turnS v 2 n) (turnS v c n) := by simp [turnN, h]
theorem turnN_f {v : Nat → Option Nat} {n : Nat} (h : areB v n = false) (c : Nat) : turnN v c n = some 0 := by simp [turnN, h]
theorem turnOk_t {v : Nat → Option Nat} {n : Nat} (h : areB v n = true) : turnOk v n = finV (turnS v 0 n) (turnS v 1 n) (turnS v 2 n) := by simp [turnOk, h]
theorem turnOk_f {v : Nat → Option Nat} {n : Nat} (h : areB v n = false) : turnOk v n = false := by simp [turnOk, h]

set_option maxHeartbeats 1600000 in
theorem iTurnOf {a0 a1 a2 a3 a4 a5 a6 : Nat} {x0 x1 x2 x3 x4 x5 x6 : Option Nat} (h0 : Is .f32 a0 x0) (h1 : Is .f32 a1 x1) (h2 : Is .f32 a2 x2) (h3 : Is .f32 a3 x3) (h4 : Is .f32 a4 x4) (h5 : Is .f32 a5 x5) (h6 : Is .f32 a6 x6) (w : World) :
    Calls Try.prog 45 #[bodV a0 a1 a2 a3 a4 a5 a6] w (RetV3 (fo .mul .f32 (fo .sub .f32 (fo .mul .f32 x1 x5) (fo .mul .f32 x2 x4)) x6) (fo .mul .f32 (fo .sub .f32 (fo .mul .f32 x2 x3) (fo .mul .f32 x0 x5)) x6) (fo .mul .f32 (fo .sub .f32 (fo .mul .f32 x0 x4) (fo .mul .f32 x1 x3)) x6) w) := by
  have hst := run_store_float Try.prog
  go_enter Try.func45, Try.ntmps45
  go_wp2_with fail
  go_region_with (first | (go_at_call 64; refine (implCross h0 h1 h2 h3 h4 h5 _).mono ?_; rintro eq wq ⟨rx0, rx1, rx2, rfl, hx0, hx1, hx2, hbx⟩; obtain ⟨hcx, hfx⟩ := bcell hbx.1; have hzx := hbx.2; (try simp at hzx); have hlx : w.heap.size < wq.heap.size := by omega) | (go_at_call 49; refine (implScale (by assumption) (by assumption) (by assumption) h6 _).mono ?_; rintro eq wq ⟨rq0, rq1, rq2, rfl, hq0, hq1, hq2, hb⟩; obtain ⟨hc, hf⟩ := bcell hb.1; have hz := hb.2; try simp at hz))
  all_goals
    go_wp2
    refine bodyPost_ret (v := vecV rq0 rq1 rq2) (by simp [results, Try.results45, go_sem, hc, hzx, hcx]) rfl ⟨⟨_, _, _, rfl, hq0, hq1, hq2⟩, ?_⟩
    repeat' (first | with_reducible exact Below.refl _ _ | with_reducible assumption | (with_reducible refine Below.setCell ?_ (by first | omega | (simp; done) | (simp; omega)) _) | (with_reducible refine Below.alloc ?_ (by first | omega | (simp; done) | (simp; omega)) _) | (with_reducible refine below_drewN ?_ _) | (with_reducible refine Below.drew ?_) | (with_reducible refine Below.trans ?_ (Below.mono (by first | (with_reducible assumption) | exact Grow.below (by assumption)) (by first | omega | (simp; done) | (simp; omega)))))

theorem cellsB {w W : World} {b off m : Nat} {f : Nat → Nat} (hB : Below w.heap.size w W) (hb : b < w.heap.size) (hr : ∀ i, i < m → w.cell? ⟨b, off + i, none⟩ = some (.float .f32 (f i))) : ∀ i, i < m → W.cell? ⟨b, off + i, none⟩ = some (.float .f32 (f i)) := fun i hi => (hB.cell (p := ⟨b, off + i, none⟩) hb).trans (hr i hi)

theorem fit16 {v : Nat → Option Nat} {n : Nat} (h : areB v n = true) : n ≤ 16 := by simp [areB] at h; exact h.1

set_option maxHeartbeats 1600000 in
theorem iTurn (b off n cap : Nat) (f : Nat → Nat) (v : Nat → Option Nat) (w : World) (hn : n ≤ 1048576) (hb : b < w.heap.size) (hr : ∀ i, i < 7 * n → w.cell? ⟨b, off + i, none⟩ = some (.float .f32 (f i))) (hv : ∀ i, i < 7 * n → Is .f32 (f i) (v i)) :
    Calls Try.prog 19 #[.slice (some ⟨b, off, none⟩) n cap] w (RetVB (turnN v 0 n) (turnN v 1 n) (turnN v 2 n) (turnOk v n) w) := by
  have hst := run_store_float Try.prog
  have HR := Lib.hid hr
  have HV := Lib.hid hv
  have HA := fun (W : World) (hB : Below w.heap.size w W) => iAre b off n cap f v W hn (Nat.lt_of_lt_of_le hb hB.size) (cellsB hB hb hr) hv
  clear hr hv
  cases ha : areB v n with
  | false =>
    rw [ha] at HA
    rw [turnN_f ha, turnN_f ha, turnN_f ha, turnOk_f ha]
    go_enter Try.func19, Try.ntmps19
    go_wp2_with (go_at_call 42; refine (HA _ (by repeat' (first | with_reducible exact Below.refl _ _ | with_reducible assumption | (with_reducible refine Below.setCell ?_ (by first | omega | (simp; done) | (simp; omega)) _) | (with_reducible refine Below.alloc ?_ (by first | omega | (simp; done) | (simp; omega)) _) | (with_reducible refine below_drewN ?_ _) | (with_reducible refine Below.drew ?_) | (with_reducible refine Below.trans ?_ (Below.mono (by first | (with_reducible assumption) | exact Grow.below (by assumption)) (by first | omega | (simp; done) | (simp; omega))))))).mono ?_; rintro eq wq ⟨rfl, hb⟩; obtain ⟨hc, hf⟩ := bcell hb; have hz := hb.size; (try simp at hz); (try have hl : w.heap.size < wq.heap.size := (by omega)))
    refine bodyPost_ret (v := .tuple #[vecV 0 0 0, .bool false]) (by simp [results, Try.results19, go_sem, hc]) rfl ⟨⟨_, _, _, rfl, zero32, zero32, zero32⟩, ?_⟩
    repeat' (first | with_reducible exact Below.refl _ _ | with_reducible assumption | (with_reducible refine Below.setCell ?_ (by first | omega | (simp; done) | (simp; omega)) _) | (with_reducible refine Below.alloc ?_ (by first | omega | (simp; done) | (simp; omega)) _) | (with_reducible refine below_drewN ?_ _) | (with_reducible refine Below.drew ?_) | (with_reducible refine Below.trans ?_ (Below.mono (by first | (with_reducible assumption) | exact Grow.below (by assumption)) (by first | omega | (simp; done) | (simp; omega)))))
  | true =>
    rw [ha] at HA
    rw [turnN_t ha, turnN_t ha, turnN_t ha, turnOk_t ha]
    have h16 := fit16 ha
    have HS := fun (W : World) (hB : Below w.heap.size w W) => iSumOver 45 (turnO v 0) (turnO v 1) (turnO v 2) b off n cap f W h16 (Nat.lt_of_lt_of_le hb hB.size) (cellsB hB hb HR.out) (enters_of Try.func45 (by kernel_rfl) rfl) (fun k hk W => iTurnOf (HV.out _ (by omega)) (HV.out _ (by omega)) (HV.out _ (by omega)) (HV.out _ (by omega)) (HV.out _ (by omega)) (HV.out _ (by omega)) (HV.out _ (by omega)) W)
    go_enter Try.func19, Try.ntmps19
    go_wp2_with (first | (go_at_call 42; refine (HA _ (by repeat' (first | with_reducible exact Below.refl _ _ | with_reducible assumption | (with_reducible refine Below.setCell ?_ (by first | omega | (simp; done) | (simp; omega)) _) | (with_reducible refine Below.alloc ?_ (by first | omega | (simp; done) | (simp; omega)) _) | (with_reducible refine below_drewN ?_ _) | (with_reducible refine Below.drew ?_) | (with_reducible refine Below.trans ?_ (Below.mono (by first | (with_reducible assumption) | exact Grow.below (by assumption)) (by first | omega | (simp; done) | (simp; omega))))))).mono ?_; rintro eq wq ⟨rfl, hb⟩; obtain ⟨hc, hf⟩ := bcell hb; have hz := hb.size; (try simp at hz); (try have hl : w.heap.size < wq.heap.size := (by omega))) | (go_at_call 44; refine (HS _ (by repeat' (first | with_reducible exact Below.refl _ _ | with_reducible assumption | (with_reducible refine Below.setCell ?_ (by first | omega | (simp; done) | (simp; omega)) _) | (with_reducible refine Below.alloc ?_ (by first | omega | (simp; done) | (simp; omega)) _) | (with_reducible refine below_drewN ?_ _) | (with_reducible refine Below.drew ?_) | (with_reducible refine Below.trans ?_ (Below.mono (by first | (with_reducible assumption) | exact Grow.below (by assumption)) (by first | omega | (simp; done) | (simp; omega))))))).mono ?_; rintro eq wq ⟨⟨rq0, rq1, rq2, rfl, hq0, hq1, hq2⟩, hb⟩; obtain ⟨hc, hf⟩ := bcell hb; have hz := hb.size; (try simp at hz); (try have hl : w.heap.size < wq.heap.size := (by omega))) | (go_at_call 43; refine (iFinVec (by assumption) (by assumption) (by assumption) _).mono ?_; rintro eq wq ⟨⟨rq3, rq4, rq5, rfl, hq3, hq4, hq5⟩, hb⟩; obtain ⟨hc, hf⟩ := bcell hb; have hz := hb.size; (try simp at hz); (try have hl : w.heap.size < wq.heap.size := (by omega))))
    refine bodyPost_ret (v := .tuple #[vecV rq3 rq4 rq5, .bool (finV (turnS v 0 n) (turnS v 1 n) (turnS v 2 n))]) (by simp [results, Try.results19, go_sem, *]; rfl) rfl ⟨⟨_, _, _, rfl, hq3, hq4, hq5⟩, ?_⟩
    repeat' (first | with_reducible exact Below.refl _ _ | with_reducible assumption | (with_reducible refine Below.setCell ?_ (by first | omega | (simp; done) | (simp; omega)) _) | (with_reducible refine Below.alloc ?_ (by first | omega | (simp; done) | (simp; omega)) _) | (with_reducible refine below_drewN ?_ _) | (with_reducible refine Below.drew ?_) | (with_reducible refine Below.trans ?_ (Below.mono (by first | (with_reducible assumption) | exact Grow.below (by assumption)) (by first | omega | (simp; done) | (simp; omega)))))

set_option maxHeartbeats 16000000 in
theorem specTurn (b off n cap : Nat) (f : Nat → Nat) (v : Nat → Option Nat) (w : World) (hn : n ≤ 1048576) (hb : b < w.heap.size) (hr : ∀ i, i < 7 * n → w.cell? ⟨b, off + i, none⟩ = some (.float .f32 (f i))) (hv : ∀ i, i < 7 * n → Is .f32 (f i) (v i)) :
    Calls Try.prog 18 #[.slice (some ⟨b, off, none⟩) n cap] w (RetVB (turnN v 0 n) (turnN v 1 n) (turnN v 2 n) (turnOk v n) w) := by
  have hst := run_store_float Try.prog
  have hbb := hb
  have HR := Lib.hid hr
  have HV := Lib.hid hv
  have HA := fun (W : World) (hB : Below w.heap.size w W) => sAre b off n cap f v W hn (Nat.lt_of_lt_of_le hb hB.size) (cellsB hB hb hr) hv
  clear hr hv
  cases ha : areB v n with
  | false =>
    rw [ha] at HA
    rw [turnN_f ha, turnN_f ha, turnN_f ha, turnOk_f ha]
    go_enter Try.func18, Try.ntmps18
    go_wp2_with (go_at_call 30; refine (HA _ (by repeat' (first | with_reducible exact Below.refl _ _ | with_reducible assumption | (with_reducible refine Below.setCell ?_ (by first | omega | (simp; done) | (simp; omega)) _) | (with_reducible refine Below.alloc ?_ (by first | omega | (simp; done) | (simp; omega)) _) | (with_reducible refine below_drewN ?_ _) | (with_reducible refine Below.drew ?_) | (with_reducible refine Below.trans ?_ (Below.mono (by first | (with_reducible assumption) | exact Grow.below (by assumption)) (by first | omega | (simp; done) | (simp; omega))))))).mono ?_; rintro eq wq ⟨rfl, hb⟩; obtain ⟨hc, hf⟩ := bcell hb; have hz := hb.size; (try simp at hz); (try have hl : w.heap.size < wq.heap.size := (by omega)))
    refine bodyPost_ret (v := .tuple #[vecV 0 0 0, .bool false]) (by simp [results, Try.results18, go_sem, hc]) rfl ⟨⟨_, _, _, rfl, zero32, zero32, zero32⟩, ?_⟩
    repeat' (first | with_reducible exact Below.refl _ _ | with_reducible assumption | (with_reducible refine Below.setCell ?_ (by first | omega | (simp; done) | (simp; omega)) _) | (with_reducible refine Below.alloc ?_ (by first | omega | (simp; done) | (simp; omega)) _) | (with_reducible refine below_drewN ?_ _) | (with_reducible refine Below.drew ?_) | (with_reducible refine Below.trans ?_ (Below.mono (by first | (with_reducible assumption) | exact Grow.below (by assumption)) (by first | omega | (simp; done) | (simp; omega)))))
  | true =>
    rw [ha] at HA
    rw [turnN_t ha, turnN_t ha, turnN_t ha, turnOk_t ha]
    have h16 := fit16 ha
    go_enter Try.func18, Try.ntmps18
    go_wp2_with (go_at_call 30; refine (HA _ (by repeat' (first | with_reducible exact Below.refl _ _ | with_reducible assumption | (with_reducible refine Below.setCell ?_ (by first | omega | (simp; done) | (simp; omega)) _) | (with_reducible refine Below.alloc ?_ (by first | omega | (simp; done) | (simp; omega)) _) | (with_reducible refine below_drewN ?_ _) | (with_reducible refine Below.drew ?_) | (with_reducible refine Below.trans ?_ (Below.mono (by first | (with_reducible assumption) | exact Grow.below (by assumption)) (by first | omega | (simp; done) | (simp; omega))))))).mono ?_; rintro eq wq ⟨rfl, hb⟩; obtain ⟨hc, hf⟩ := bcell hb; have hz := hb.size; (try simp at hz); (try have hl : w.heap.size < wq.heap.size := (by omega)))
    have hR0 := rt (alloc3 w 0 0 0 33) hb
    generalize hSz : wq.heap.size = S at *
    go_loopw [5] (fun i wr => ∃ k s0 s1 s2 : Nat, k ≤ n ∧ i = .int .i64 k ∧ Is .f32 s0 (turnS v 0 k) ∧ Is .f32 s1 (turnS v 1 k) ∧ Is .f32 s2 (turnS v 2 k) ∧ wr.rowIs S 33 3 (w3 s0 s1 s2) ∧ wr.rowIs w.heap.size 33 3 (w3 0 0 0) ∧ Below w.heap.size w wr) (fun i _ => n - (intOf i).toNat)
    case atStart => exact ⟨0, 0, 0, 0, Nat.zero_le _, rfl, zero32, zero32, zero32, hSz ▸ alloc3 wq 0 0 0 _, hR0.alloc _, by repeat' (first | with_reducible exact Below.refl _ _ | with_reducible assumption | (with_reducible refine Below.setCell ?_ (by first | omega | (simp; done) | (simp; omega)) _) | (with_reducible refine Below.alloc ?_ (by first | omega | (simp; done) | (simp; omega)) _) | (with_reducible refine below_drewN ?_ _) | (with_reducible refine Below.drew ?_) | (with_reducible refine Below.trans ?_ (Below.mono (by first | (with_reducible assumption) | exact Grow.below (by assumption)) (by first | omega | (simp; done) | (simp; omega)))))⟩
    case round =>
      obtain ⟨k, s0, s1, s2, hk, rfl, j0, j1, j2, hS, hR, hbel⟩ := hrel
      by_cases hlt : k < n
      · obtain ⟨c0, c1, c2, c3, c4, c5, c6⟩ := cells7 HR.out hlt
        have HK0 := Lib.hid (fun (w' : World) (h : Below w.heap.size w w') => (h.cell (p := ⟨b, _, none⟩) hbb).trans c0)
        have HK1 := Lib.hid (fun (w' : World) (h : Below w.heap.size w w') => (h.cell (p := ⟨b, _, none⟩) hbb).trans c1)
        have HK2 := Lib.hid (fun (w' : World) (h : Below w.heap.size w w') => (h.cell (p := ⟨b, _, none⟩) hbb).trans c2)
        have HK3 := Lib.hid (fun (w' : World) (h : Below w.heap.size w w') => (h.cell (p := ⟨b, _, none⟩) hbb).trans c3)
        have HK4 := Lib.hid (fun (w' : World) (h : Below w.heap.size w w') => (h.cell (p := ⟨b, _, none⟩) hbb).trans c4)
        have HK5 := Lib.hid (fun (w' : World) (h : Below w.heap.size w w') => (h.cell (p := ⟨b, _, none⟩) hbb).trans c5)
        have HK6 := Lib.hid (fun (w' : World) (h : Below w.heap.size w w') => (h.cell (p := ⟨b, _, none⟩) hbb).trans c6)
        have hz1 := hbel.size
        have hlS := hS.lt
        have hb2 : b < wr.heap.size := by omega
        obtain ⟨t0, t1, t2⟩ := row3 hS
        have HT0 := Lib.hid (fun (X : World) (h : Below wr.heap.size wr X) => (h.cell (p := ⟨S, 0, none⟩) hlS).trans t0)
        have HT1 := Lib.hid (fun (X : World) (h : Below wr.heap.size wr X) => (h.cell (p := ⟨S, 1, none⟩) hlS).trans t1)
        have HT2 := Lib.hid (fun (X : World) (h : Below wr.heap.size wr X) => (h.cell (p := ⟨S, 2, none⟩) hlS).trans t2)
        have tf : ∀ o, wr.frozen? ⟨S, o, none⟩ = false := hS.frozen
        have HS := Lib.hid hS
        have HRR := Lib.hid hR
        have i0 : Is .f32 (f (7 * k)) (v (7 * k)) := HV.out _ (by omega)
        have i1 : Is .f32 (f (7 * k + 1)) (v (7 * k + 1)) := HV.out _ (by omega)
        have i2 : Is .f32 (f (7 * k + 2)) (v (7 * k + 2)) := HV.out _ (by omega)
        have i3 : Is .f32 (f (7 * k + 3)) (v (7 * k + 3)) := HV.out _ (by omega)
        have i4 : Is .f32 (f (7 * k + 4)) (v (7 * k + 4)) := HV.out _ (by omega)
        have i5 : Is .f32 (f (7 * k + 5)) (v (7 * k + 5)) := HV.out _ (by omega)
        have i6 : Is .f32 (f (7 * k + 6)) (v (7 * k + 6)) := HV.out _ (by omega)
        clear hS hR c0 c1 c2 c3 c4 c5 c6
        have d0 := HK0.out wr hbel
        have d1 := HK1.out wr hbel
        have d2 := HK2.out wr hbel
        have d3 := HK3.out wr hbel
        have d4 := HK4.out wr hbel
        have d5 := HK5.out wr hbel
        have d6 := HK6.out wr hbel
        go_wp2_with fail
        go_region_with (first | (go_at_call 40; refine (sCross i0 i1 i2 i3 i4 i5 _).mono ?_; rintro eq wq ⟨rx0, rx1, rx2, rfl, hx0, hx1, hx2, hbx⟩; have hzx := hbx.2; (try simp at hzx); have hBr : Below wr.heap.size wr wq := (by (repeat' (first | with_reducible assumption | with_reducible exact Below.refl _ _ | with_reducible exact keepW (by with_reducible assumption) (by with_reducible assumption) (by first | exact Nat.le_refl _ | assumption | omega | (simp; done) | (simp; omega)) | with_reducible exact keepS (by with_reducible assumption) (by with_reducible assumption) (by first | exact Nat.le_refl _ | assumption | omega | (simp; done) | (simp; omega)) | (with_reducible refine Below.setCell ?_ (by first | omega | (simp; done) | (simp; omega)) _) | (with_reducible refine below_drewN ?_ _) | (with_reducible refine Below.drew ?_) | (with_reducible refine Below.trans ?_ (Below.mono (by with_reducible assumption) (by first | omega | (simp; done) | (simp; omega)))) | (with_reducible refine Below.trans ?_ (Below.mono (Grow.below (by with_reducible assumption)) (by first | omega | (simp; done) | (simp; omega)))) | (with_reducible refine Below.alloc ?_ (by first | omega | (simp; done) | (simp; omega)) _)))); have hBw : Below w.heap.size w wq := hbel.trans (hBr.mono hz1); clear t0 t1 t2 tf d0 d1 d2 d3 d4 d5 d6; have d0 := HK0.out wq hBw; have d1 := HK1.out wq hBw; have d2 := HK2.out wq hBw; have d3 := HK3.out wq hBw; have d4 := HK4.out wq hBw; have d5 := HK5.out wq hBw; have d6 := HK6.out wq hBw; have t0 := HT0.out wq hBr; have t1 := HT1.out wq hBr; have t2 := HT2.out wq hBr; have tf : ∀ o, wq.frozen? ⟨S, o, none⟩ = false := (fun o => (hBr.frozen (p := ⟨S, o, none⟩) hlS).trans (HS.out.frozen o)); have hlS2 : S < wq.heap.size := Nat.lt_of_lt_of_le hlS hBr.size; have hb3 : b < wq.heap.size := Nat.lt_of_lt_of_le hb2 hBr.size) | (go_at_call 39; refine (sScale hx0 hx1 hx2 i6 _).mono ?_; rintro eq wq ⟨rq0, rq1, rq2, rfl, hq0, hq1, hq2, hbp⟩; have hzp := hbp.2; clear t0 t1 t2 tf d0 d1 d2 d3 d4 d5 d6 hBr hBw hlS2 hb3; have hBr : Below wr.heap.size wr wq := (by (repeat' (first | with_reducible assumption | with_reducible exact Below.refl _ _ | with_reducible exact keepW (by with_reducible assumption) (by with_reducible assumption) (by first | exact Nat.le_refl _ | assumption | omega | (simp; done) | (simp; omega)) | with_reducible exact keepS (by with_reducible assumption) (by with_reducible assumption) (by first | exact Nat.le_refl _ | assumption | omega | (simp; done) | (simp; omega)) | (with_reducible refine Below.setCell ?_ (by first | omega | (simp; done) | (simp; omega)) _) | (with_reducible refine below_drewN ?_ _) | (with_reducible refine Below.drew ?_) | (with_reducible refine Below.trans ?_ (Below.mono (by with_reducible assumption) (by first | omega | (simp; done) | (simp; omega)))) | (with_reducible refine Below.trans ?_ (Below.mono (Grow.below (by with_reducible assumption)) (by first | omega | (simp; done) | (simp; omega)))) | (with_reducible refine Below.alloc ?_ (by first | omega | (simp; done) | (simp; omega)) _)))); have hBw : Below w.heap.size w wq := hbel.trans (hBr.mono hz1); have d0 := HK0.out wq hBw; have d1 := HK1.out wq hBw; have d2 := HK2.out wq hBw; have d3 := HK3.out wq hBw; have d4 := HK4.out wq hBw; have d5 := HK5.out wq hBw; have d6 := HK6.out wq hBw; have t0 := HT0.out wq hBr; have t1 := HT1.out wq hBr; have t2 := HT2.out wq hBr; have tf : ∀ o, wq.frozen? ⟨S, o, none⟩ = false := (fun o => (hBr.frozen (p := ⟨S, o, none⟩) hlS).trans (HS.out.frozen o)); have hlS2 : S < wq.heap.size := Nat.lt_of_lt_of_le hlS hBr.size; have hb3 : b < wq.heap.size := Nat.lt_of_lt_of_le hb2 hBr.size) | (go_at_call 38; refine (sAdd j0 j1 j2 hq0 hq1 hq2 _).mono ?_; rintro eq wq ⟨ra0, ra1, ra2, rfl, ha0, ha1, ha2, hb4⟩; have hz4 := hb4.2; clear t0 t1 t2 tf d0 d1 d2 d3 d4 d5 d6 hBr hBw hlS2 hb3; have hBr : Below wr.heap.size wr wq := (by (repeat' (first | with_reducible assumption | with_reducible exact Below.refl _ _ | with_reducible exact keepW (by with_reducible assumption) (by with_reducible assumption) (by first | exact Nat.le_refl _ | assumption | omega | (simp; done) | (simp; omega)) | with_reducible exact keepS (by with_reducible assumption) (by with_reducible assumption) (by first | exact Nat.le_refl _ | assumption | omega | (simp; done) | (simp; omega)) | (with_reducible refine Below.setCell ?_ (by first | omega | (simp; done) | (simp; omega)) _) | (with_reducible refine below_drewN ?_ _) | (with_reducible refine Below.drew ?_) | (with_reducible refine Below.trans ?_ (Below.mono (by with_reducible assumption) (by first | omega | (simp; done) | (simp; omega)))) | (with_reducible refine Below.trans ?_ (Below.mono (Grow.below (by with_reducible assumption)) (by first | omega | (simp; done) | (simp; omega)))) | (with_reducible refine Below.alloc ?_ (by first | omega | (simp; done) | (simp; omega)) _)))); have hBw : Below w.heap.size w wq := hbel.trans (hBr.mono hz1); have d0 := HK0.out wq hBw; have d1 := HK1.out wq hBw; have d2 := HK2.out wq hBw; have d3 := HK3.out wq hBw; have d4 := HK4.out wq hBw; have d5 := HK5.out wq hBw; have d6 := HK6.out wq hBw; have t0 := HT0.out wq hBr; have t1 := HT1.out wq hBr; have t2 := HT2.out wq hBr; have tf : ∀ o, wq.frozen? ⟨S, o, none⟩ = false := (fun o => (hBr.frozen (p := ⟨S, o, none⟩) hlS).trans (HS.out.frozen o)); have hlS2 : S < wq.heap.size := Nat.lt_of_lt_of_le hlS hBr.size; have hb3 : b < wq.heap.size := Nat.lt_of_lt_of_le hb2 hBr.size))
        all_goals
          have hS2 := rt (rt (rth hbx.1 HS.out rfl) hbp.1) hb4.1
          have hR2 := rt (rt (rth hbx.1 HRR.out rfl) hbp.1) hb4.1
          have hlR := HRR.out.lt
          clear HS HRR HT0 HT1 HT2 d0 d1 d2 d3 d4 d5 d6 t0 t1 t2 tf
          go_wp2_with fail
          go_roundw
          case rel =>
            refine ⟨k + 1, ra0, ra1, ra2, by omega, by go_num, by rw [turnS_succ0]; exact ha0, by rw [turnS_succ1]; exact ha1, by rw [turnS_succ2]; exact ha2, set3 hS2 _ _ _, ((hR2.setOther (Nat.ne_of_lt (by exact hl)) _).setOther (Nat.ne_of_lt (by exact hl)) _).setOther (Nat.ne_of_lt (by exact hl)) _, ?_⟩
            exact ((hBw.setCell (by simp; omega) _).setCell (by simp; omega) _).setCell (by simp; omega) _
          case measure => simp [intOf]; omega
      · have hkn : Hid (k = n) := (show k = n by omega)
        have hz := hbel.size
        have hlS := hS.lt
        have hlR := hR.lt
        obtain ⟨t0, t1, t2⟩ := row3 hS
        obtain ⟨u0, u1, u2⟩ := row3 hR
        have tf : ∀ o, wr.frozen? ⟨w.heap.size, o, none⟩ = false := hR.frozen
        go_wp2_with (go_at_call 41; refine (sFinVec j0 j1 j2 _).mono ?_; rintro eq wq ⟨⟨rq3, rq4, rq5, rfl, hq3, hq4, hq5⟩, hb⟩; obtain ⟨hc, hf⟩ := bcell hb; have hz := hb.size; (try simp at hz); (try have hl : w.heap.size < wq.heap.size := (by omega)))
        refine bodyPost_ret (v := .tuple #[vecV rq3 rq4 rq5, .bool (finV (turnS v 0 k) (turnS v 1 k) (turnS v 2 k))]) (by simp [results, Try.results18, go_sem, hc, hlR, u0, u1, u2]) rfl ⟨⟨_, _, _, by rw [← hkn.out], hkn.out ▸ hq3, hkn.out ▸ hq4, hkn.out ▸ hq5⟩, ?_⟩
        repeat' (first | with_reducible exact Below.refl _ _ | with_reducible assumption | (with_reducible refine Below.setCell ?_ (by first | omega | (simp; done) | (simp; omega)) _) | (with_reducible refine Below.alloc ?_ (by first | omega | (simp; done) | (simp; omega)) _) | (with_reducible refine below_drewN ?_ _) | (with_reducible refine Below.drew ?_) | (with_reducible refine Below.trans ?_ (Below.mono (by first | (with_reducible assumption) | exact Grow.below (by assumption)) (by first | omega | (simp; done) | (simp; omega)))))
end Go.Proofs.Ytkhinppmldodiaa
