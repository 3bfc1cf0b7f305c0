/-
  The centre of bodies, of the model: its loop. No condition.
-/
import Derived.Test.YtkhinppmldodiaaCen
namespace Go.Proofs.Ytkhinppmldodiaa
open Go.RowKit

theorem keep3 {w : World} {b A : Nat} {t : TypeId} {g : Nat → Value} (h : w.rowIs b t 3 g) (ne : b ≠ A) (s0 s1 s2 : Nat) :
    (((w.setCell ⟨A, 0, none⟩ (.float .f32 s0)).setCell ⟨A, 1, none⟩ (.float .f32 s1)).setCell ⟨A, 2, none⟩ (.float .f32 s2)).rowIs b t 3 g :=
  ((h.setOther (a := ⟨A, 0, none⟩) ne _).setOther (a := ⟨A, 1, none⟩) ne _).setOther (a := ⟨A, 2, none⟩) ne _
theorem below3 {B A : Nat} {W w : World} (h : Below B W w) (hA : B ≤ A) (s0 s1 s2 : Nat) :
    Below B W (((w.setCell ⟨A, 0, none⟩ (.float .f32 s0)).setCell ⟨A, 1, none⟩ (.float .f32 s1)).setCell ⟨A, 2, none⟩ (.float .f32 s2)) :=
  ((h.setCell (by exact hA) _).setCell (by exact hA) _).setCell (by exact hA) _

set_option maxHeartbeats 32000000 in
theorem specCen (b off n cap : Nat) (f : Nat → Nat) (v : Nat → Option Nat) (w : World) (hn : n ≤ 1048576) (hb : b < w.heap.size) (hr : ∀ i, i < 7 * n → w.cell? ⟨b, off + i, none⟩ = some (.float .f32 (f i))) (hv : ∀ i, i < 7 * n → Is .f32 (f i) (v i)) :
    Calls Try.prog 21 #[.slice (some ⟨b, off, none⟩) n cap] w (RetV2 v n w) := by
  have hst := run_store_float Try.prog
  have HR := Lib.hid hr
  have HV := Lib.hid hv
  have HM := fun (W : World) (hB : Below w.heap.size w W) => specMass b off n cap f v W hn (Nat.lt_of_lt_of_le hb hB.size) (cellsB hB hb hr) hv
  clear hr hv
  cases ha : massOk v n with
  | false =>
    rw [ha] at HM
    have hc0 : cenOk v n = false := by simp [cenOk, ha]
    have hN := cenN_f hc0
    go_enter Try.func21, Try.ntmps21
    go_wp2_with (go_at_call 47; refine (HM _ (by repeat' (first | with_reducible exact Below.refl _ _ | with_reducible assumption | (with_reducible refine Below.setCell ?_ (by first | omega | (simp; done) | (simp; omega)) _) | (with_reducible refine Below.alloc ?_ (by first | omega | (simp; done) | (simp; omega)) _) | (with_reducible refine below_drewN ?_ _) | (with_reducible refine Below.drew ?_) | (with_reducible refine Below.trans ?_ (Below.mono (by first | (with_reducible assumption) | exact Grow.below (by assumption)) (by first | omega | (simp; done) | (simp; omega))))))).mono ?_; rintro eq wq ⟨⟨rm, rfl, hm⟩, hb⟩; obtain ⟨hc, hf⟩ := bcell hb; have hz := hb.size; (try simp at hz); (try have hl : w.heap.size < wq.heap.size := (by omega)))
    obtain ⟨rr1, rr2⟩ := two3 hb
    obtain ⟨p0, p1, p2⟩ := row3 rr1
    obtain ⟨q0, q1, q2⟩ := row3 rr2
    refine bodyPost_ret (v := .tuple #[vecV 0 0 0, vecV 0 0 0, .bool false]) (by simp [results, Try.results21, go_sem, p0, p1, p2, q0, q1, q2]) rfl ⟨⟨_, _, _, _, _, _, by rw [hc0], by rw [hN]; exact zero32, by rw [hN]; exact zero32, by rw [hN]; exact zero32, by rw [hN]; exact zero32, by rw [hN]; exact zero32, by rw [hN]; exact zero32⟩, ?_⟩
    repeat' (first | with_reducible exact Below.refl _ _ | with_reducible assumption | (with_reducible refine Below.setCell ?_ (by first | omega | (simp; done) | (simp; omega)) _) | (with_reducible refine Below.alloc ?_ (by first | omega | (simp; done) | (simp; omega)) _) | (with_reducible refine below_drewN ?_ _) | (with_reducible refine Below.drew ?_) | (with_reducible refine Below.trans ?_ (Below.mono (by first | (with_reducible assumption) | exact Grow.below (by assumption)) (by first | omega | (simp; done) | (simp; omega)))))
  | true =>
    rw [ha] at HM
    have h16 := fit16 (mass_are ha)
    go_enter Try.func21, Try.ntmps21
    go_wp2_with (first | (go_at_call 47; refine (HM _ (by repeat' (first | with_reducible exact Below.refl _ _ | with_reducible assumption | (with_reducible refine Below.setCell ?_ (by first | omega | (simp; done) | (simp; omega)) _) | (with_reducible refine Below.alloc ?_ (by first | omega | (simp; done) | (simp; omega)) _) | (with_reducible refine below_drewN ?_ _) | (with_reducible refine Below.drew ?_) | (with_reducible refine Below.trans ?_ (Below.mono (by first | (with_reducible assumption) | exact Grow.below (by assumption)) (by first | omega | (simp; done) | (simp; omega))))))).mono ?_; rintro eq wq ⟨⟨rm, rfl, hm⟩, hb⟩; obtain ⟨hc, hf⟩ := bcell hb; have hz := hb.size; (try simp at hz); (try have hl : w.heap.size < wq.heap.size := (by omega))) | fail)
    obtain ⟨rr1, rr2⟩ := two3 hb
    have hm1 : Below w.heap.size w wq := by repeat' (first | with_reducible exact Below.refl _ _ | with_reducible assumption | (with_reducible refine Below.setCell ?_ (by first | omega | (simp; done) | (simp; omega)) _) | (with_reducible refine Below.alloc ?_ (by first | omega | (simp; done) | (simp; omega)) _) | (with_reducible refine below_drewN ?_ _) | (with_reducible refine Below.drew ?_) | (with_reducible refine Below.trans ?_ (Below.mono (by first | (with_reducible assumption) | exact Grow.below (by assumption)) (by first | omega | (simp; done) | (simp; omega)))))
    have hlR := rr2.lt
    clear hb hc hf
    have ra0 := (alloc3 wq 0 0 0 33).alloc zer3
    have rs0 := alloc3 (wq.alloc zer3) 0 0 0 33
    rw [show (wq.alloc zer3).heap.size = wq.heap.size + 1 by simp] at rs0
    have rr1' := (rr1.alloc zer3).alloc zer3
    have rr2' := (rr2.alloc zer3).alloc zer3
    have hm2 : Below w.heap.size w ((wq.alloc zer3).alloc zer3) := by repeat' (first | with_reducible exact Below.refl _ _ | with_reducible assumption | (with_reducible refine Below.setCell ?_ (by first | omega | (simp; done) | (simp; omega)) _) | (with_reducible refine Below.alloc ?_ (by first | omega | (simp; done) | (simp; omega)) _) | (with_reducible refine below_drewN ?_ _) | (with_reducible refine Below.drew ?_) | (with_reducible refine Below.trans ?_ (Below.mono (by first | (with_reducible assumption) | exact Grow.below (by assumption)) (by first | omega | (simp; done) | (simp; omega)))))
    clear rr1 rr2
    generalize hAe : wq.heap.size = A at *
    go_loopw [9] (fun i wr => ∃ k s0 s1 s2 u0 u1 u2 : Nat, k ≤ n ∧ i = .int .i64 k ∧ Is .f32 s0 (wgtS v 0 k) ∧ Is .f32 s1 (wgtS v 1 k) ∧ Is .f32 s2 (wgtS v 2 k) ∧ Is .f32 u0 (wgtS v 3 k) ∧ Is .f32 u1 (wgtS v 4 k) ∧ Is .f32 u2 (wgtS v 5 k) ∧ wr.rowIs A 33 3 (w3 s0 s1 s2) ∧ wr.rowIs (A + 1) 33 3 (w3 u0 u1 u2) ∧ wr.rowIs w.heap.size 33 3 (w3 0 0 0) ∧ wr.rowIs (w.heap.size + 1) 33 3 (w3 0 0 0) ∧ Below w.heap.size w wr) (fun i _ => n - (intOf i).toNat)
    case atStart => exact ⟨0, 0, 0, 0, 0, 0, 0, Nat.zero_le _, rfl, zero32, zero32, zero32, zero32, zero32, zero32, ra0, rs0, rr1', rr2', hm2⟩
    case round =>
      obtain ⟨k, s0, s1, s2, u0, u1, u2, hk, rfl, j0, j1, j2, j3, j4, j5, hA, hB, hP, hQ, hbel⟩ := hrel
      by_cases hlt : k < n
      · obtain ⟨c0, c1, c2, c3, c4, c5, c6⟩ := cells7 HR.out hlt
        rw [← hbel.cell (by assumption)] at c0 c1 c2 c6
        have hz1 := hbel.size
        have hlS := hB.lt
        have hb2 : b < wr.heap.size := by omega
        obtain ⟨t0, t1, t2⟩ := row3 hA
        have tf : ∀ o, wr.frozen? ⟨A, o, none⟩ = false := hA.frozen
        have HA := Lib.hid hA
        have HB := Lib.hid hB
        have HP := Lib.hid hP
        have HQ := Lib.hid hQ
        have i0 : Is .f32 (f (7 * k)) (v (7 * k)) := HV.out _ (by omega)
        have i1 : Is .f32 (f (7 * k + 1)) (v (7 * k + 1)) := HV.out _ (by omega)
        have i2 : Is .f32 (f (7 * k + 2)) (v (7 * k + 2)) := HV.out _ (by omega)
        have i3 : Is .f32 (f (7 * k + 3)) (v (7 * k + 3)) := HV.out _ (by omega)
        have i4 : Is .f32 (f (7 * k + 4)) (v (7 * k + 4)) := HV.out _ (by omega)
        have i5 : Is .f32 (f (7 * k + 5)) (v (7 * k + 5)) := HV.out _ (by omega)
        have i6 : Is .f32 (f (7 * k + 6)) (v (7 * k + 6)) := HV.out _ (by omega)
        clear hA hB hP hQ ra0 rs0 rr1' rr2' hm2 c3 c4 c5
        go_wp2_with fail
        go_cut [9] (fun s9 wx => ∃ r0 r1 r2 : Nat, s9 = .int .i64 k ∧ Is .f32 r0 (wgtS v 0 (k + 1)) ∧ Is .f32 r1 (wgtS v 1 (k + 1)) ∧ Is .f32 r2 (wgtS v 2 (k + 1)) ∧ wx.rowIs A 33 3 (w3 r0 r1 r2) ∧ wx.rowIs (A + 1) 33 3 (w3 u0 u1 u2) ∧ wx.rowIs w.heap.size 33 3 (w3 0 0 0) ∧ wx.rowIs (w.heap.size + 1) 33 3 (w3 0 0 0) ∧ Below w.heap.size w wx)
        case first =>
          go_region_with (first | (go_at_call 39; refine (sScale i0 i1 i2 i6 _).mono ?_; rintro eq wq ⟨rq0, rq1, rq2, rfl, hq0, hq1, hq2, hbp⟩; have hS1 := rth hbp.1 HA.out rfl; have HB1 := Lib.hid (rth hbp.1 HB.out rfl); have H1 := Lib.hid (rth hbp.1 HP.out rfl); have H2 := Lib.hid (rth hbp.1 HQ.out rfl); obtain ⟨t0', t1', t2'⟩ := row3 hS1; have tf' : ∀ o, wq.frozen? ⟨A, o, none⟩ = false := hS1.frozen; have hl' := hS1.lt; have HA1 := Lib.hid hS1; clear hS1) | (go_at_call 38; refine (sAdd (by assumption) (by assumption) (by assumption) (by assumption) (by assumption) (by assumption) _).mono ?_; rintro eq wq ⟨rq0, rq1, rq2, rfl, hq0, hq1, hq2, hb⟩; obtain ⟨hc, hf⟩ := bcell hb.1; have hz := hb.2; try simp at hz))
          all_goals
            have e0 : Is .f32 rq0 (wgtS v 0 (k + 1)) := by rw [wgtS_succ0]; exact hq0
            have e1 : Is .f32 rq1 (wgtS v 1 (k + 1)) := by rw [wgtS_succ]; exact hq1
            have e2 : Is .f32 rq2 (wgtS v 2 (k + 1)) := by rw [wgtS_succ]; exact hq2
            have hA2 := set3 (rt HA1.out hb.1) rq0 rq1 rq2
            have hB2 := keep3 (rt HB1.out hb.1) (Nat.succ_ne_self A) rq0 rq1 rq2
            have hP2 := keep3 (rt H1.out hb.1) (Nat.ne_of_lt hl) rq0 rq1 rq2
            have hQ2 := keep3 (rt H2.out hb.1) (Nat.ne_of_lt hlR) rq0 rq1 rq2
            have hb3 : Below w.heap.size w _ := hbel.drew.trans (hbp.1.mono (by simp; omega))
            have hbm := below3 (hb3.trans (hb.1.mono (by omega))) (Nat.le_of_lt hl) rq0 rq1 rq2
            clear hc hf t0 t1 t2 t0' t1' t2' tf tf' c0 c1 c2 c6
            go_wp2_with fail
            go_meet
            exact ⟨_, _, _, rfl, e0, e1, e2, hA2, hB2, hP2, hQ2, hbm⟩
        case rest =>
          obtain ⟨r0, r1, r2, rfl, e0, e1, e2, hA2, hB2, hP2, hQ2, hbm⟩ := hcut
          clear HA HB HP HQ t0 t1 t2 tf c0 c1 c2 c6 hbel
          obtain ⟨c0, c1, c2, c3, c4, c5, c6⟩ := cells7 HR.out hlt
          rw [← hbm.cell (by assumption)] at c3 c4 c5 c6
          clear c0 c1 c2
          have hzm := hbm.size
          have hlS2 := hB2.lt
          have hb2' : b < wc.heap.size := by omega
          obtain ⟨t0, t1, t2⟩ := row3 hB2
          have tf : ∀ o, wc.frozen? ⟨A + 1, o, none⟩ = false := hB2.frozen
          have HA := Lib.hid hA2
          have HB := Lib.hid hB2
          have HP := Lib.hid hP2
          have HQ := Lib.hid hQ2
          clear hA2 hB2 hP2 hQ2 i0 i1 i2 j0 j1 j2
          go_wp2_with fail
          go_region_with (first | (go_at_call 39; refine (sScale i3 i4 i5 i6 _).mono ?_; rintro eq wq ⟨rq0, rq1, rq2, rfl, hq0, hq1, hq2, hbp⟩; have hS1 := rth hbp.1 HB.out rfl; have HA1 := Lib.hid (rth hbp.1 HA.out rfl); have H1 := Lib.hid (rth hbp.1 HP.out rfl); have H2 := Lib.hid (rth hbp.1 HQ.out rfl); obtain ⟨t0', t1', t2'⟩ := row3 hS1; have tf' : ∀ o, wq.frozen? ⟨A + 1, o, none⟩ = false := hS1.frozen; have hl' := hS1.lt; have HB1 := Lib.hid hS1; clear hS1) | (go_at_call 38; refine (sAdd (by assumption) (by assumption) (by assumption) (by assumption) (by assumption) (by assumption) _).mono ?_; rintro eq wq ⟨rq0, rq1, rq2, rfl, hq0, hq1, hq2, hb⟩; obtain ⟨hc, hf⟩ := bcell hb.1; have hz := hb.2; try simp at hz))
          all_goals
            have e3 : Is .f32 rq0 (wgtS v 3 (k + 1)) := by rw [wgtS_succ]; exact hq0
            have e4 : Is .f32 rq1 (wgtS v 4 (k + 1)) := by rw [wgtS_succ]; exact hq1
            have e5 : Is .f32 rq2 (wgtS v 5 (k + 1)) := by rw [wgtS_succ]; exact hq2
            have hA3 := keep3 (rt HA1.out hb.1) (Nat.succ_ne_self A).symm rq0 rq1 rq2
            have hB3 := set3 (rt HB1.out hb.1) rq0 rq1 rq2
            have hP3 := keep3 (rt H1.out hb.1) (Nat.ne_of_lt (Nat.lt_succ_of_lt hl)) rq0 rq1 rq2
            have hQ3 := keep3 (rt H2.out hb.1) (Nat.ne_of_lt (Nat.lt_succ_of_lt hlR)) rq0 rq1 rq2
            have hb3 : Below w.heap.size w _ := hbm.drew.trans (hbp.1.mono (by simp; omega))
            have hbn := below3 (hb3.trans (hb.1.mono (by omega))) (Nat.le_of_lt (Nat.lt_succ_of_lt hl)) rq0 rq1 rq2
            clear HA HA1 HB HB1 HP H1 HQ H2 hb hbp hb3 hq0 hq1 hq2 hc hf t0 t1 t2 t0' t1' t2' tf tf' c3 c4 c5 c6 hbm
            go_wp2
            go_roundw
            case rel => exact ⟨k + 1, _, _, _, _, _, _, by omega, by go_num, e0, e1, e2, e3, e4, e5, hA3, hB3, hP3, hQ3, hbn⟩
            case measure => simp [intOf]; omega
      · have hkn : Hid (k = n) := (show k = n by omega)
        clear ra0 rs0 rr1' rr2' hm2
        obtain ⟨t0, t1, t2⟩ := row3 hA
        have tf : ∀ o, wr.frozen? ⟨A, o, none⟩ = false := hA.frozen
        have tfB : ∀ o, wr.frozen? ⟨A + 1, o, none⟩ = false := hB.frozen
        have lA := hA.lt
        have lB := hB.lt
        rw [hkn.out] at j0 j1 j2 j3 j4 j5
        have JJ := Lib.hid hbel
        have HP := Lib.hid hP
        have HQ := Lib.hid hQ
        have HA := Lib.hid hA
        have HB := Lib.hid hB
        clear hA hB hP hQ hbel
        go_wp2_with (apply wpList_arith; rfl; simp [Arith]; rfl; rfl; (first | assumption | exact is_lit64 _ (by decide) | exact is_lit32 _ (by decide)); (first | assumption | exact is_lit64 _ (by decide) | exact is_lit32 _ (by decide)); intro Kq hKq rq nq hq; go_simp)
        refine (sScale j0 j1 j2 hq _).mono ?_
        rintro _ X1 ⟨r0, r1, r2, rfl, m0, m1, m2, bl1⟩
        have hA1 := rth bl1.1 HA.out rfl
        have hB1 := rth bl1.1 HB.out rfl
        have hP1 := rth bl1.1 HP.out rfl
        have hQ1 := rth bl1.1 HQ.out rfl
        have hl1 := hA1.lt
        have hl1' := hB1.lt
        have BE1 : Below w.heap.size w X1 := (below_drewN JJ.out _).trans (bl1.1.mono (by simpa using JJ.out.size))
        clear t0 t1 t2 tf tfB HA HB HP HQ JJ
        obtain ⟨t0, t1, t2⟩ := row3 hA1
        obtain ⟨y0, y1, y2⟩ := row3 hB1
        have tf : ∀ o, X1.frozen? ⟨A, o, none⟩ = false := hA1.frozen
        have HA1 := Lib.hid (set3 hA1 r0 r1 r2)
        have HB1 := Lib.hid (keep3 hB1 (Nat.succ_ne_self A) r0 r1 r2)
        have HP1 := Lib.hid (keep3 hP1 (Nat.ne_of_lt hl) r0 r1 r2)
        have HQ1 := Lib.hid (keep3 hQ1 (Nat.ne_of_lt hlR) r0 r1 r2)
        have BE2 := Lib.hid (below3 BE1 (Nat.le_of_lt hl) r0 r1 r2)
        clear hA1 hB1 hP1 hQ1 BE1
        go_wp2_with (apply wpList_arith; rfl; simp [Arith]; rfl; rfl; (first | assumption | exact is_lit64 _ (by decide) | exact is_lit32 _ (by decide)); (first | assumption | exact is_lit64 _ (by decide) | exact is_lit32 _ (by decide)); intro Kq hKq rq nq hq; go_simp)
        refine (sScale j3 j4 j5 (by assumption) _).mono ?_
        rintro _ X2 ⟨r3, r4, r5, rfl, m3, m4, m5, bl2⟩
        have hA2 := rth bl2.1 HA1.out rfl
        have hB2 := rth bl2.1 HB1.out rfl
        have hP2 := rth bl2.1 HP1.out rfl
        have hQ2 := rth bl2.1 HQ1.out rfl
        have hl2 := hA2.lt
        have hl2' := hB2.lt
        have BE3 : Below w.heap.size w X2 := (below_drewN BE2.out _).trans (bl2.1.mono (by simpa using BE2.out.size))
        clear t0 t1 t2 y0 y1 y2 tf HA1 HB1 HP1 HQ1 BE2
        obtain ⟨t0, t1, t2⟩ := row3 hA2
        obtain ⟨y0, y1, y2⟩ := row3 hB2
        have tf : ∀ o, X2.frozen? ⟨A + 1, o, none⟩ = false := hB2.frozen
        have hA3 := keep3 hA2 (Nat.succ_ne_self A).symm r3 r4 r5
        have hB3 := set3 hB2 r3 r4 r5
        have hP3 := keep3 hP2 (Nat.ne_of_lt (Nat.lt_succ_of_lt hl)) r3 r4 r5
        have hQ3 := keep3 hQ2 (Nat.ne_of_lt (Nat.lt_succ_of_lt hlR)) r3 r4 r5
        have BE4 := below3 BE3 (Nat.le_of_lt (Nat.lt_succ_of_lt hl)) r3 r4 r5
        clear hA2 hB2 hP2 hQ2 BE3
        go_wp2_with fail
        generalize hX3 : (((X2.setCell ⟨A + 1, 0, none⟩ (.float .f32 r3)).setCell ⟨A + 1, 1, none⟩ (.float .f32 r4)).setCell ⟨A + 1, 2, none⟩ (.float .f32 r5)) = Y3 at hA3 hB3 hP3 hQ3 BE4 ⊢
        clear hX3 t0 t1 t2 y0 y1 y2 tf hl1 hl1' hl2 hl2' bl1 bl2
        have n0 : Is .f32 r0 (cenO v n 0) := m0
        have n1 : Is .f32 r1 (cenO v n 1) := m1
        have n2 : Is .f32 r2 (cenO v n 2) := m2
        have n3 : Is .f32 r3 (cenO v n 3) := m3
        have n4 : Is .f32 r4 (cenO v n 4) := m4
        have n5 : Is .f32 r5 (cenO v n 5) := m5
        have FV := sFinV n0 n1 n2
        have FW := sFinV n3 n4 n5
        clear m0 m1 m2 m3 m4 m5
        have no : ∀ X : World, cenOk v n = false → Below w.heap.size w X → RetV2 v n w (.returned (.tuple #[vecV 0 0 0, vecV 0 0 0, .bool false])) X := fun X hc0 hB => by
          have hN := cenN_f hc0
          exact ⟨⟨_, _, _, _, _, _, by rw [hc0], by rw [hN]; exact zero32, by rw [hN]; exact zero32, by rw [hN]; exact zero32, by rw [hN]; exact zero32, by rw [hN]; exact zero32, by rw [hN]; exact zero32⟩, hB⟩
        have NO := Lib.hid no
        clear no
        cases hF1 : finV (cenO v n 0) (cenO v n 1) (cenO v n 2) with
        | false =>
          rw [hF1] at FV
          refine (FV _).mono ?_
          rintro _ X4 ⟨rfl, bl4⟩
          have hP4 := rth bl4.1 hP3 rfl
          have hQ4 := rth bl4.1 hQ3 rfl
          have BE5 : Below w.heap.size w X4 := BE4.trans (bl4.1.mono BE4.size)
          have hc0 : cenOk v n = false := by simp [cenOk, ha, hF1]
          obtain ⟨p0, p1, p2⟩ := row3 hP4
          obtain ⟨q0, q1, q2⟩ := row3 hQ4
          have pf : ∀ o, X4.frozen? ⟨w.heap.size, o, none⟩ = false := hP4.frozen
          have qf : ∀ o, X4.frozen? ⟨w.heap.size + 1, o, none⟩ = false := hQ4.frozen
          clear hA3 hB3 hP3 hQ3 hP4 hQ4 bl4
          go_wp2_with fail
          refine bodyPost_ret (v := .tuple #[vecV 0 0 0, vecV 0 0 0, .bool false]) (by simp [results, Try.results21, go_sem, p0, p1, p2, q0, q1, q2]) rfl (NO.out _ hc0 ?_)
          repeat' (first | with_reducible exact Below.refl _ _ | with_reducible assumption | (with_reducible refine Below.setCell ?_ (by first | omega | (simp; done) | (simp; omega)) _) | (with_reducible refine Below.alloc ?_ (by first | omega | (simp; done) | (simp; omega)) _) | (with_reducible refine below_drewN ?_ _) | (with_reducible refine Below.drew ?_) | (with_reducible refine Below.trans ?_ (Below.mono (by first | (with_reducible assumption) | exact Grow.below (by assumption)) (by first | omega | (simp; done) | (simp; omega)))))
        | true =>
          rw [hF1] at FV
          refine (FV _).mono ?_
          rintro _ X4 ⟨rfl, bl4⟩
          have hA4 := rth bl4.1 hA3 rfl
          have hB4 := rth bl4.1 hB3 rfl
          have hP4 := rth bl4.1 hP3 rfl
          have hQ4 := rth bl4.1 hQ3 rfl
          have BE5 : Below w.heap.size w X4 := BE4.trans (bl4.1.mono BE4.size)
          clear hA3 hB3 hP3 hQ3 BE4 bl4
          obtain ⟨y0, y1, y2⟩ := row3 hB4
          have HA4 := Lib.hid hA4
          have HB4 := Lib.hid hB4
          have HP4 := Lib.hid hP4
          have HQ4 := Lib.hid hQ4
          clear hA4 hB4 hP4 hQ4
          go_wp2_with fail
          clear y0 y1 y2
          cases hF2 : finV (cenO v n 3) (cenO v n 4) (cenO v n 5) with
          | false =>
            rw [hF2] at FW
            refine (FW _).mono ?_
            rintro _ X5 ⟨rfl, bl5⟩
            have hP5 := rth bl5.1 HP4.out rfl
            have hQ5 := rth bl5.1 HQ4.out rfl
            have BE6 : Below w.heap.size w X5 := BE5.trans (bl5.1.mono BE5.size)
            have hc0 : cenOk v n = false := by simp [cenOk, ha, hF1, hF2]
            obtain ⟨p0, p1, p2⟩ := row3 hP5
            obtain ⟨q0, q1, q2⟩ := row3 hQ5
            have pf : ∀ o, X5.frozen? ⟨w.heap.size, o, none⟩ = false := hP5.frozen
            have qf : ∀ o, X5.frozen? ⟨w.heap.size + 1, o, none⟩ = false := hQ5.frozen
            clear hP5 hQ5 bl5
            go_wp2_with fail
            refine bodyPost_ret (v := .tuple #[vecV 0 0 0, vecV 0 0 0, .bool false]) (by simp [results, Try.results21, go_sem, p0, p1, p2, q0, q1, q2]) rfl (NO.out _ hc0 ?_)
            repeat' (first | with_reducible exact Below.refl _ _ | with_reducible assumption | (with_reducible refine Below.setCell ?_ (by first | omega | (simp; done) | (simp; omega)) _) | (with_reducible refine Below.alloc ?_ (by first | omega | (simp; done) | (simp; omega)) _) | (with_reducible refine below_drewN ?_ _) | (with_reducible refine Below.drew ?_) | (with_reducible refine Below.trans ?_ (Below.mono (by first | (with_reducible assumption) | exact Grow.below (by assumption)) (by first | omega | (simp; done) | (simp; omega)))))
          | true =>
            rw [hF2] at FW
            refine (FW _).mono ?_
            rintro _ X5 ⟨rfl, bl5⟩
            have hA5 := rth bl5.1 HA4.out rfl
            have hB5 := rth bl5.1 HB4.out rfl
            have hP5 := rth bl5.1 HP4.out rfl
            have hQ5 := rth bl5.1 HQ4.out rfl
            have BE6 : Below w.heap.size w X5 := BE5.trans (bl5.1.mono BE5.size)
            have hc1 : cenOk v n = true := by simp [cenOk, ha, hF1, hF2]
            have hN := cenN_t hc1
            obtain ⟨t0, t1, t2⟩ := row3 hA5
            obtain ⟨y0, y1, y2⟩ := row3 hB5
            obtain ⟨p0, p1, p2⟩ := row3 hP5
            obtain ⟨q0, q1, q2⟩ := row3 hQ5
            have pf : ∀ o, X5.frozen? ⟨w.heap.size, o, none⟩ = false := hP5.frozen
            have qf : ∀ o, X5.frozen? ⟨w.heap.size + 1, o, none⟩ = false := hQ5.frozen
            clear hA5 hB5 hP5 hQ5 bl5
            go_wp2_with fail
            go_region
            all_goals
              go_wp2_with fail
              refine bodyPost_ret (v := .tuple #[vecV r0 r1 r2, vecV r3 r4 r5, .bool true]) (by simp [results, Try.results21, go_sem, p0, p1, p2, q0, q1, q2]) rfl ⟨⟨r0, r1, r2, r3, r4, r5, by rw [hc1], by rw [hN]; exact n0, by rw [hN]; exact n1, by rw [hN]; exact n2, by rw [hN]; exact n3, by rw [hN]; exact n4, by rw [hN]; exact n5⟩, ?_⟩
              repeat' (first | with_reducible exact Below.refl _ _ | with_reducible assumption | (with_reducible refine Below.setCell ?_ (by first | omega | (simp; done) | (simp; omega)) _) | (with_reducible refine Below.alloc ?_ (by first | omega | (simp; done) | (simp; omega)) _) | (with_reducible refine below_drewN ?_ _) | (with_reducible refine Below.drew ?_) | (with_reducible refine Below.trans ?_ (Below.mono (by first | (with_reducible assumption) | exact Grow.below (by assumption)) (by first | omega | (simp; done) | (simp; omega)))))
end Go.Proofs.Ytkhinppmldodiaa
