/-
  The centre of bodies, of the program. No condition.
-/
import Derived.Test.YtkhinppmldodiaaCenV
namespace Go.Proofs.Ytkhinppmldodiaa
open Go.RowKit

abbrev zer3 : Obj := .cells #[.float .f32 0, .float .f32 0, .float .f32 0] 33
theorem two3 {w wq : World} (hb : Below ((w.alloc zer3).alloc zer3).heap.size ((w.alloc zer3).alloc zer3) wq) : wq.rowIs w.heap.size 33 3 (w3 0 0 0) ∧ wq.rowIs (w.heap.size + 1) 33 3 (w3 0 0 0) := by
  have h2 := alloc3 (w.alloc zer3) 0 0 0 33
  have e : (w.alloc zer3).heap.size = w.heap.size + 1 := by simp
  rw [e] at h2
  exact ⟨rt ((alloc3 w 0 0 0 33).alloc zer3) hb, rt h2 hb⟩

set_option maxHeartbeats 3200000 in
theorem iCen (b off n cap : Nat) (f : Nat → Nat) (v : Nat → Option Nat) (w : World) (hn : n ≤ 1048576) (hb : b < w.heap.size) (hr : ∀ i, i < 7 * n → w.cell? ⟨b, off + i, none⟩ = some (.float .f32 (f i))) (hv : ∀ i, i < 7 * n → Is .f32 (f i) (v i)) :
    Calls Try.prog 22 #[.slice (some ⟨b, off, none⟩) n cap] w (RetV2 v n w) := by
  have hst := run_store_float Try.prog
  have HR := Lib.hid hr
  have HV := Lib.hid hv
  have HM := fun (W : World) (hB : Below w.heap.size w W) => iMass b off n cap f v W hn (Nat.lt_of_lt_of_le hb hB.size) (cellsB hB hb hr) hv
  clear hr hv
  cases ha : massOk v n with
  | false =>
    rw [ha] at HM
    have hc0 : cenOk v n = false := by simp [cenOk, ha]
    have hN := cenN_f hc0
    go_enter Try.func22, Try.ntmps22
    go_wp2_with (go_at_call 48; refine (HM _ (by repeat' (first | with_reducible exact Below.refl _ _ | with_reducible assumption | (with_reducible refine Below.setCell ?_ (by first | omega | (simp; done) | (simp; omega)) _) | (with_reducible refine Below.alloc ?_ (by first | omega | (simp; done) | (simp; omega)) _) | (with_reducible refine below_drewN ?_ _) | (with_reducible refine Below.drew ?_) | (with_reducible refine Below.trans ?_ (Below.mono (by first | (with_reducible assumption) | exact Grow.below (by assumption)) (by first | omega | (simp; done) | (simp; omega))))))).mono ?_; rintro eq wq ⟨⟨rm, rfl, hm⟩, hb⟩; obtain ⟨hc, hf⟩ := bcell hb; have hz := hb.size; (try simp at hz); (try have hl : w.heap.size < wq.heap.size := (by omega)))
    obtain ⟨rr1, rr2⟩ := two3 hb
    obtain ⟨p0, p1, p2⟩ := row3 rr1
    obtain ⟨q0, q1, q2⟩ := row3 rr2
    refine bodyPost_ret (v := .tuple #[vecV 0 0 0, vecV 0 0 0, .bool false]) (by simp [results, Try.results22, go_sem, p0, p1, p2, q0, q1, q2]) rfl ⟨⟨_, _, _, _, _, _, by rw [hc0], by rw [hN]; exact zero32, by rw [hN]; exact zero32, by rw [hN]; exact zero32, by rw [hN]; exact zero32, by rw [hN]; exact zero32, by rw [hN]; exact zero32⟩, ?_⟩
    repeat' (first | with_reducible exact Below.refl _ _ | with_reducible assumption | (with_reducible refine Below.setCell ?_ (by first | omega | (simp; done) | (simp; omega)) _) | (with_reducible refine Below.alloc ?_ (by first | omega | (simp; done) | (simp; omega)) _) | (with_reducible refine below_drewN ?_ _) | (with_reducible refine Below.drew ?_) | (with_reducible refine Below.trans ?_ (Below.mono (by first | (with_reducible assumption) | exact Grow.below (by assumption)) (by first | omega | (simp; done) | (simp; omega)))))
  | true =>
    rw [ha] at HM
    have h16 := fit16 (mass_are ha)
    have HS := fun (W : World) (hB : Below w.heap.size w W) => iSumOver 50 (wgtO v 0) (wgtO v 1) (wgtO v 2) b off n cap f W h16 (Nat.lt_of_lt_of_le hb hB.size) (cellsB hB hb HR.out) (enters_of Try.func50 (by kernel_rfl) rfl) (fun k hk W => iWgtOf (HV.out _ (by omega)) (HV.out _ (by omega)) (HV.out _ (by omega)) (HV.out _ (by omega)) W)
    have HT := fun (W : World) (hB : Below w.heap.size w W) => iSumOver 51 (wgtO v 3) (wgtO v 4) (wgtO v 5) b off n cap f W h16 (Nat.lt_of_lt_of_le hb hB.size) (cellsB hB hb HR.out) (enters_of Try.func51 (by kernel_rfl) rfl) (fun k hk W => iMomOf (HV.out _ (by omega)) (HV.out _ (by omega)) (HV.out _ (by omega)) (HV.out _ (by omega)) W)
    go_enter Try.func22, Try.ntmps22
    go_wp2_with (first | (go_at_call 48; refine (HM _ (by repeat' (first | with_reducible exact Below.refl _ _ | with_reducible assumption | (with_reducible refine Below.setCell ?_ (by first | omega | (simp; done) | (simp; omega)) _) | (with_reducible refine Below.alloc ?_ (by first | omega | (simp; done) | (simp; omega)) _) | (with_reducible refine below_drewN ?_ _) | (with_reducible refine Below.drew ?_) | (with_reducible refine Below.trans ?_ (Below.mono (by first | (with_reducible assumption) | exact Grow.below (by assumption)) (by first | omega | (simp; done) | (simp; omega))))))).mono ?_; rintro eq wq ⟨⟨rm, rfl, hm⟩, hb⟩; obtain ⟨hc, hf⟩ := bcell hb; have hz := hb.size; (try simp at hz); (try have hl : w.heap.size < wq.heap.size := (by omega))) | fail)
    obtain ⟨rr1, rr2⟩ := two3 hb
    have hm1 : Below w.heap.size w wq := by repeat' (first | with_reducible exact Below.refl _ _ | with_reducible assumption | (with_reducible refine Below.setCell ?_ (by first | omega | (simp; done) | (simp; omega)) _) | (with_reducible refine Below.alloc ?_ (by first | omega | (simp; done) | (simp; omega)) _) | (with_reducible refine below_drewN ?_ _) | (with_reducible refine Below.drew ?_) | (with_reducible refine Below.trans ?_ (Below.mono (by first | (with_reducible assumption) | exact Grow.below (by assumption)) (by first | omega | (simp; done) | (simp; omega)))))
    clear hb hc hf
    have RR1 := Lib.hid rr1
    have RR2 := Lib.hid rr2
    clear rr1 rr2
    (go_at_call 44; refine (HS wq hm1).mono ?_; rintro _ W2 ⟨⟨s0, s1, s2, rfl, j0, j1, j2⟩, b2⟩)
    replace hm1 := bt hm1 b2
    replace RR1 := Lib.hid (rt RR1.out b2)
    replace RR2 := Lib.hid (rt RR2.out b2)
    go_wp2_with (first | (apply wpList_arith; rfl; simp [Arith]; rfl; rfl; (first | assumption | exact is_lit64 _ (by decide) | exact is_lit32 _ (by decide)); (first | assumption | exact is_lit64 _ (by decide) | exact is_lit32 _ (by decide)); intro Kq hKq rq nq hq; go_simp) | (go_at_call 49; refine (implScale j0 j1 j2 (by assumption) _).mono ?_; rintro _ W3 ⟨t0, t1, t2, rfl, i0, i1, i2, b3⟩))
    have i0' : Is .f32 t0 (cenO v n 0) := i0
    have i1' : Is .f32 t1 (cenO v n 1) := i1
    have i2' : Is .f32 t2 (cenO v n 2) := i2
    clear i0 i1 i2
    have hmA : Below w.heap.size w W3 := (below_drewN hm1 _).trans (b3.1.mono hm1.size)
    have RA := Lib.hid (alloc3 W3 t0 t1 t2 33)
    replace RR1 := Lib.hid ((rth b3.1 RR1.out rfl).alloc (.cells #[.float .f32 t0, .float .f32 t1, .float .f32 t2] 33))
    replace RR2 := Lib.hid ((rth b3.1 RR2.out rfl).alloc (.cells #[.float .f32 t0, .float .f32 t1, .float .f32 t2] 33))
    have hm3 := hmA.alloc hmA.size (.cells #[.float .f32 t0, .float .f32 t1, .float .f32 t2] 33)
    clear b3 hmA hm1
    (go_at_call 44; refine (HT _ hm3).mono ?_; rintro _ W4 ⟨⟨s3, s4, s5, rfl, j3, j4, j5⟩, b4⟩)
    replace RA := Lib.hid (rt RA.out b4)
    replace RR1 := Lib.hid (rt RR1.out b4)
    replace RR2 := Lib.hid (rt RR2.out b4)
    have hm4 := bt hm3 b4
    clear b4 hm3
    cases hA : finV (cenO v n 0) (cenO v n 1) (cenO v n 2) with
    | false =>
      have hO : cenOk v n = false := by simp [cenOk, hA]
      go_wp2_with (first | (apply wpList_arith; rfl; simp [Arith]; rfl; rfl; (first | assumption | exact is_lit64 _ (by decide) | exact is_lit32 _ (by decide)); (first | assumption | exact is_lit64 _ (by decide) | exact is_lit32 _ (by decide)); intro Kq hKq rq nq hq; go_simp) | (go_at_call 49; refine (implScale j3 j4 j5 (by assumption) _).mono ?_; rintro _ W5 ⟨u0, u1, u2, rfl, k0, k1, k2, b5⟩; have k0' : Is .f32 u0 (cenO v n 3) := k0; have k1' : Is .f32 u1 (cenO v n 4) := k1; have k2' : Is .f32 u2 (cenO v n 5) := k2; clear k0 k1 k2; have hl1 : w.heap.size + 1 < W5.heap.size := ((rth b5.1 RR2.out rfl).lt); have RS := Lib.hid (alloc3 W5 u0 u1 u2 33); replace RA := Lib.hid ((rth b5.1 RA.out rfl).alloc (.cells #[.float .f32 u0, .float .f32 u1, .float .f32 u2] 33)); replace RR1 := Lib.hid ((rth b5.1 RR1.out rfl).alloc (.cells #[.float .f32 u0, .float .f32 u1, .float .f32 u2] 33)); replace RR2 := Lib.hid ((rth b5.1 RR2.out rfl).alloc (.cells #[.float .f32 u0, .float .f32 u1, .float .f32 u2] 33)); have hm5 := ((below_drewN hm4 _).trans (b5.1.mono hm4.size)); have hm6 := hm5.alloc hm5.size (.cells #[.float .f32 u0, .float .f32 u1, .float .f32 u2] 33); obtain ⟨ca0, ca1, ca2⟩ := row3 RA.out; obtain ⟨cs0, cs1, cs2⟩ := row3 RS.out; obtain ⟨p0, p1, p2⟩ := row3 RR1.out; obtain ⟨q0, q1, q2⟩ := row3 RR2.out; have fz1 := RR1.out.frozen; have fz2 := RR2.out.frozen) | (go_at_call 34; refine (iFinV (by assumption) (by assumption) (by assumption) _).mono ?_; rintro _ W6 ⟨rfl, b6⟩; replace RA := Lib.hid (rt RA.out b6.1); replace RS := Lib.hid (rt RS.out b6.1); replace RR1 := Lib.hid (rt RR1.out b6.1); replace RR2 := Lib.hid (rt RR2.out b6.1); replace hm6 := bt hm6 b6.1; obtain ⟨ca0, ca1, ca2⟩ := row3 RA.out; obtain ⟨cs0, cs1, cs2⟩ := row3 RS.out; obtain ⟨p0, p1, p2⟩ := row3 RR1.out; obtain ⟨q0, q1, q2⟩ := row3 RR2.out; have fz1 := RR1.out.frozen; have fz2 := RR2.out.frozen))
      refine bodyPost_ret (v := .tuple #[vecV 0 0 0, vecV 0 0 0, .bool false]) (by simp [results, Try.results22, go_sem, p0, p1, p2, q0, q1, q2]) rfl ⟨⟨_, _, _, _, _, _, by rw [hO], by rw [cenN_f hO]; exact zero32, by rw [cenN_f hO]; exact zero32, by rw [cenN_f hO]; exact zero32, by rw [cenN_f hO]; exact zero32, by rw [cenN_f hO]; exact zero32, by rw [cenN_f hO]; exact zero32⟩, ?_⟩
      repeat' (first | with_reducible assumption | (with_reducible refine Below.setCell ?_ (by simp) _))
    | true =>
      cases hB : finV (cenO v n 3) (cenO v n 4) (cenO v n 5) with
      | false =>
        have hO : cenOk v n = false := by simp [cenOk, hB]
        go_wp2_with (first | (apply wpList_arith; rfl; simp [Arith]; rfl; rfl; (first | assumption | exact is_lit64 _ (by decide) | exact is_lit32 _ (by decide)); (first | assumption | exact is_lit64 _ (by decide) | exact is_lit32 _ (by decide)); intro Kq hKq rq nq hq; go_simp) | (go_at_call 49; refine (implScale j3 j4 j5 (by assumption) _).mono ?_; rintro _ W5 ⟨u0, u1, u2, rfl, k0, k1, k2, b5⟩; have k0' : Is .f32 u0 (cenO v n 3) := k0; have k1' : Is .f32 u1 (cenO v n 4) := k1; have k2' : Is .f32 u2 (cenO v n 5) := k2; clear k0 k1 k2; have hl1 : w.heap.size + 1 < W5.heap.size := ((rth b5.1 RR2.out rfl).lt); have RS := Lib.hid (alloc3 W5 u0 u1 u2 33); replace RA := Lib.hid ((rth b5.1 RA.out rfl).alloc (.cells #[.float .f32 u0, .float .f32 u1, .float .f32 u2] 33)); replace RR1 := Lib.hid ((rth b5.1 RR1.out rfl).alloc (.cells #[.float .f32 u0, .float .f32 u1, .float .f32 u2] 33)); replace RR2 := Lib.hid ((rth b5.1 RR2.out rfl).alloc (.cells #[.float .f32 u0, .float .f32 u1, .float .f32 u2] 33)); have hm5 := ((below_drewN hm4 _).trans (b5.1.mono hm4.size)); have hm6 := hm5.alloc hm5.size (.cells #[.float .f32 u0, .float .f32 u1, .float .f32 u2] 33); obtain ⟨ca0, ca1, ca2⟩ := row3 RA.out; obtain ⟨cs0, cs1, cs2⟩ := row3 RS.out; obtain ⟨p0, p1, p2⟩ := row3 RR1.out; obtain ⟨q0, q1, q2⟩ := row3 RR2.out; have fz1 := RR1.out.frozen; have fz2 := RR2.out.frozen) | (go_at_call 34; refine (iFinV (by assumption) (by assumption) (by assumption) _).mono ?_; rintro _ W6 ⟨rfl, b6⟩; replace RA := Lib.hid (rt RA.out b6.1); replace RS := Lib.hid (rt RS.out b6.1); replace RR1 := Lib.hid (rt RR1.out b6.1); replace RR2 := Lib.hid (rt RR2.out b6.1); replace hm6 := bt hm6 b6.1; obtain ⟨ca0, ca1, ca2⟩ := row3 RA.out; obtain ⟨cs0, cs1, cs2⟩ := row3 RS.out; obtain ⟨p0, p1, p2⟩ := row3 RR1.out; obtain ⟨q0, q1, q2⟩ := row3 RR2.out; have fz1 := RR1.out.frozen; have fz2 := RR2.out.frozen))
        refine bodyPost_ret (v := .tuple #[vecV 0 0 0, vecV 0 0 0, .bool false]) (by simp [results, Try.results22, go_sem, p0, p1, p2, q0, q1, q2]) rfl ⟨⟨_, _, _, _, _, _, by rw [hO], by rw [cenN_f hO]; exact zero32, by rw [cenN_f hO]; exact zero32, by rw [cenN_f hO]; exact zero32, by rw [cenN_f hO]; exact zero32, by rw [cenN_f hO]; exact zero32, by rw [cenN_f hO]; exact zero32⟩, ?_⟩
        repeat' (first | with_reducible assumption | (with_reducible refine Below.setCell ?_ (by simp) _))
      | true =>
        have hO : cenOk v n = true := by simp [cenOk, hA, hB, ha]
        go_wp2_with (first | (apply wpList_arith; rfl; simp [Arith]; rfl; rfl; (first | assumption | exact is_lit64 _ (by decide) | exact is_lit32 _ (by decide)); (first | assumption | exact is_lit64 _ (by decide) | exact is_lit32 _ (by decide)); intro Kq hKq rq nq hq; go_simp) | (go_at_call 49; refine (implScale j3 j4 j5 (by assumption) _).mono ?_; rintro _ W5 ⟨u0, u1, u2, rfl, k0, k1, k2, b5⟩; have k0' : Is .f32 u0 (cenO v n 3) := k0; have k1' : Is .f32 u1 (cenO v n 4) := k1; have k2' : Is .f32 u2 (cenO v n 5) := k2; clear k0 k1 k2; have hl1 : w.heap.size + 1 < W5.heap.size := ((rth b5.1 RR2.out rfl).lt); have RS := Lib.hid (alloc3 W5 u0 u1 u2 33); replace RA := Lib.hid ((rth b5.1 RA.out rfl).alloc (.cells #[.float .f32 u0, .float .f32 u1, .float .f32 u2] 33)); replace RR1 := Lib.hid ((rth b5.1 RR1.out rfl).alloc (.cells #[.float .f32 u0, .float .f32 u1, .float .f32 u2] 33)); replace RR2 := Lib.hid ((rth b5.1 RR2.out rfl).alloc (.cells #[.float .f32 u0, .float .f32 u1, .float .f32 u2] 33)); have hm5 := ((below_drewN hm4 _).trans (b5.1.mono hm4.size)); have hm6 := hm5.alloc hm5.size (.cells #[.float .f32 u0, .float .f32 u1, .float .f32 u2] 33); obtain ⟨ca0, ca1, ca2⟩ := row3 RA.out; obtain ⟨cs0, cs1, cs2⟩ := row3 RS.out; obtain ⟨p0, p1, p2⟩ := row3 RR1.out; obtain ⟨q0, q1, q2⟩ := row3 RR2.out; have fz1 := RR1.out.frozen; have fz2 := RR2.out.frozen) | (go_at_call 34; refine (iFinV (by assumption) (by assumption) (by assumption) _).mono ?_; rintro _ W6 ⟨rfl, b6⟩; replace RA := Lib.hid (rt RA.out b6.1); replace RS := Lib.hid (rt RS.out b6.1); replace RR1 := Lib.hid (rt RR1.out b6.1); replace RR2 := Lib.hid (rt RR2.out b6.1); replace hm6 := bt hm6 b6.1; obtain ⟨ca0, ca1, ca2⟩ := row3 RA.out; obtain ⟨cs0, cs1, cs2⟩ := row3 RS.out; obtain ⟨p0, p1, p2⟩ := row3 RR1.out; obtain ⟨q0, q1, q2⟩ := row3 RR2.out; have fz1 := RR1.out.frozen; have fz2 := RR2.out.frozen))
        have n1 : ¬ W5.heap.size = w.heap.size := by omega
        have n2 : ¬ W5.heap.size = w.heap.size + 1 := by omega
        have n3 : ¬ w.heap.size = W5.heap.size := by omega
        have n4 : ¬ w.heap.size + 1 = W5.heap.size := by omega
        go_region_with fail
        all_goals
          go_wp2
          refine bodyPost_ret (v := .tuple #[vecV t0 t1 t2, vecV u0 u1 u2, .bool true]) (by simp [results, Try.results22, go_sem, p0, p1, p2, q0, q1, q2]) rfl ⟨⟨_, _, _, _, _, _, by rw [hO], by rw [cenN_t hO]; exact i0', by rw [cenN_t hO]; exact i1', by rw [cenN_t hO]; exact i2', by rw [cenN_t hO]; exact k0', by rw [cenN_t hO]; exact k1', by rw [cenN_t hO]; exact k2'⟩, ?_⟩
          repeat' (first | with_reducible assumption | (with_reducible refine Below.drew ?_) | (with_reducible refine Below.setCell ?_ (by simp) _))
end Go.Proofs.Ytkhinppmldodiaa
