/-
  The sum of pulls over bodies, of the program. No condition.
-/
import Derived.Test.YtjljdnkedbejaaaPulI
import Derived.Test.YtjljdnkedbejaaaVAdd
import Derived.Test.YtjljdnkedbejaaaSAre
import Derived.Test.YtjljdnkedbejaaaRow3
import Derived.Shelf.Abstract
import Derived.Deep.RegionWith
namespace Go.Proofs.Ytjljdnkedbejaaa
open Go.RowKit

set_option maxHeartbeats 3200000 in
theorem iSumC (F : Nat) (C : Array Value) (p0 p1 p2 : Nat → Option Nat) (b off n cap : Nat) (f : Nat → Nat) (w : World) (hn : n ≤ 16) (hb : b < w.heap.size) (hr : ∀ i, i < 7 * n → w.cell? ⟨b, off + i, none⟩ = some (.float .f32 (f i)))
    (eF : Enters Try.prog F) (hF : ∀ k, k < n → ∀ W, Below w.heap.size w W → Calls Try.prog F (#[bodV (f (7 * k)) (f (7 * k + 1)) (f (7 * k + 2)) (f (7 * k + 3)) (f (7 * k + 4)) (f (7 * k + 5)) (f (7 * k + 6))] ++ C) W fun e w' => (∃ r0 r1 r2, e = .returned (vecV r0 r1 r2) ∧ Is .f32 r0 (p0 k) ∧ Is .f32 r1 (p1 k) ∧ Is .f32 r2 (p2 k)) ∧ Below W.heap.size W w') :
    Calls Try.prog 62 #[.slice (some ⟨b, off, none⟩) n cap, .func (.func F) #[] C] w fun e w' => (∃ r0 r1 r2, e = .returned (vecV r0 r1 r2) ∧ Is .f32 r0 (sumP p0 n) ∧ Is .f32 r1 (sumP p1 n) ∧ Is .f32 r2 (sumP p2 n)) ∧ Below w.heap.size w w' := by
  have hst := run_store_float Try.prog
  have HR := Lib.hid hr
  have HF := Lib.hid hF
  unfold Enters at eF
  clear hr hF
  go_enter Try.func62, Try.ntmps62
  go_wp2
  go_loopw [10] (fun i wr => ∃ k s0 s1 s2 : Nat, k ≤ n ∧ i = .int .i64 k ∧ Is .f32 s0 (sumP p0 k) ∧ Is .f32 s1 (sumP p1 k) ∧ Is .f32 s2 (sumP p2 k) ∧ wr.rowIs (w.heap.size + 1) 40 3 (w3 s0 s1 s2) ∧ wr.rowIs w.heap.size 40 3 (w3 0 0 0) ∧ Below w.heap.size w wr) (fun i _ => n - (intOf i).toNat)
  case atStart => exact ⟨0, 0, 0, 0, Nat.zero_le _, rfl, is_lit32 0 (by decide), is_lit32 0 (by decide), is_lit32 0 (by decide), by simpa using alloc3 (w.alloc _) 0 0 0 _, (alloc3 w 0 0 0 _).alloc _, by repeat' (first | with_reducible exact Below.refl _ _ | with_reducible assumption | (with_reducible refine Below.setCell ?_ (by first | omega | (simp; done) | (simp; omega)) _) | (with_reducible refine Below.alloc ?_ (by first | omega | (simp; done) | (simp; omega)) _) | (with_reducible refine below_drewN ?_ _) | (with_reducible refine Below.drew ?_) | (with_reducible refine Below.trans ?_ (Below.mono (by first | (with_reducible assumption) | exact Grow.below (by assumption)) (by first | omega | (simp; done) | (simp; omega)))))⟩
  case round =>
    obtain ⟨k, s0, s1, s2, hk, rfl, j0, j1, j2, hS, hR, hbel⟩ := hrel
    by_cases hlt : k < n
    · obtain ⟨c0, c1, c2, c3, c4, c5, c6⟩ := cells7 HR.out hlt
      rw [← hbel.cell (by exact hb)] at c0 c1 c2 c3 c4 c5 c6
      have hz := hbel.size
      have hlS := hS.lt
      have hb2 : b < wr.heap.size := by omega
      obtain ⟨t0, t1, t2⟩ := row3 hS
      have tf : ∀ o, wr.frozen? ⟨w.heap.size + 1, o, none⟩ = false := hS.frozen
      have HS := Lib.hid hS
      clear hS
      have HRR := Lib.hid hR
      have hz1 := hz
      go_wp2_with fail
      go_region_with (first | (go_at_fn F; refine (HF.out k hlt _ (by repeat' (first | with_reducible exact Below.refl _ _ | with_reducible assumption | (with_reducible refine Below.setCell ?_ (by first | omega | (simp; done) | (simp; omega)) _) | (with_reducible refine Below.alloc ?_ (by first | omega | (simp; done) | (simp; omega)) _) | (with_reducible refine below_drewN ?_ _) | (with_reducible refine Below.drew ?_) | (with_reducible refine Below.trans ?_ (Below.mono (by first | (with_reducible assumption) | exact Grow.below (by assumption)) (by first | omega | (simp; done) | (simp; omega))))))).mono ?_; rintro eq wq ⟨⟨rq0, rq1, rq2, rfl, hq0, hq1, hq2⟩, hbp⟩; have hS1 := rth hbp (HS.out.alloc _) rfl; have hR1 := rth hbp (hR.alloc _) rfl; obtain ⟨t0', t1', t2'⟩ := row3 hS1; have tf' : ∀ o, wq.frozen? ⟨w.heap.size + 1, o, none⟩ = false := hS1.frozen; have hl' := hS1.lt; have HS1 := Lib.hid hS1; clear hS1) | (go_at_call 48; refine (implAdd (by assumption) (by assumption) (by assumption) (by assumption) (by assumption) (by assumption) _).mono ?_; rintro eq wq ⟨rq0, rq1, rq2, rfl, hq0, hq1, hq2, hb⟩; obtain ⟨hc, hf⟩ := bcell hb.1; have hz := hb.2; try simp at hz))
      all_goals
        have hS2 := rt HS1.out hb.1
        have hR2 := rt hR1 hb.1
        go_wp2
        go_roundw
        case rel =>
          refine ⟨k + 1, rq0, rq1, rq2, by omega, by go_num, by rw [sumP_succ]; exact hq0, by rw [sumP_succ]; exact hq1, by rw [sumP_succ]; exact hq2, set3 hS2 _ _ _, ((hR2.setOther (Nat.ne_of_lt (Nat.lt_succ_self _)) _).setOther (Nat.ne_of_lt (Nat.lt_succ_self _)) _).setOther (Nat.ne_of_lt (Nat.lt_succ_self _)) _, ?_⟩
          have hb3 : Below w.heap.size w _ := ((hbel.alloc hz1 _).drew).trans (hbp.mono (by simp; omega))
          have hb4 := hb3.trans (hb.1.mono (by omega))
          exact ((hb4.setCell (by simp) _).setCell (by simp) _).setCell (by simp) _
        case measure => simp [intOf]; omega
    · have hkn : Hid (k = n) := (show k = n by omega)
      have hz := hbel.size
      have hlS := hS.lt
      obtain ⟨t0, t1, t2⟩ := row3 hS
      obtain ⟨u0, u1, u2⟩ := row3 hR
      have tf : ∀ o, wr.frozen? ⟨w.heap.size, o, none⟩ = false := hR.frozen
      go_wp2
      refine bodyPost_ret (v := vecV s0 s1 s2) (by simp [results, Try.results62, go_sem, u0, u1, u2]) rfl ⟨⟨_, _, _, rfl, hkn.out ▸ j0, hkn.out ▸ j1, hkn.out ▸ j2⟩, ?_⟩
      repeat' (first | with_reducible exact Below.refl _ _ | with_reducible assumption | (with_reducible refine Below.setCell ?_ (by first | omega | (simp; done) | (simp; omega)) _) | (with_reducible refine Below.alloc ?_ (by first | omega | (simp; done) | (simp; omega)) _) | (with_reducible refine below_drewN ?_ _) | (with_reducible refine Below.drew ?_) | (with_reducible refine Below.trans ?_ (Below.mono (by first | (with_reducible assumption) | exact Grow.below (by assumption)) (by first | omega | (simp; done) | (simp; omega)))))
end Go.Proofs.Ytjljdnkedbejaaa
