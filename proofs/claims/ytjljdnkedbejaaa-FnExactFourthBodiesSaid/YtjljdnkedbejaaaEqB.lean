/-
  Bodies whose words stand for the same values are found equal by the laws. No condition.
-/
import Derived.Test.YtjljdnkedbejaaaBodS
namespace Go.Proofs.Ytjljdnkedbejaaa
open Go.RowKit

theorem eqV_any {a0 a1 a2 b0 b1 b2 : Nat} {x0 x1 x2 : Option Nat} (h0 : Is .f32 a0 x0) (h1 : Is .f32 a1 x1) (h2 : Is .f32 a2 x2) (g0 : Is .f32 b0 x0) (g1 : Is .f32 b1 x1) (g2 : Is .f32 b2 x2) (w : World) :
    Calls Try.prog 35 #[vecV a0 a1 a2, vecV b0 b1 b2] w fun e w' => e = .returned (.bool true) ∧ Grow 2 w w' := by
  go_enter Try.func35, Try.ntmps35
  go_wp2_with (first | (apply wpList_wide und32 Try.underlying61; rfl; rfl; (first | assumption | exact is_lit64 _ (by decide) | exact is_lit32 _ (by decide)); intro Kq hKq rq nq hq; go_simp) | (go_at_call 36; refine (sameFloat_any (by assumption) (by assumption) _).mono ?_; rintro eq wq ⟨nq, rfl, rfl⟩))
  go_ret
  refine ⟨rfl, ?_, by simp [*]⟩
  repeat' (first | with_reducible exact Below.refl _ _ | with_reducible assumption | (with_reducible refine Below.setCell ?_ (by first | omega | (simp; done) | (simp; omega)) _) | (with_reducible refine Below.alloc ?_ (by first | omega | (simp; done) | (simp; omega)) _) | (with_reducible refine below_drewN ?_ _) | (with_reducible refine Below.drew ?_) | (with_reducible refine Below.trans ?_ (Below.mono (by first | (with_reducible assumption) | exact Grow.below (by assumption)) (by first | omega | (simp; done) | (simp; omega)))))

set_option maxHeartbeats 1600000 in
theorem eqB_any {a0 a1 a2 a3 a4 a5 a6 b0 b1 b2 b3 b4 b5 b6 : Nat} {x0 x1 x2 x3 x4 x5 x6 : Option Nat} (h0 : Is .f32 a0 x0) (h1 : Is .f32 a1 x1) (h2 : Is .f32 a2 x2) (h3 : Is .f32 a3 x3) (h4 : Is .f32 a4 x4) (h5 : Is .f32 a5 x5) (h6 : Is .f32 a6 x6) (g0 : Is .f32 b0 x0) (g1 : Is .f32 b1 x1) (g2 : Is .f32 b2 x2) (g3 : Is .f32 b3 x3) (g4 : Is .f32 b4 x4) (g5 : Is .f32 b5 x5) (g6 : Is .f32 b6 x6) (w : World) :
    Calls Try.prog 22 #[bodV a0 a1 a2 a3 a4 a5 a6, bodV b0 b1 b2 b3 b4 b5 b6] w fun e w' => e = .returned (.bool true) ∧ Below w.heap.size w w' := by
  go_enter Try.func22, Try.ntmps22
  go_wp2_with (first | (apply wpList_wide und32 Try.underlying61; rfl; rfl; (first | assumption | exact is_lit64 _ (by decide) | exact is_lit32 _ (by decide)); intro Kq hKq rq nq hq; go_simp) | (go_at_call 36; refine (sameFloat_any (by assumption) (by assumption) _).mono ?_; rintro eq wq ⟨nq, rfl, rfl⟩) | (go_at_call 35; refine (eqV_any (by assumption) (by assumption) (by assumption) (by assumption) (by assumption) (by assumption) _).mono ?_; rintro eq wq ⟨rfl, hb⟩; obtain ⟨hc, hf⟩ := bcell hb.1; have hz := hb.2; try simp at hz))
  go_ret
  refine ⟨rfl, ?_⟩
  repeat' (first | with_reducible exact Below.refl _ _ | with_reducible assumption | (with_reducible refine Below.setCell ?_ (by first | omega | (simp; done) | (simp; omega)) _) | (with_reducible refine Below.alloc ?_ (by first | omega | (simp; done) | (simp; omega)) _) | (with_reducible refine below_drewN ?_ _) | (with_reducible refine Below.drew ?_) | (with_reducible refine Below.trans ?_ (Below.mono (by first | (with_reducible assumption) | exact Grow.below (by assumption)) (by first | omega | (simp; done) | (simp; omega)))))

set_option maxHeartbeats 1600000 in
theorem eqBS (ba oa bb ob n ca cb : Nat) (f g : Nat → Nat) (v : Nat → Option Nat) (w : World) (hn : n ≤ 1048576) (la : ba < w.heap.size) (lb : bb < w.heap.size) (ra : ∀ i, i < 7 * n → w.cell? ⟨ba, oa + i, none⟩ = some (.float .f32 (f i))) (rb : ∀ i, i < 7 * n → w.cell? ⟨bb, ob + i, none⟩ = some (.float .f32 (g i))) (ia : ∀ i, i < 7 * n → Is .f32 (f i) (v i)) (ib : ∀ i, i < 7 * n → Is .f32 (g i) (v i)) :
    Calls Try.prog 10 #[.slice (some ⟨ba, oa, none⟩) n ca, .slice (some ⟨bb, ob, none⟩) n cb] w fun e w' => e = .returned (.bool true) ∧ Below w.heap.size w w' := by
  have HA := Lib.hid ra
  have HB := Lib.hid rb
  have IA := Lib.hid ia
  have IB := Lib.hid ib
  clear ra rb ia ib
  go_enter Try.func10, Try.ntmps10
  go_wp2
  go_loopw [5] (fun i wr => ∃ k : Nat, k ≤ n ∧ i = .int .i64 k ∧ Below w.heap.size w wr) (fun i _ => n - (intOf i).toNat)
  case atStart => exact ⟨0, Nat.zero_le _, rfl, Below.refl _ _⟩
  case round =>
    obtain ⟨k, hk, rfl, hbel⟩ := hrel
    by_cases hlt : k < n
    · obtain ⟨c0, c1, c2, c3, c4, c5, c6⟩ := cells7 HA.out hlt
      rw [← hbel.cell (by exact la)] at c0 c1 c2 c3 c4 c5 c6
      obtain ⟨d0, d1, d2, d3, d4, d5, d6⟩ := cells7 HB.out hlt
      rw [← hbel.cell (by exact lb)] at d0 d1 d2 d3 d4 d5 d6
      have hz := hbel.size
      go_wp2_with fail
      go_region_with (go_at_call 22; refine (eqB_any (IA.out (7 * k) (by omega)) (IA.out (7 * k + 1) (by omega)) (IA.out (7 * k + 2) (by omega)) (IA.out (7 * k + 3) (by omega)) (IA.out (7 * k + 4) (by omega)) (IA.out (7 * k + 5) (by omega)) (IA.out (7 * k + 6) (by omega)) (IB.out (7 * k) (by omega)) (IB.out (7 * k + 1) (by omega)) (IB.out (7 * k + 2) (by omega)) (IB.out (7 * k + 3) (by omega)) (IB.out (7 * k + 4) (by omega)) (IB.out (7 * k + 5) (by omega)) (IB.out (7 * k + 6) (by omega)) _).mono ?_; rintro eq wq ⟨rfl, hq⟩)
      all_goals
        go_wp2
        go_roundw
        case rel => exact ⟨k + 1, by omega, by go_num, hbel.drew.trans (hq.mono hz)⟩
        case measure => simp [intOf]; omega
    · go_wp2
      go_ret
      exact ⟨rfl, hbel⟩

theorem eqBS0 (a a' : Option Addr) (ca cb : Nat) (w : World) :
    Calls Try.prog 10 #[.slice a 0 ca, .slice a' 0 cb] w fun e w' => e = .returned (.bool true) ∧ Below w.heap.size w w' := by
  go_enter Try.func10, Try.ntmps10
  go_wp2
  go_loopw [5] (fun i wr => i = .int .i64 0 ∧ wr = w) (fun i _ => 0)
  case atStart => exact ⟨rfl, rfl⟩
  case round =>
    obtain ⟨rfl, rfl⟩ := hrel
    go_wp2
    go_ret
    exact ⟨rfl, Below.refl _ _⟩

/-- The words of two rows stand for the same values. -/
theorem eqRow {ba bb n ca cb : Nat} {t : TypeId} {f g : Nat → Nat} {v : Nat → Option Nat} {w : World} (hn : n ≤ 1048576) (ra : w.rowIs ba t (7 * n) (wordV f)) (rb : w.rowIs bb t (7 * n) (wordV g)) (ia : ∀ i, i < 7 * n → Is .f32 (f i) (v i)) (ib : ∀ i, i < 7 * n → Is .f32 (g i) (v i)) :
    Calls Try.prog 10 #[.slice (some ⟨ba, 0, none⟩) n ca, .slice (some ⟨bb, 0, none⟩) n cb] w fun e w' => e = .returned (.bool true) ∧ Below w.heap.size w w' :=
  eqBS ba 0 bb 0 n ca cb f g v w hn ra.lt rb.lt (fun i hi => by rw [Nat.zero_add]; exact ra.cell hi) (fun i hi => by rw [Nat.zero_add]; exact rb.cell hi) ia ib
end Go.Proofs.Ytjljdnkedbejaaa
