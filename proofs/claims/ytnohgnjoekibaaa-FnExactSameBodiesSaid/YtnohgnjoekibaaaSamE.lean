/-
  Whether two lists of bodies are the same, of the program. No condition.
-/
import Derived.Test.YtnohgnjoekibaaaSamB
import Derived.Test.YtnohgnjoekibaaaAreS
namespace Go.Proofs.Ytnohgnjoekibaaa
open Go.RowKit

def sameAt (v u : Nat → Option Nat) (k : Nat) : Bool := sameV7 (v (7 * k)) (v (7 * k + 1)) (v (7 * k + 2)) (v (7 * k + 3)) (v (7 * k + 4)) (v (7 * k + 5)) (v (7 * k + 6)) (u (7 * k)) (u (7 * k + 1)) (u (7 * k + 2)) (u (7 * k + 3)) (u (7 * k + 4)) (u (7 * k + 5)) (u (7 * k + 6))
def allS (v u : Nat → Option Nat) : Nat → Bool
  | 0 => true
  | k + 1 => allS v u k && sameAt v u k
theorem allS_at {v u : Nat → Option Nat} {n k : Nat} (h : allS v u n = true) (hk : k < n) : sameAt v u k = true := by
  induction n with
  | zero => omega
  | succ m ih =>
    simp only [allS, Bool.and_eq_true] at h
    by_cases e : k = m
    · subst e; exact h.2
    · exact ih h.1 (by omega)
theorem allS_false {v u : Nat → Option Nat} {n k : Nat} (h : sameAt v u k = false) (hk : k < n) : allS v u n = false := by
  cases hn : allS v u n with
  | false => rfl
  | true => rw [allS_at hn hk] at h; cases h
def sameL (v u : Nat → Option Nat) (n m : Nat) : Bool := decide (n = m) && allS v u n

set_option maxHeartbeats 3200000 in
theorem iEqualF (b off b' off' n m cap cap' : Nat) (f g : Nat → Nat) (v u : Nat → Option Nat) (w : World) (hn : n ≤ 1048576) (hm : m ≤ 1048576) (hb : b < w.heap.size) (hb' : b' < w.heap.size) (hr : ∀ i, i < 7 * n → w.cell? ⟨b, off + i, none⟩ = some (.float .f32 (f i))) (hr' : ∀ i, i < 7 * m → w.cell? ⟨b', off' + i, none⟩ = some (.float .f32 (g i))) (hv : ∀ i, i < 7 * n → Is .f32 (f i) (v i)) (hu : ∀ i, i < 7 * m → Is .f32 (g i) (u i)) :
    Calls Try.prog 23 #[.slice (some ⟨b, off, none⟩) n cap, .slice (some ⟨b', off', none⟩) m cap', .func (.func 24) #[] #[]] w fun e w' => e = .returned (.bool (sameL v u n m)) ∧ Below w.heap.size w w' := by
  have hst := run_store_float Try.prog
  have HR := Lib.hid hr
  have HR' := Lib.hid hr'
  have HV := Lib.hid hv
  have HU := Lib.hid hu
  clear hr hr' hv hu
  by_cases hnm : n = m
  · subst hnm
    have hs : sameL v u n n = allS v u n := by simp [sameL]
    rw [hs]
    go_enter Try.func23, Try.ntmps23
    go_wp2
    go_loopw [17] (fun i wr => ∃ k : Nat, k ≤ n ∧ i = .int .i64 k ∧ allS v u k = true ∧ Below w.heap.size w wr) (fun i _ => n - (intOf i).toNat)
    case atStart => exact ⟨0, Nat.zero_le _, rfl, rfl, Below.refl _ _⟩
    case round =>
      obtain ⟨k, hk, rfl, hall, hbel⟩ := hrel
      by_cases hlt : k < n
      · obtain ⟨c0, c1, c2, c3, c4, c5, c6⟩ := cells7 HR.out hlt
        rw [← hbel.cell (by exact hb)] at c0 c1 c2 c3 c4 c5 c6
        obtain ⟨d0, d1, d2, d3, d4, d5, d6⟩ := cells7 HR'.out hlt
        rw [← hbel.cell (by exact hb')] at d0 d1 d2 d3 d4 d5 d6
        have hz := hbel.size
        have x1 : b < wr.heap.size := by omega
        have x2 : b' < wr.heap.size := by omega
        have x3 : b < wr.heap.size + 1 := by omega
        have x4 : b' < wr.heap.size + 1 := by omega
        have x5 : ¬ b' = wr.heap.size := by omega
        have x6 : ¬ b = wr.heap.size := by omega
        have x7 : ¬ b' = wr.heap.size + 1 := by omega
        cases hok : sameAt v u k with
        | true =>
          have hok' := hok
          unfold sameAt at hok'
          go_wp2_with (go_at_call 24; refine (iSameB (HV.out (7 * k) (by omega)) (HV.out (7 * k + 1) (by omega)) (HV.out (7 * k + 2) (by omega)) (HV.out (7 * k + 3) (by omega)) (HV.out (7 * k + 4) (by omega)) (HV.out (7 * k + 5) (by omega)) (HV.out (7 * k + 6) (by omega)) (HU.out (7 * k) (by omega)) (HU.out (7 * k + 1) (by omega)) (HU.out (7 * k + 2) (by omega)) (HU.out (7 * k + 3) (by omega)) (HU.out (7 * k + 4) (by omega)) (HU.out (7 * k + 5) (by omega)) (HU.out (7 * k + 6) (by omega)) _).mono ?_; rintro eq wq ⟨rfl, hq⟩)
          go_roundw
          case rel => exact ⟨k + 1, by omega, by go_num, by simp [allS, hall, hok], by repeat' (first | with_reducible exact Below.refl _ _ | with_reducible assumption | (with_reducible refine Below.setCell ?_ (by first | omega | (simp; done) | (simp; omega)) _) | (with_reducible refine Below.alloc ?_ (by first | omega | (simp; done) | (simp; omega)) _) | (with_reducible refine below_drewN ?_ _) | (with_reducible refine Below.drew ?_) | (with_reducible refine Below.trans ?_ (Below.mono (by first | (with_reducible assumption) | exact Grow.below (by assumption)) (by first | omega | (simp; done) | (simp; omega)))))⟩
          case measure => simp [intOf]; omega
        | false =>
          have hok' := hok
          unfold sameAt at hok'
          have hf := allS_false hok hlt
          go_wp2_with (go_at_call 24; refine (iSameB (HV.out (7 * k) (by omega)) (HV.out (7 * k + 1) (by omega)) (HV.out (7 * k + 2) (by omega)) (HV.out (7 * k + 3) (by omega)) (HV.out (7 * k + 4) (by omega)) (HV.out (7 * k + 5) (by omega)) (HV.out (7 * k + 6) (by omega)) (HU.out (7 * k) (by omega)) (HU.out (7 * k + 1) (by omega)) (HU.out (7 * k + 2) (by omega)) (HU.out (7 * k + 3) (by omega)) (HU.out (7 * k + 4) (by omega)) (HU.out (7 * k + 5) (by omega)) (HU.out (7 * k + 6) (by omega)) _).mono ?_; rintro eq wq ⟨rfl, hq⟩)
          go_ret
          exact ⟨by rw [hf]; rfl, by repeat' (first | with_reducible exact Below.refl _ _ | with_reducible assumption | (with_reducible refine Below.setCell ?_ (by first | omega | (simp; done) | (simp; omega)) _) | (with_reducible refine Below.alloc ?_ (by first | omega | (simp; done) | (simp; omega)) _) | (with_reducible refine below_drewN ?_ _) | (with_reducible refine Below.drew ?_) | (with_reducible refine Below.trans ?_ (Below.mono (by first | (with_reducible assumption) | exact Grow.below (by assumption)) (by first | omega | (simp; done) | (simp; omega)))))⟩
      · have hkn : Hid (k = n) := (show k = n by omega)
        go_wp2
        go_ret
        exact ⟨by rw [← hkn.out, hall]; rfl, hbel⟩
  · have hd : decide (((n : Nat) : Int) = m) = false := by simp; omega
    have hs : sameL v u n m = false := by simp [sameL, hnm]
    rw [hs]
    go_enter Try.func23, Try.ntmps23
    go_wp2
    go_ret
    exact ⟨rfl, Below.refl _ _⟩

theorem iSameL (b off b' off' n m cap cap' : Nat) (f g : Nat → Nat) (v u : Nat → Option Nat) (w : World) (hn : n ≤ 1048576) (hm : m ≤ 1048576) (hb : b < w.heap.size) (hb' : b' < w.heap.size) (hr : ∀ i, i < 7 * n → w.cell? ⟨b, off + i, none⟩ = some (.float .f32 (f i))) (hr' : ∀ i, i < 7 * m → w.cell? ⟨b', off' + i, none⟩ = some (.float .f32 (g i))) (hv : ∀ i, i < 7 * n → Is .f32 (f i) (v i)) (hu : ∀ i, i < 7 * m → Is .f32 (g i) (u i)) :
    Calls Try.prog 10 #[.slice (some ⟨b, off, none⟩) n cap, .slice (some ⟨b', off', none⟩) m cap'] w fun e w' => e = .returned (.bool (sameL v u n m)) ∧ Below w.heap.size w w' := by
  have HC := iEqualF b off b' off' n m cap cap' f g v u w hn hm hb hb' hr hr' hv hu
  clear hr hr' hv hu
  go_enter Try.func10, Try.ntmps10
  go_wp2_with (go_at_call 23; refine HC.mono ?_; rintro eq wq ⟨rfl, hb⟩)
  go_ret
  exact ⟨rfl, hb⟩
end Go.Proofs.Ytnohgnjoekibaaa
