/-
  Whether a list has looks: of the program, of the model, and the law's text. No condition.
-/
import Derived.Test.YthgnlpeogdockaaLkS
namespace Go.Proofs.Ythgnlpeogdockaa
open Go.RowKit

/-- Whether the look k of the values is one. -/
def okK (v : Nat → Option Nat) (k : Nat) : Bool := lkB (v (5 * k)) (v (5 * k + 1)) (v (5 * k + 2)) (v (5 * k + 3)) (v (5 * k + 4))
def allK (v : Nat → Option Nat) : Nat → Bool
  | 0 => true
  | k + 1 => allK v k && okK v k
def areK (v : Nat → Option Nat) (n : Nat) : Bool := decide (n ≤ 24) && allK v n

theorem allK_at {v : Nat → Option Nat} {n k : Nat} (h : allK v n = true) (hk : k < n) : okK v k = true := by
  induction n with
  | zero => omega
  | succ m ih =>
    simp only [allK, Bool.and_eq_true] at h
    by_cases e : k = m
    · subst e; exact h.2
    · exact ih h.1 (by omega)
theorem allK_false {v : Nat → Option Nat} {n k : Nat} (h : okK v k = false) (hk : k < n) : allK v n = false := by
  cases hn : allK v n with
  | false => rfl
  | true => rw [allK_at hn hk] at h; cases h

set_option maxHeartbeats 1600000 in
theorem iIndexK (b off n cap : Nat) (f : Nat → Nat) (v : Nat → Option Nat) (w : World) (hn : n ≤ 24) (hb : b < w.heap.size) (hr : ∀ i, i < 5 * n → w.cell? ⟨b, off + i, none⟩ = some (.float .f32 (f i))) (hv : ∀ i, i < 5 * n → Is .f32 (f i) (v i)) :
    Calls Try.prog 60 #[.slice (some ⟨b, off, none⟩) n cap, .func (.func 37) #[] #[]] w fun e w' => (∃ r : Int, e = .returned (.int .i64 r) ∧ decide (0 ≤ r) = !allK v n) ∧ Below w.heap.size w w' := by
  have HR := Lib.hid hr
  have HV := Lib.hid hv
  clear hr hv
  go_enter Try.func60, Try.ntmps60
  go_wp2
  go_loopw [8] (fun i wr => ∃ k : Nat, k ≤ n ∧ i = .int .i64 k ∧ allK v k = true ∧ Below w.heap.size w wr) (fun i _ => n - (intOf i).toNat)
  case atStart => exact ⟨0, Nat.zero_le _, rfl, rfl, Below.refl _ _⟩
  case round =>
    obtain ⟨k, hk, rfl, hall, hbel⟩ := hrel
    by_cases hlt : k < n
    · obtain ⟨c0, c1, c2, c3, c4⟩ := cells5 HR.out hlt
      rw [← hbel.cell (by exact hb)] at c0 c1 c2 c3 c4
      have hz := hbel.size
      have CC := fun (W : World) => iNoLook (HV.out (5 * k) (by omega)) (HV.out (5 * k + 1) (by omega)) (HV.out (5 * k + 2) (by omega)) (HV.out (5 * k + 3) (by omega)) (HV.out (5 * k + 4) (by omega)) W
      rw [show lkB (v (5 * k)) (v (5 * k + 1)) (v (5 * k + 2)) (v (5 * k + 3)) (v (5 * k + 4)) = okK v k from rfl] at CC
      cases hok : okK v k with
      | true =>
        simp only [hok] at CC
        go_wp2_with (go_at_call 37; refine (CC _).mono ?_; rintro eq wq ⟨rfl, hq⟩)
        go_roundw
        case rel => exact ⟨k + 1, by omega, by go_num, by simp [allK, hall, hok], hbel.trans (hq.mono hz)⟩
        case measure => simp [intOf]; omega
      | false =>
        have hf := allK_false hok hlt
        simp only [hok] at CC
        go_wp2_with (go_at_call 37; refine (CC _).mono ?_; rintro eq wq ⟨rfl, hq⟩)
        go_ret
        exact ⟨⟨_, rfl, by rw [hf]; simp⟩, hbel.trans (hq.mono hz)⟩
    · have hkn : Hid (k = n) := (show k = n by omega)
      go_wp2
      go_ret
      exact ⟨⟨_, rfl, by rw [← hkn.out, hall]; simp⟩, hbel⟩

theorem iContainsK (b off n cap : Nat) (f : Nat → Nat) (v : Nat → Option Nat) (w : World) (hn : n ≤ 24) (hb : b < w.heap.size) (hr : ∀ i, i < 5 * n → w.cell? ⟨b, off + i, none⟩ = some (.float .f32 (f i))) (hv : ∀ i, i < 5 * n → Is .f32 (f i) (v i)) :
    Calls Try.prog 36 #[.slice (some ⟨b, off, none⟩) n cap, .func (.func 37) #[] #[]] w fun e w' => e = .returned (.bool (!allK v n)) ∧ Below w.heap.size w w' := by
  have HC := iIndexK b off n cap f v w hn hb hr hv
  clear hr hv
  go_enter Try.func36, Try.ntmps36
  go_wp2_with (go_at_call 60; refine HC.mono ?_; rintro eq wq ⟨⟨rq, rfl, hq⟩, hb⟩)
  go_ret
  exact ⟨by rw [← hq]; rfl, hb⟩

theorem iAreK (b off n cap : Nat) (f : Nat → Nat) (v : Nat → Option Nat) (w : World) (hn : n ≤ 1048576) (hb : b < w.heap.size) (hr : ∀ i, i < 5 * n → w.cell? ⟨b, off + i, none⟩ = some (.float .f32 (f i))) (hv : ∀ i, i < 5 * n → Is .f32 (f i) (v i)) :
    Calls Try.prog 13 #[.slice (some ⟨b, off, none⟩) n cap] w fun e w' => e = .returned (.bool (areK v n)) ∧ Below w.heap.size w w' := by
  by_cases h : n ≤ 24
  · have hd : decide (((n : Nat) : Int) ≤ 24) = true := by simp; omega
    have hs : areK v n = allK v n := by simp [areK, h]
    have HC := iContainsK b off n cap f v w h hb hr hv
    clear hr hv
    go_enter Try.func13, Try.ntmps13
    go_wp2_with (go_at_call 36; refine HC.mono ?_; rintro eq wq ⟨rfl, hb⟩)
    go_ret
    exact ⟨by rw [hs]; simp, hb⟩
  · have hd : decide (((n : Nat) : Int) ≤ 24) = false := by simp; omega
    have hs : areK v n = false := by simp [areK, h]
    clear hr hv
    go_enter Try.func13, Try.ntmps13
    go_wp2_with fail
    go_ret
    exact ⟨by rw [hs]; simp, Below.refl _ _⟩

set_option maxHeartbeats 1600000 in
theorem sAreK (b off n cap : Nat) (f : Nat → Nat) (v : Nat → Option Nat) (w : World) (hn : n ≤ 1048576) (hb : b < w.heap.size) (hr : ∀ i, i < 5 * n → w.cell? ⟨b, off + i, none⟩ = some (.float .f32 (f i))) (hv : ∀ i, i < 5 * n → Is .f32 (f i) (v i)) :
    Calls Try.prog 34 #[.slice (some ⟨b, off, none⟩) n cap] w fun e w' => e = .returned (.bool (areK v n)) ∧ Below w.heap.size w w' := by
  by_cases h : n ≤ 24
  · have hd : decide (((n : Nat) : Int) ≤ 24) = true := by simp; omega
    have hs : areK v n = allK v n := by simp [areK, h]
    have HR := Lib.hid hr
    have HV := Lib.hid hv
    clear hr hv
    go_enter Try.func34, Try.ntmps34
    go_wp2
    go_loopw [3] (fun i wr => ∃ k : Nat, k ≤ n ∧ i = .int .i64 k ∧ allK v k = true ∧ Below w.heap.size w wr) (fun i _ => n - (intOf i).toNat)
    case atStart => exact ⟨0, Nat.zero_le _, rfl, rfl, Below.refl _ _⟩
    case round =>
      obtain ⟨k, hk, rfl, hall, hbel⟩ := hrel
      by_cases hlt : k < n
      · obtain ⟨c0, c1, c2, c3, c4⟩ := cells5 HR.out hlt
        rw [← hbel.cell (by exact hb)] at c0 c1 c2 c3 c4
        have hz := hbel.size
        have CC := fun (W : World) (c : Nat) (hc) => sLook (HV.out (5 * k) (by omega)) (HV.out (5 * k + 1) (by omega)) (HV.out (5 * k + 2) (by omega)) (HV.out (5 * k + 3) (by omega)) (HV.out (5 * k + 4) (by omega)) b c W hc
        rw [show lkB (v (5 * k)) (v (5 * k + 1)) (v (5 * k + 2)) (v (5 * k + 3)) (v (5 * k + 4)) = okK v k from rfl] at CC
        cases hok : okK v k with
        | true =>
          simp only [hok] at CC
          go_wp2_with (go_at_call 59; refine (CC _ _ (by omega) c0 c1 c2 c3 c4).mono ?_; rintro eq wq ⟨rfl, hq⟩)
          go_roundw
          case rel => exact ⟨k + 1, by omega, by go_num, by simp [allK, hall, hok], hbel.trans (hq.mono hz)⟩
          case measure => simp [intOf]; omega
        | false =>
          have hf := allK_false hok hlt
          simp only [hok] at CC
          go_wp2_with (go_at_call 59; refine (CC _ _ (by omega) c0 c1 c2 c3 c4).mono ?_; rintro eq wq ⟨rfl, hq⟩)
          go_ret
          exact ⟨by rw [hs, hf]; rfl, hbel.trans (hq.mono hz)⟩
      · have hkn : Hid (k = n) := (show k = n by omega)
        go_wp2
        go_ret
        exact ⟨by rw [hs, ← hkn.out, hall]; rfl, hbel⟩
  · have hd : decide (((n : Nat) : Int) ≤ 24) = false := by simp; omega
    have hs : areK v n = false := by simp [areK, h]
    clear hr hv
    go_enter Try.func34, Try.ntmps34
    go_wp2
    go_loopw [3] (fun i wr => i = .int .i64 0 ∧ wr = w) (fun i _ => 0)
    case atStart => exact ⟨rfl, rfl⟩
    case round =>
      obtain ⟨rfl, rfl⟩ := hrel
      go_wp2
      go_ret
      exact ⟨by rw [hs]; rfl, Below.refl _ _⟩
end Go.Proofs.Ythgnlpeogdockaa
