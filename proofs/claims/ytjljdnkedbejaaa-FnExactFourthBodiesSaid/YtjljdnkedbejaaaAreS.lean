/-
  Whether a list has bodies, of the program and of the model: the lists. No condition.
-/
import Derived.Test.YtjljdnkedbejaaaAre
namespace Go.Proofs.Ytjljdnkedbejaaa
open Go.RowKit

/-- Whether the body k of the values is one. -/
def okB (v : Nat → Option Nat) (k : Nat) : Bool := ok7 (v (7 * k)) (v (7 * k + 1)) (v (7 * k + 2)) (v (7 * k + 3)) (v (7 * k + 4)) (v (7 * k + 5)) (v (7 * k + 6))
def allB (v : Nat → Option Nat) : Nat → Bool
  | 0 => true
  | k + 1 => allB v k && okB v k
def areB (v : Nat → Option Nat) (n : Nat) : Bool := decide (n ≤ 16) && allB v n

theorem allB_at {v : Nat → Option Nat} {n k : Nat} (h : allB v n = true) (hk : k < n) : okB v k = true := by
  induction n with
  | zero => omega
  | succ m ih =>
    simp only [allB, Bool.and_eq_true] at h
    by_cases e : k = m
    · subst e; exact h.2
    · exact ih h.1 (by omega)
theorem allB_false {v : Nat → Option Nat} {n k : Nat} (h : okB v k = false) (hk : k < n) : allB v n = false := by
  cases hn : allB v n with
  | false => rfl
  | true => rw [allB_at hn hk] at h; cases h

set_option maxHeartbeats 1600000 in
theorem iIndex (b off n cap : Nat) (f : Nat → Nat) (v : Nat → Option Nat) (w : World) (hn : n ≤ 16) (hb : b < w.heap.size) (hr : ∀ i, i < 7 * n → w.cell? ⟨b, off + i, none⟩ = some (.float .f32 (f i))) (hv : ∀ i, i < 7 * n → Is .f32 (f i) (v i)) :
    Calls Try.prog 40 #[.slice (some ⟨b, off, none⟩) n cap, .func (.func 28) #[] #[]] w fun e w' => (∃ r : Int, e = .returned (.int .i64 r) ∧ decide (0 ≤ r) = !allB v n) ∧ Below w.heap.size w w' := by
  have HR := Lib.hid hr
  have HV := Lib.hid hv
  clear hr hv
  go_enter Try.func40, Try.ntmps40
  go_wp2
  go_loopw [8] (fun i wr => ∃ k : Nat, k ≤ n ∧ i = .int .i64 k ∧ allB v k = true ∧ Below w.heap.size w wr) (fun i _ => n - (intOf i).toNat)
  case atStart => exact ⟨0, Nat.zero_le _, rfl, rfl, Below.refl _ _⟩
  case round =>
    obtain ⟨k, hk, rfl, hall, hbel⟩ := hrel
    by_cases hlt : k < n
    · obtain ⟨c0, c1, c2, c3, c4, c5, c6⟩ := cells7 HR.out hlt
      rw [← hbel.cell (by exact hb)] at c0 c1 c2 c3 c4 c5 c6
      have hz := hbel.size
      cases hok : okB v k with
      | true =>
        have hok' := hok
        unfold okB at hok'
        go_wp2_with (go_at_call 28; refine (iNoBody (HV.out (7 * k) (by omega)) (HV.out (7 * k + 1) (by omega)) (HV.out (7 * k + 2) (by omega)) (HV.out (7 * k + 3) (by omega)) (HV.out (7 * k + 4) (by omega)) (HV.out (7 * k + 5) (by omega)) (HV.out (7 * k + 6) (by omega)) _).mono ?_; rintro eq wq ⟨rfl, hq⟩)
        go_roundw
        case rel => exact ⟨k + 1, by omega, by go_num, by simp [allB, hall, hok], hbel.trans (hq.mono hz)⟩
        case measure => simp [intOf]; omega
      | false =>
        have hok' := hok
        unfold okB at hok'
        have hf := allB_false hok hlt
        go_wp2_with (go_at_call 28; refine (iNoBody (HV.out (7 * k) (by omega)) (HV.out (7 * k + 1) (by omega)) (HV.out (7 * k + 2) (by omega)) (HV.out (7 * k + 3) (by omega)) (HV.out (7 * k + 4) (by omega)) (HV.out (7 * k + 5) (by omega)) (HV.out (7 * k + 6) (by omega)) _).mono ?_; rintro eq wq ⟨rfl, hq⟩)
        go_ret
        exact ⟨⟨_, rfl, by rw [hf]; simp⟩, hbel.trans (hq.mono hz)⟩
    · have hkn : Hid (k = n) := (show k = n by omega)
      go_wp2
      go_ret
      exact ⟨⟨_, rfl, by rw [← hkn.out, hall]; simp⟩, hbel⟩

theorem iContains (b off n cap : Nat) (f : Nat → Nat) (v : Nat → Option Nat) (w : World) (hn : n ≤ 16) (hb : b < w.heap.size) (hr : ∀ i, i < 7 * n → w.cell? ⟨b, off + i, none⟩ = some (.float .f32 (f i))) (hv : ∀ i, i < 7 * n → Is .f32 (f i) (v i)) :
    Calls Try.prog 27 #[.slice (some ⟨b, off, none⟩) n cap, .func (.func 28) #[] #[]] w fun e w' => e = .returned (.bool (!allB v n)) ∧ Below w.heap.size w w' := by
  have HC := iIndex b off n cap f v w hn hb hr hv
  clear hr hv
  go_enter Try.func27, Try.ntmps27
  go_wp2_with (go_at_call 40; refine HC.mono ?_; rintro eq wq ⟨⟨rq, rfl, hq⟩, hb⟩)
  go_ret
  exact ⟨by rw [← hq]; rfl, hb⟩

theorem iAre (b off n cap : Nat) (f : Nat → Nat) (v : Nat → Option Nat) (w : World) (hn : n ≤ 1048576) (hb : b < w.heap.size) (hr : ∀ i, i < 7 * n → w.cell? ⟨b, off + i, none⟩ = some (.float .f32 (f i))) (hv : ∀ i, i < 7 * n → Is .f32 (f i) (v i)) :
    Calls Try.prog 16 #[.slice (some ⟨b, off, none⟩) n cap] w fun e w' => e = .returned (.bool (areB v n)) ∧ Below w.heap.size w w' := by
  by_cases h : n ≤ 16
  · have hd : decide (((n : Nat) : Int) ≤ 16) = true := by simp; omega
    have hs : areB v n = allB v n := by simp [areB, h]
    have HC := iContains b off n cap f v w h hb hr hv
    clear hr hv
    go_enter Try.func16, Try.ntmps16
    go_wp2_with (go_at_call 27; refine HC.mono ?_; rintro eq wq ⟨rfl, hb⟩)
    go_ret
    exact ⟨by rw [hs]; simp, hb⟩
  · have hd : decide (((n : Nat) : Int) ≤ 16) = false := by simp; omega
    have hs : areB v n = false := by simp [areB, h]
    clear hr hv
    go_enter Try.func16, Try.ntmps16
    go_wp2_with fail
    go_ret
    exact ⟨by rw [hs]; simp, Below.refl _ _⟩

set_option maxHeartbeats 1600000 in
theorem sAre (b off n cap : Nat) (f : Nat → Nat) (v : Nat → Option Nat) (w : World) (hn : n ≤ 1048576) (hb : b < w.heap.size) (hr : ∀ i, i < 7 * n → w.cell? ⟨b, off + i, none⟩ = some (.float .f32 (f i))) (hv : ∀ i, i < 7 * n → Is .f32 (f i) (v i)) :
    Calls Try.prog 26 #[.slice (some ⟨b, off, none⟩) n cap] w fun e w' => e = .returned (.bool (areB v n)) ∧ Below w.heap.size w w' := by
  by_cases h : n ≤ 16
  · have hd : decide (((n : Nat) : Int) ≤ 16) = true := by simp; omega
    have hs : areB v n = allB v n := by simp [areB, h]
    have HR := Lib.hid hr
    have HV := Lib.hid hv
    clear hr hv
    go_enter Try.func26, Try.ntmps26
    go_wp2
    go_loopw [3] (fun i wr => ∃ k : Nat, k ≤ n ∧ i = .int .i64 k ∧ allB v k = true ∧ Below w.heap.size w wr) (fun i _ => n - (intOf i).toNat)
    case atStart => exact ⟨0, Nat.zero_le _, rfl, rfl, Below.refl _ _⟩
    case round =>
      obtain ⟨k, hk, rfl, hall, hbel⟩ := hrel
      by_cases hlt : k < n
      · obtain ⟨c0, c1, c2, c3, c4, c5, c6⟩ := cells7 HR.out hlt
        rw [← hbel.cell (by exact hb)] at c0 c1 c2 c3 c4 c5 c6
        have hz := hbel.size
        cases hok : okB v k with
        | true =>
          have hok' := hok
          unfold okB at hok'
          go_wp2_with (go_at_call 39; refine (sBody (HV.out (7 * k) (by omega)) (HV.out (7 * k + 1) (by omega)) (HV.out (7 * k + 2) (by omega)) (HV.out (7 * k + 3) (by omega)) (HV.out (7 * k + 4) (by omega)) (HV.out (7 * k + 5) (by omega)) (HV.out (7 * k + 6) (by omega)) _ _ _ (by omega) c0 c1 c2 c3 c4 c5 c6).mono ?_; rintro eq wq ⟨rfl, hq⟩)
          go_roundw
          case rel => exact ⟨k + 1, by omega, by go_num, by simp [allB, hall, hok], hbel.trans (hq.mono hz)⟩
          case measure => simp [intOf]; omega
        | false =>
          have hok' := hok
          unfold okB at hok'
          have hf := allB_false hok hlt
          go_wp2_with (go_at_call 39; refine (sBody (HV.out (7 * k) (by omega)) (HV.out (7 * k + 1) (by omega)) (HV.out (7 * k + 2) (by omega)) (HV.out (7 * k + 3) (by omega)) (HV.out (7 * k + 4) (by omega)) (HV.out (7 * k + 5) (by omega)) (HV.out (7 * k + 6) (by omega)) _ _ _ (by omega) c0 c1 c2 c3 c4 c5 c6).mono ?_; rintro eq wq ⟨rfl, hq⟩)
          go_ret
          exact ⟨by rw [hs, hf]; rfl, hbel.trans (hq.mono hz)⟩
      · have hkn : Hid (k = n) := (show k = n by omega)
        go_wp2
        go_ret
        exact ⟨by rw [hs, ← hkn.out, hall]; rfl, hbel⟩
  · have hd : decide (((n : Nat) : Int) ≤ 16) = false := by simp; omega
    have hs : areB v n = false := by simp [areB, h]
    clear hr hv
    go_enter Try.func26, Try.ntmps26
    go_wp2
    go_loopw [3] (fun i wr => i = .int .i64 0 ∧ wr = w) (fun i _ => 0)
    case atStart => exact ⟨rfl, rfl⟩
    case round =>
      obtain ⟨rfl, rfl⟩ := hrel
      go_wp2
      go_ret
      exact ⟨by rw [hs]; rfl, Below.refl _ _⟩

theorem bt {w w1 w2 : World} (h1 : Below w.heap.size w w1) (h2 : Below w1.heap.size w1 w2) : Below w.heap.size w w2 := h1.trans (h2.mono h1.size)
theorem rt {w1 w2 : World} {b n : Nat} {t : TypeId} {f : Nat → Value} (hr : w1.rowIs b t n f) (h2 : Below w1.heap.size w1 w2) : w2.rowIs b t n f := row_below hr h2 hr.lt
theorem rowCells {w : World} {b n : Nat} {t : TypeId} {f : Nat → Nat} (h : w.rowIs b t n (wordV f)) : ∀ i, i < n → w.cell? ⟨b, 0 + i, none⟩ = some (.float .f32 (f i)) := fun i hi => by rw [Nat.zero_add]; exact h.cell hi

theorem szB (a : Option Addr) (n cap : Nat) (w : World) (hn : n ≤ 1048576) :
    Calls Try.prog 6 #[.slice a n cap, .int .i64 1048576] w fun e w' => e = .returned (.int .i64 (1048576 - n)) ∧ w' = w := by
  have hd : decide (1048576 - (n : Int) < 0) = false := by simp; omega
  go_enter Try.func6, Try.ntmps6
  go_wp2
  go_ret
  exact ⟨rfl, rfl⟩
theorem szB_out (a : Option Addr) (n cap : Nat) (w : World) (hn : 1048576 < n) (hm : n ≤ maxLen) :
    Calls Try.prog 6 #[.slice a n cap, .int .i64 1048576] w fun e w' => e = .returned (.int .i64 (-1)) ∧ w' = w := by
  have hw : wrap64 (1048576 - (n : Int)) = 1048576 - n := by unfold maxLen at hm; unfold wrap64; omega
  have hd : decide (1048576 - (n : Int) < 0) = true := by simp; omega
  go_enter Try.func6, Try.ntmps6
  go_wp2
  go_ret
  exact ⟨rfl, rfl⟩
end Go.Proofs.Ytjljdnkedbejaaa
