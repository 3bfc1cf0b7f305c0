/-
  The sum of all masses, of the program and of the model. No condition.
-/
import Derived.Test.YtkhinppmldodiaaAreS
namespace Go.Proofs.Ytkhinppmldodiaa
open Go.RowKit

/-- A number is handed back, and whether it is good. -/
def RetNum (v : Option Nat) (ok : Bool) (w : World) (e : Ending) (w' : World) : Prop := (∃ r, e = .returned (.tuple #[.float .f32 r, .bool ok]) ∧ Is .f32 r v) ∧ Below w.heap.size w w'

theorem zero32 : Is .f32 0 (some 0) := is_lit32 0 (by decide)

/-- A number if it is finite. -/
def finN (v : Option Nat) : Option Nat := if finS v then v else some 0

theorem iFinN {x : Nat} {v : Option Nat} (ix : Is .f32 x v) (w : World) : Calls Try.prog 67 #[.float .f32 x] w (RetNum (finN v) (finS v) w) := by
  unfold finN
  cases h : finS v with
  | false =>
    go_enter Try.func67, Try.ntmps67
    go_wp2_with (go_at_call 60; refine (sFinite (by assumption) _).mono ?_; rintro eq wq ⟨nq, rfl, rfl⟩)
    go_ret2
    exact ⟨⟨_, rfl, zero32⟩, by repeat' (first | with_reducible exact Below.refl _ _ | with_reducible assumption | (with_reducible refine Below.setCell ?_ (by first | omega | (simp; done) | (simp; omega)) _) | (with_reducible refine Below.alloc ?_ (by first | omega | (simp; done) | (simp; omega)) _) | (with_reducible refine below_drewN ?_ _) | (with_reducible refine Below.drew ?_) | (with_reducible refine Below.trans ?_ (Below.mono (by first | (with_reducible assumption) | exact Grow.below (by assumption)) (by first | omega | (simp; done) | (simp; omega)))))⟩
  | true =>
    go_enter Try.func67, Try.ntmps67
    go_wp2_with (go_at_call 60; refine (sFinite (by assumption) _).mono ?_; rintro eq wq ⟨nq, rfl, rfl⟩)
    go_ret2
    exact ⟨⟨_, rfl, ix⟩, by repeat' (first | with_reducible exact Below.refl _ _ | with_reducible assumption | (with_reducible refine Below.setCell ?_ (by first | omega | (simp; done) | (simp; omega)) _) | (with_reducible refine Below.alloc ?_ (by first | omega | (simp; done) | (simp; omega)) _) | (with_reducible refine below_drewN ?_ _) | (with_reducible refine Below.drew ?_) | (with_reducible refine Below.trans ?_ (Below.mono (by first | (with_reducible assumption) | exact Grow.below (by assumption)) (by first | omega | (simp; done) | (simp; omega)))))⟩

theorem sFinN {x : Nat} {v : Option Nat} (ix : Is .f32 x v) (w : World) : Calls Try.prog 65 #[.float .f32 x] w (RetNum (finN v) (finS v) w) := by
  unfold finN
  cases h : finS v with
  | false =>
    go_enter Try.func65, Try.ntmps65
    go_wp2_with (go_at_call 58; refine (finite_any (by assumption) _).mono ?_; rintro eq wq ⟨nq, rfl, rfl⟩)
    go_ret2
    exact ⟨⟨_, rfl, zero32⟩, by repeat' (first | with_reducible exact Below.refl _ _ | with_reducible assumption | (with_reducible refine Below.setCell ?_ (by first | omega | (simp; done) | (simp; omega)) _) | (with_reducible refine Below.alloc ?_ (by first | omega | (simp; done) | (simp; omega)) _) | (with_reducible refine below_drewN ?_ _) | (with_reducible refine Below.drew ?_) | (with_reducible refine Below.trans ?_ (Below.mono (by first | (with_reducible assumption) | exact Grow.below (by assumption)) (by first | omega | (simp; done) | (simp; omega)))))⟩
  | true =>
    go_enter Try.func65, Try.ntmps65
    go_wp2_with (go_at_call 58; refine (finite_any (by assumption) _).mono ?_; rintro eq wq ⟨nq, rfl, rfl⟩)
    go_ret2
    exact ⟨⟨_, rfl, ix⟩, by repeat' (first | with_reducible exact Below.refl _ _ | with_reducible assumption | (with_reducible refine Below.setCell ?_ (by first | omega | (simp; done) | (simp; omega)) _) | (with_reducible refine Below.alloc ?_ (by first | omega | (simp; done) | (simp; omega)) _) | (with_reducible refine below_drewN ?_ _) | (with_reducible refine Below.drew ?_) | (with_reducible refine Below.trans ?_ (Below.mono (by first | (with_reducible assumption) | exact Grow.below (by assumption)) (by first | omega | (simp; done) | (simp; omega)))))⟩

/-- The sum of the first k masses. -/
def massO (v : Nat → Option Nat) : Nat → Option Nat
  | 0 => some 0
  | k + 1 => fo .add .f32 (massO v k) (v (7 * k + 6))
theorem massO_succ (v : Nat → Option Nat) (k : Nat) : massO v (k + 1) = fo .add .f32 (massO v k) (v (7 * k + 6)) := rfl
def massOk (v : Nat → Option Nat) (n : Nat) : Bool := areB v n && finS (massO v n)
def massN (v : Nat → Option Nat) (n : Nat) : Option Nat := if areB v n then finN (massO v n) else some 0

theorem massN_t {v : Nat → Option Nat} {n : Nat} (h : areB v n = true) : massN v n = finN (massO v n) := by simp [massN, h]
theorem massN_f {v : Nat → Option Nat} {n : Nat} (h : areB v n = false) : massN v n = some 0 := by simp [massN, h]
theorem massOk_t {v : Nat → Option Nat} {n : Nat} (h : areB v n = true) : massOk v n = finS (massO v n) := by simp [massOk, h]
theorem massOk_f {v : Nat → Option Nat} {n : Nat} (h : areB v n = false) : massOk v n = false := by simp [massOk, h]

set_option maxHeartbeats 1600000 in
theorem sMass (b off n cap : Nat) (f : Nat → Nat) (v : Nat → Option Nat) (w : World) (hn : n ≤ 16) (hb : b < w.heap.size) (hr : ∀ i, i < 7 * n → w.cell? ⟨b, off + i, none⟩ = some (.float .f32 (f i))) (hv : ∀ i, i < 7 * n → Is .f32 (f i) (v i)) :
    Calls Try.prog 66 #[.slice (some ⟨b, off, none⟩) n cap] w (RetF .f32 (massO v n) w) := by
  have HR := Lib.hid hr
  have HV := Lib.hid hv
  clear hr hv
  go_enter Try.func66, Try.ntmps66
  go_wp2
  go_loopw [3, 4] (fun s i wr => ∃ k r m : Nat, k ≤ n ∧ i = .int .i64 k ∧ s = .float .f32 r ∧ Is .f32 r (massO v k) ∧ wr = w.drewN m) (fun _ i _ => n - (intOf i).toNat)
  case atStart => exact ⟨0, 0, 0, Nat.zero_le _, rfl, rfl, zero32, rfl⟩
  case round =>
    obtain ⟨k, r, m, hk, rfl, rfl, hs, rfl⟩ := hrel
    by_cases hlt : k < n
    · obtain ⟨c0, c1, c2, c3, c4, c5, c6⟩ := cells7 HR.out hlt
      have hi : Is .f32 (f (7 * k + 6)) (v (7 * k + 6)) := HV.out _ (by omega)
      go_wp2_with (apply wpList_arith; rfl; simp [Arith]; rfl; rfl; (first | assumption | exact is_lit64 _ (by decide) | exact is_lit32 _ (by decide)); (first | assumption | exact is_lit64 _ (by decide) | exact is_lit32 _ (by decide)); intro Kq hKq rq nq hq; go_simp)
      go_roundw
      case rel => exact ⟨k + 1, _, _, by omega, by go_num, rfl, by rw [massO_succ]; exact hq, rfl⟩
      case measure => simp [intOf]; omega
    · have hkn : Hid (k = n) := (show k = n by omega)
      go_wp2
      go_ret
      exact ⟨_, _, rfl, by rw [← hkn.out]; exact hs, rfl⟩

set_option maxHeartbeats 1600000 in
theorem iMass (b off n cap : Nat) (f : Nat → Nat) (v : Nat → Option Nat) (w : World) (hn : n ≤ 1048576) (hb : b < w.heap.size) (hr : ∀ i, i < 7 * n → w.cell? ⟨b, off + i, none⟩ = some (.float .f32 (f i))) (hv : ∀ i, i < 7 * n → Is .f32 (f i) (v i)) :
    Calls Try.prog 48 #[.slice (some ⟨b, off, none⟩) n cap] w (RetNum (massN v n) (massOk v n) w) := by
  have hst := run_store_float Try.prog
  have HC := iAre b off n cap f v w hn hb hr hv
  have HR := Lib.hid hr
  have HV := Lib.hid hv
  clear hr hv
  cases ha : areB v n with
  | false =>
    rw [ha] at HC
    rw [massN_f ha, massOk_f ha]
    go_enter Try.func48, Try.ntmps48
    go_wp2_with (go_at_call 42; refine (HC).mono ?_; rintro _ W1 ⟨rfl, b1⟩)
    go_ret2
    exact ⟨⟨_, rfl, zero32⟩, b1⟩
  | true =>
    rw [ha] at HC
    rw [massN_t ha, massOk_t ha]
    go_enter Try.func48, Try.ntmps48
    go_wp2_with (go_at_call 42; refine (HC).mono ?_; rintro _ W1 ⟨rfl, b1⟩)
    go_loopw [4, 12] (fun s i wr => ∃ k r : Nat, k ≤ n ∧ i = .int .i64 k ∧ s = .float .f32 r ∧ Is .f32 r (massO v k) ∧ Below w.heap.size w wr) (fun _ i _ => n - (intOf i).toNat)
    case atStart => exact ⟨0, 0, Nat.zero_le _, rfl, rfl, zero32, b1⟩
    case round =>
      obtain ⟨k, r, hk, rfl, rfl, hs, hbel⟩ := hrel
      by_cases hlt : k < n
      · obtain ⟨c0, c1, c2, c3, c4, c5, c6⟩ := cells7 HR.out hlt
        rw [← hbel.cell (by exact hb)] at c0 c1 c2 c3 c4 c5 c6
        have hz := hbel.size
        have hb2 : b < wr.heap.size := by omega
        have hi : Is .f32 (f (7 * k + 6)) (v (7 * k + 6)) := HV.out _ (by omega)
        go_wp2_with (apply wpList_arith; rfl; simp [Arith]; rfl; rfl; (first | assumption | exact is_lit64 _ (by decide) | exact is_lit32 _ (by decide)); (first | assumption | exact is_lit64 _ (by decide) | exact is_lit32 _ (by decide)); intro Kq hKq rq nq hq; go_simp)
        go_roundw
        case rel => exact ⟨k + 1, _, by omega, by go_num, rfl, by rw [massO_succ]; exact hq, by repeat' (first | with_reducible exact Below.refl _ _ | with_reducible assumption | (with_reducible refine Below.setCell ?_ (by first | omega | (simp; done) | (simp; omega)) _) | (with_reducible refine Below.alloc ?_ (by first | omega | (simp; done) | (simp; omega)) _) | (with_reducible refine below_drewN ?_ _) | (with_reducible refine Below.drew ?_) | (with_reducible refine Below.trans ?_ (Below.mono (by first | (with_reducible assumption) | exact Grow.below (by assumption)) (by first | omega | (simp; done) | (simp; omega)))))⟩
        case measure => simp [intOf]; omega
      · have hkn : Hid (k = n) := (show k = n by omega)
        go_wp2_with (go_at_call 67; refine (iFinN hs _).mono ?_; rintro _ W3 ⟨⟨r3, rfl, hr3⟩, b3⟩)
        go_ret2
        exact ⟨⟨_, by rw [← hkn.out]; rfl, by rw [← hkn.out]; exact hr3⟩, bt hbel b3⟩

set_option maxHeartbeats 800000 in
theorem specMass (b off n cap : Nat) (f : Nat → Nat) (v : Nat → Option Nat) (w : World) (hn : n ≤ 1048576) (hb : b < w.heap.size) (hr : ∀ i, i < 7 * n → w.cell? ⟨b, off + i, none⟩ = some (.float .f32 (f i))) (hv : ∀ i, i < 7 * n → Is .f32 (f i) (v i)) :
    Calls Try.prog 47 #[.slice (some ⟨b, off, none⟩) n cap] w (RetNum (massN v n) (massOk v n) w) := by
  have HC := sAre b off n cap f v w hn hb hr hv
  have HR := Lib.hid hr
  have HV := Lib.hid hv
  clear hr hv
  cases ha : areB v n with
  | false =>
    rw [ha] at HC
    rw [massN_f ha, massOk_f ha]
    go_enter Try.func47, Try.ntmps47
    go_wp2_with (go_at_call 30; refine (HC).mono ?_; rintro _ W1 ⟨rfl, b1⟩)
    go_ret2
    exact ⟨⟨_, rfl, zero32⟩, b1⟩
  | true =>
    rw [ha] at HC
    rw [massN_t ha, massOk_t ha]
    have h16 : n ≤ 16 := by simp [areB] at ha; exact ha.1
    go_enter Try.func47, Try.ntmps47
    go_wp2_with (first | (go_at_call 30; refine (HC).mono ?_; rintro _ W1 ⟨rfl, b1⟩) | (go_at_call 66; refine (sMass _ off n _ f v _ h16 (Nat.lt_of_lt_of_le hb b1.size) (fun i hi => (b1.cell (p := ⟨b, off + i, none⟩) hb).trans (HR.out i hi)) HV.out).mono ?_; rintro _ _ ⟨r2, n2, rfl, hr2, rfl⟩) | (go_at_call 65; refine (sFinN (by assumption) _).mono ?_; rintro _ W3 ⟨⟨r3, rfl, hr3⟩, b3⟩))
    go_ret2
    exact ⟨⟨_, rfl, hr3⟩, bt (below_drewN b1 _) b3⟩
end Go.Proofs.Ytkhinppmldodiaa
