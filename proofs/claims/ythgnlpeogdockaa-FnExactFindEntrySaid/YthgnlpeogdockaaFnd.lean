/-
  The place of an entry in a list: of the program and of the model. No condition.
-/
import Derived.Test.YthgnlpeogdockaaAeS
namespace Go.Proofs.Ythgnlpeogdockaa
open Go.RowKit

/-- Two texts are the same. -/
def hitT (s t : ByteArray) : Bool := s.toList == t.toList
/-- The first of some names that is t, or -1. -/
def findE (s : Nat → ByteArray) (t : ByteArray) : Nat → Int
  | 0 => -1
  | k + 1 => if 0 ≤ findE s t k then findE s t k else if hitT (s k) t then k else -1
theorem findE_none {s : Nat → ByteArray} {t : ByteArray} {k : Nat} (h : findE s t k = -1) (hh : hitT (s k) t = false) : findE s t (k + 1) = -1 := by
  simp [findE, h, hh]
theorem findE_hit {s : Nat → ByteArray} {t : ByteArray} {k : Nat} (h : findE s t k = -1) (hh : hitT (s k) t = true) : ∀ {n}, k < n → findE s t n = k
  | n + 1, hk => by
    by_cases e : k = n
    · subst e; simp [findE, h, hh]
    · have := findE_hit h hh (show k < n by omega)
      simp only [findE, this]
      rw [if_pos (by omega)]

theorem iHit {s t : ByteArray} {a0 a1 a2 a3 a4 a5 a6 : Nat} (N : Nat) (w : World) (hN : N < w.heap.size) (ct : w.cell? ⟨N, 0, none⟩ = some (.string t)) :
    Calls Try.prog 54 #[enV s a0 a1 a2 a3 a4 a5 a6, .pointer (some ⟨N, 0, none⟩)] w fun e w' => e = .returned (.bool (hitT s t)) ∧ Below w.heap.size w w' := by
  have c2 : (w.alloc (.cells #[.string s, .float .f32 a0, .float .f32 a1, .float .f32 a2, .float .f32 a3, .float .f32 a4, .float .f32 a5, .float .f32 a6] 39)).cell? ⟨N, 0, none⟩ = some (.string t) := by
    rw [((Below.refl w.heap.size w).alloc (Nat.le_refl _) _).cell (p := ⟨N, 0, none⟩) hN]; exact ct
  go_enter Try.func54, Try.ntmps54
  go_wp2_with fail
  go_ret
  refine ⟨rfl, ?_⟩
  repeat' (first | with_reducible exact Below.refl _ _ | with_reducible assumption | (with_reducible refine Below.setCell ?_ (by first | omega | (simp; done) | (simp; omega)) _) | (with_reducible refine Below.alloc ?_ (by first | omega | (simp; done) | (simp; omega)) _) | (with_reducible refine below_drewN ?_ _) | (with_reducible refine Below.drew ?_) | (with_reducible refine Below.trans ?_ (Below.mono (by first | (with_reducible assumption) | exact Grow.below (by assumption)) (by first | omega | (simp; done) | (simp; omega)))))

set_option maxHeartbeats 1600000 in
theorem iIndexE (b off n cap N : Nat) (s : Nat → ByteArray) (t : ByteArray) (f : Nat → Nat) (w : World) (hn : n ≤ 1048576) (hb : b < w.heap.size) (hN : N < w.heap.size) (ct : w.cell? ⟨N, 0, none⟩ = some (.string t)) (hr : ∀ i, i < 8 * n → w.cell? ⟨b, off + i, none⟩ = some (enC s f i)) :
    Calls Try.prog 53 #[.slice (some ⟨b, off, none⟩) n cap, .func (.func 54) #[] #[.pointer (some ⟨N, 0, none⟩)]] w fun e w' => e = .returned (.int .i64 (findE s t n)) ∧ Below w.heap.size w w' := by
  have HR := Lib.hid hr
  clear hr
  go_enter Try.func53, Try.ntmps53
  go_wp2
  go_loopw [8] (fun i wr => ∃ k : Nat, k ≤ n ∧ i = .int .i64 k ∧ findE s t k = -1 ∧ Below w.heap.size w wr) (fun i _ => n - (intOf i).toNat)
  case atStart => exact ⟨0, Nat.zero_le _, rfl, rfl, Below.refl _ _⟩
  case round =>
    obtain ⟨k, hk, rfl, hall, hbel⟩ := hrel
    by_cases hlt : k < n
    · obtain ⟨c0, c1, c2, c3, c4, c5, c6, c7⟩ := cells8 HR.out hlt
      rw [← hbel.cell (by exact hb)] at c0 c1 c2 c3 c4 c5 c6 c7
      have hz := hbel.size
      have CC := fun (W : World) (h : Below wr.heap.size wr W) => iHit (s := s k) (t := t) (a0 := f (7 * k)) (a1 := f (7 * k + 1)) (a2 := f (7 * k + 2)) (a3 := f (7 * k + 3)) (a4 := f (7 * k + 4)) (a5 := f (7 * k + 5)) (a6 := f (7 * k + 6)) N W (by have := h.size; omega) ((h.cell (p := ⟨N, 0, none⟩) (show N < wr.heap.size by omega)).trans ((hbel.cell (p := ⟨N, 0, none⟩) hN).trans ct))
      cases hok : hitT (s k) t with
      | false =>
        simp only [hok] at CC
        have hf := findE_none hall hok
        go_wp2_with (go_at_call 54; refine (CC _ (by repeat' (first | with_reducible exact Below.refl _ _ | with_reducible assumption | (with_reducible refine Below.setCell ?_ (by first | omega | (simp; done) | (simp; omega)) _) | (with_reducible refine Below.alloc ?_ (by first | omega | (simp; done) | (simp; omega)) _) | (with_reducible refine below_drewN ?_ _) | (with_reducible refine Below.drew ?_) | (with_reducible refine Below.trans ?_ (Below.mono (by first | (with_reducible assumption) | exact Grow.below (by assumption)) (by first | omega | (simp; done) | (simp; omega))))))).mono ?_; rintro eq wq ⟨rfl, hq⟩)
        go_roundw
        case rel => exact ⟨k + 1, by omega, by go_num, hf, hbel.trans (hq.mono hz)⟩
        case measure => simp [intOf]; omega
      | true =>
        have hf := Lib.hid (findE_hit hall hok hlt)
        simp only [hok] at CC
        go_wp2_with (go_at_call 54; refine (CC _ (by repeat' (first | with_reducible exact Below.refl _ _ | with_reducible assumption | (with_reducible refine Below.setCell ?_ (by first | omega | (simp; done) | (simp; omega)) _) | (with_reducible refine Below.alloc ?_ (by first | omega | (simp; done) | (simp; omega)) _) | (with_reducible refine below_drewN ?_ _) | (with_reducible refine Below.drew ?_) | (with_reducible refine Below.trans ?_ (Below.mono (by first | (with_reducible assumption) | exact Grow.below (by assumption)) (by first | omega | (simp; done) | (simp; omega))))))).mono ?_; rintro eq wq ⟨rfl, hq⟩)
        go_ret
        exact ⟨by rw [hf.out]; rfl, hbel.trans (hq.mono hz)⟩
    · have hkn : Hid (k = n) := (show k = n by omega)
      have ha := Lib.hid hall
      clear hall
      go_wp2
      go_ret
      exact ⟨by rw [← hkn.out, ha.out]; rfl, hbel⟩

set_option maxHeartbeats 1600000 in
theorem sFindE (b off n cap : Nat) (s : Nat → ByteArray) (t : ByteArray) (f : Nat → Nat) (w : World) (hn : n ≤ 1048576) (hb : b < w.heap.size) (hr : ∀ i, i < 8 * n → w.cell? ⟨b, off + i, none⟩ = some (enC s f i)) :
    Calls Try.prog 52 #[.slice (some ⟨b, off, none⟩) n cap, .string t] w fun e w' => e = .returned (.int .i64 (findE s t n)) ∧ Below w.heap.size w w' := by
  have HR := Lib.hid hr
  clear hr
  go_enter Try.func52, Try.ntmps52
  go_wp2
  go_loopw [8] (fun i wr => ∃ k : Nat, k ≤ n ∧ i = .int .i64 k ∧ findE s t k = -1 ∧ Below w.heap.size w wr) (fun i _ => n - (intOf i).toNat)
  case atStart => exact ⟨0, Nat.zero_le _, rfl, rfl, Below.refl _ _⟩
  case round =>
    obtain ⟨k, hk, rfl, hall, hbel⟩ := hrel
    by_cases hlt : k < n
    · obtain ⟨c0, c1, c2, c3, c4, c5, c6, c7⟩ := cells8 HR.out hlt
      rw [← hbel.cell (by exact hb)] at c0
      clear c1 c2 c3 c4 c5 c6 c7
      have hz := hbel.size
      cases hok : hitT (s k) t with
      | false =>
        have hok' := hok
        unfold hitT at hok'
        have hf := findE_none hall hok
        go_wp2
        go_roundw
        case rel => exact ⟨k + 1, by omega, by go_num, hf, by repeat' (first | with_reducible exact Below.refl _ _ | with_reducible assumption | (with_reducible refine Below.setCell ?_ (by first | omega | (simp; done) | (simp; omega)) _) | (with_reducible refine Below.alloc ?_ (by first | omega | (simp; done) | (simp; omega)) _) | (with_reducible refine below_drewN ?_ _) | (with_reducible refine Below.drew ?_) | (with_reducible refine Below.trans ?_ (Below.mono (by first | (with_reducible assumption) | exact Grow.below (by assumption)) (by first | omega | (simp; done) | (simp; omega)))))⟩
        case measure => simp [intOf]; omega
      | true =>
        have hok' := hok
        unfold hitT at hok'
        have hf := Lib.hid (findE_hit hall hok hlt)
        go_wp2
        go_ret
        exact ⟨by rw [hf.out]; rfl, by repeat' (first | with_reducible exact Below.refl _ _ | with_reducible assumption | (with_reducible refine Below.setCell ?_ (by first | omega | (simp; done) | (simp; omega)) _) | (with_reducible refine Below.alloc ?_ (by first | omega | (simp; done) | (simp; omega)) _) | (with_reducible refine below_drewN ?_ _) | (with_reducible refine Below.drew ?_) | (with_reducible refine Below.trans ?_ (Below.mono (by first | (with_reducible assumption) | exact Grow.below (by assumption)) (by first | omega | (simp; done) | (simp; omega)))))⟩
    · have hkn : Hid (k = n) := (show k = n by omega)
      have ha := Lib.hid hall
      clear hall
      go_wp2
      go_ret
      exact ⟨by rw [← hkn.out, ha.out]; rfl, hbel⟩
end Go.Proofs.Ythgnlpeogdockaa
