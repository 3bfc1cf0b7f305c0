/-
  Bodies whose centre rests, of the program and of the model. No condition.
-/
import Derived.Test.YtkhinppmldodiaaCenS
import Derived.Test.YtkhinppmldodiaaMovS
import Derived.Test.YtkhinppmldodiaaNegV
namespace Go.Proofs.Ytkhinppmldodiaa
open Go.RowKit

/-- The opposites of the centre and of its speed. -/
def opC (v : Nat → Option Nat) (n i : Nat) : Option Nat := negO .f32 (cenN v n i)
def opS (v : Nat → Option Nat) (n i : Nat) : Option Nat := negO .f32 (cenN v n (i + 3))
def restV (v : Nat → Option Nat) (n : Nat) : Nat → Option Nat := movV v (opC v n) (opS v n)
def restOk (v : Nat → Option Nat) (n : Nat) : Bool := cenOk v n && areB (restV v n) n

theorem rest_ok {v : Nat → Option Nat} {n : Nat} (hc : cenOk v n = true) {r0 r1 r2 r3 r4 r5 : Nat} (i0 : Is .f32 r0 (cenN v n 0)) (i1 : Is .f32 r1 (cenN v n 1)) (i2 : Is .f32 r2 (cenN v n 2)) (i3 : Is .f32 r3 (cenN v n 3)) (i4 : Is .f32 r4 (cenN v n 4)) (i5 : Is .f32 r5 (cenN v n 5)) : movOk v (opC v n) (opS v n) n = areB (restV v n) n := by
  have hN := cenN_t hc
  have hm : massOk v n = true := by simp [cenOk] at hc; exact hc.1
  have h1 : finV (cenO v n 0) (cenO v n 1) (cenO v n 2) = true := by simp [cenOk] at hc; exact hc.2.1
  have h2 : finV (cenO v n 3) (cenO v n 4) (cenO v n 5) = true := by simp [cenOk] at hc; exact hc.2.2
  have e1 : finV (opC v n 0) (opC v n 1) (opC v n 2) = true := by
    rw [← h1]
    unfold finV opC
    rw [finS_neg i0, finS_neg i1, finS_neg i2, hN, hN, hN]
  have e2 : finV (opS v n 0) (opS v n 1) (opS v n 2) = true := by
    rw [← h2]
    unfold finV opS
    rw [finS_neg i3, finS_neg i4, finS_neg i5, hN, hN, hN]
  unfold movOk restV
  rw [e1, e2, mass_are hm]
  rfl

set_option maxHeartbeats 3200000 in
theorem iRest (b off n cap : Nat) (f : Nat → Nat) (v : Nat → Option Nat) (w : World) (hn : n ≤ 1048576) (hb : b < w.heap.size) (hr : ∀ i, i < 7 * n → w.cell? ⟨b, off + i, none⟩ = some (.float .f32 (f i))) (hv : ∀ i, i < 7 * n → Is .f32 (f i) (v i)) :
    Calls Try.prog 24 #[.slice (some ⟨b, off, none⟩) n cap] w (RetList (restV v n) n (restOk v n) w) := by
  have hst := run_store_float Try.prog
  have HR := Lib.hid hr
  have HV := Lib.hid hv
  have HC := iCen b off n cap f v w hn hb hr hv
  clear hr hv
  unfold RetV2 at HC
  cases hc0 : cenOk v n with
  | false =>
    rw [hc0] at HC
    have ho : restOk v n = false := by simp [restOk, hc0]
    rw [ho]
    go_enter Try.func24, Try.ntmps24
    go_wp2_with fail
    refine HC.mono ?_
    rintro _ W1 ⟨⟨r0, r1, r2, r3, r4, r5, rfl, i0, i1, i2, i3, i4, i5⟩, b1⟩
    go_wp2_with fail
    go_ret2
    exact RetList.no ((b1.alloc b1.size _).alloc (by have := b1.size; simp; omega) _)
  | true =>
    rw [hc0] at HC
    have ho : restOk v n = areB (restV v n) n := by simp [restOk, hc0]
    rw [ho]
    go_enter Try.func24, Try.ntmps24
    go_wp2_with fail
    refine HC.mono ?_
    rintro _ W1 ⟨⟨r0, r1, r2, r3, r4, r5, rfl, i0, i1, i2, i3, i4, i5⟩, b1⟩
    go_wp2_with fail
    have z1 := b1.size
    have BX : Below w.heap.size w ((W1.alloc (.cells #[.float .f32 r0, .float .f32 r1, .float .f32 r2] 33)).alloc (.cells #[.float .f32 r3, .float .f32 r4, .float .f32 r5] 33)) := (b1.alloc z1 _).alloc (by simp; omega) _
    have ka0 : ∀ w', Below (W1.heap.size + 2) ((W1.alloc (.cells #[.float .f32 r0, .float .f32 r1, .float .f32 r2] 33)).alloc (.cells #[.float .f32 r3, .float .f32 r4, .float .f32 r5] 33)) w' → w'.cell? ⟨W1.heap.size, 0, none⟩ = some (.float .f32 r0) := fun w' h => by rw [h.cell (by first | omega | (simp; done) | (simp; omega))]; simp
    have ka1 : ∀ w', Below (W1.heap.size + 2) ((W1.alloc (.cells #[.float .f32 r0, .float .f32 r1, .float .f32 r2] 33)).alloc (.cells #[.float .f32 r3, .float .f32 r4, .float .f32 r5] 33)) w' → w'.cell? ⟨W1.heap.size, 1, none⟩ = some (.float .f32 r1) := fun w' h => by rw [h.cell (by first | omega | (simp; done) | (simp; omega))]; simp
    have ka2 : ∀ w', Below (W1.heap.size + 2) ((W1.alloc (.cells #[.float .f32 r0, .float .f32 r1, .float .f32 r2] 33)).alloc (.cells #[.float .f32 r3, .float .f32 r4, .float .f32 r5] 33)) w' → w'.cell? ⟨W1.heap.size, 2, none⟩ = some (.float .f32 r2) := fun w' h => by rw [h.cell (by first | omega | (simp; done) | (simp; omega))]; simp
    have kb0 : ∀ w', Below (W1.heap.size + 2) ((W1.alloc (.cells #[.float .f32 r0, .float .f32 r1, .float .f32 r2] 33)).alloc (.cells #[.float .f32 r3, .float .f32 r4, .float .f32 r5] 33)) w' → w'.cell? ⟨W1.heap.size + 1, 0, none⟩ = some (.float .f32 r3) := fun w' h => by rw [h.cell (by first | omega | (simp; done) | (simp; omega))]; simp
    have kb1 : ∀ w', Below (W1.heap.size + 2) ((W1.alloc (.cells #[.float .f32 r0, .float .f32 r1, .float .f32 r2] 33)).alloc (.cells #[.float .f32 r3, .float .f32 r4, .float .f32 r5] 33)) w' → w'.cell? ⟨W1.heap.size + 1, 1, none⟩ = some (.float .f32 r4) := fun w' h => by rw [h.cell (by first | omega | (simp; done) | (simp; omega))]; simp
    have kb2 : ∀ w', Below (W1.heap.size + 2) ((W1.alloc (.cells #[.float .f32 r0, .float .f32 r1, .float .f32 r2] 33)).alloc (.cells #[.float .f32 r3, .float .f32 r4, .float .f32 r5] 33)) w' → w'.cell? ⟨W1.heap.size + 1, 2, none⟩ = some (.float .f32 r5) := fun w' h => by rw [h.cell (by first | omega | (simp; done) | (simp; omega))]; simp
    have N0 : Is .f32 (Op.negFloat .f32 r0) (opC v n 0) ∧ Is .f32 (Op.negFloat .f32 r1) (opC v n 1) ∧ Is .f32 (Op.negFloat .f32 r2) (opC v n 2) := ⟨is_neg i0, is_neg i1, is_neg i2⟩
    have N3 : Is .f32 (Op.negFloat .f32 r3) (opS v n 0) ∧ Is .f32 (Op.negFloat .f32 r4) (opS v n 1) ∧ Is .f32 (Op.negFloat .f32 r5) (opS v n 2) := ⟨is_neg i3, is_neg i4, is_neg i5⟩
    have MK := fun (W : World) (hW : Below w.heap.size w W) {c0 c1 c2 c3 c4 c5 : Nat} (y0 : Is .f32 c0 (opC v n 0)) (y1 : Is .f32 c1 (opC v n 1)) (y2 : Is .f32 c2 (opC v n 2)) (y3 : Is .f32 c3 (opS v n 0)) (y4 : Is .f32 c4 (opS v n 1)) (y5 : Is .f32 c5 (opS v n 2)) => iMove b off n cap f v (opC v n) (opS v n) y0 y1 y2 y3 y4 y5 W hn (Nat.lt_of_lt_of_le hb hW.size) (cellsB hW hb HR.out) HV.out
    have hok : movOk v (opC v n) (opS v n) n = areB (restV v n) n := rest_ok hc0 i0 i1 i2 i3 i4 i5
    rw [hok] at MK
    go_region_held3 (fun w' => Below (W1.heap.size + 2) ((W1.alloc (.cells #[.float .f32 r0, .float .f32 r1, .float .f32 r2] 33)).alloc (.cells #[.float .f32 r3, .float .f32 r4, .float .f32 r5] 33)) w') ((repeat' (first | with_reducible assumption | with_reducible exact Below.refl _ _ | with_reducible exact keepW (by with_reducible assumption) (by with_reducible assumption) (by first | exact Nat.le_refl _ | assumption | omega | (simp; done) | (simp; omega)) | with_reducible exact keepS (by with_reducible assumption) (by with_reducible assumption) (by first | exact Nat.le_refl _ | assumption | omega | (simp; done) | (simp; omega)) | (with_reducible refine Below.setCell ?_ (by first | omega | (simp; done) | (simp; omega)) _) | (with_reducible refine below_drewN ?_ _) | (with_reducible refine Below.drew ?_) | (with_reducible refine Below.trans ?_ (Below.mono (by with_reducible assumption) (by first | omega | (simp; done) | (simp; omega)))) | (with_reducible refine Below.trans ?_ (Below.mono (Grow.below (by with_reducible assumption)) (by first | omega | (simp; done) | (simp; omega)))) | (with_reducible refine Below.alloc ?_ (by first | omega | (simp; done) | (simp; omega)) _)))) (first | (go_at_call 53; refine (implNeg (by assumption) (by assumption) (by assumption) _).mono ?_; rintro eq wq ⟨c0, c1, c2, rfl, y0, y1, y2, hb⟩) | (go_at_call 15; have hWW : Below w.heap.size w _ := BX.trans (Below.mono (by with_reducible assumption) (by omega)); refine (MK _ hWW (by assumption) (by assumption) (by assumption) (by assumption) (by assumption) (by assumption)).mono ?_; rintro eq wq ⟨⟨vv, rfl, hh⟩, hb⟩))
    all_goals
      rename_i hHeld
      go_wp2_with fail
      go_ret2
      exact RetList.mono ⟨⟨_, rfl, hh⟩, hb⟩ hWW

theorem are0 (u : Nat → Option Nat) : areB u 0 = true := by simp [areB, allB]

set_option maxHeartbeats 3200000 in
theorem specRest (b off n cap : Nat) (f : Nat → Nat) (v : Nat → Option Nat) (w : World) (hn : n ≤ 1048576) (hb : b < w.heap.size) (hr : ∀ i, i < 7 * n → w.cell? ⟨b, off + i, none⟩ = some (.float .f32 (f i))) (hv : ∀ i, i < 7 * n → Is .f32 (f i) (v i)) :
    Calls Try.prog 23 #[.slice (some ⟨b, off, none⟩) n cap] w (RetList (restV v n) n (restOk v n) w) := by
  have hst := run_store_float Try.prog
  have hbb := hb
  have HR := Lib.hid hr
  have HV := Lib.hid hv
  have HC := specCen b off n cap f v w hn hb hr hv
  clear hr hv
  unfold RetV2 at HC
  cases hc0 : cenOk v n with
  | false =>
    rw [hc0] at HC
    have ho : restOk v n = false := by simp [restOk, hc0]
    rw [ho]
    go_enter Try.func23, Try.ntmps23
    go_wp2_with fail
    refine HC.mono ?_
    rintro _ W1 ⟨⟨r0, r1, r2, r3, r4, r5, rfl, i0, i1, i2, i3, i4, i5⟩, b1⟩
    go_wp2_with fail
    go_ret2
    exact RetList.no ((b1.alloc b1.size _).alloc (by have := b1.size; simp; omega) _)
  | true =>
    rw [hc0] at HC
    have ho : restOk v n = areB (restV v n) n := by simp [restOk, hc0]
    rw [ho]
    rcases Nat.eq_zero_or_pos n with rfl | h0
    · rw [are0]
      go_enter Try.func23, Try.ntmps23
      go_wp2_with fail
      refine HC.mono ?_
      rintro _ W1 ⟨⟨r0, r1, r2, r3, r4, r5, rfl, i0, i1, i2, i3, i4, i5⟩, b1⟩
      go_wp2_with fail
      have z1 := b1.size
      have BX : Below w.heap.size w ((W1.alloc (.cells #[.float .f32 r0, .float .f32 r1, .float .f32 r2] 33)).alloc (.cells #[.float .f32 r3, .float .f32 r4, .float .f32 r5] 33)) := (b1.alloc z1 _).alloc (by simp; omega) _
      have ka0 : ∀ w', Below (W1.heap.size + 2) ((W1.alloc (.cells #[.float .f32 r0, .float .f32 r1, .float .f32 r2] 33)).alloc (.cells #[.float .f32 r3, .float .f32 r4, .float .f32 r5] 33)) w' → w'.cell? ⟨W1.heap.size, 0, none⟩ = some (.float .f32 r0) := fun w' h => by rw [h.cell (by first | omega | (simp; done) | (simp; omega))]; simp
      have ka1 : ∀ w', Below (W1.heap.size + 2) ((W1.alloc (.cells #[.float .f32 r0, .float .f32 r1, .float .f32 r2] 33)).alloc (.cells #[.float .f32 r3, .float .f32 r4, .float .f32 r5] 33)) w' → w'.cell? ⟨W1.heap.size, 1, none⟩ = some (.float .f32 r1) := fun w' h => by rw [h.cell (by first | omega | (simp; done) | (simp; omega))]; simp
      have ka2 : ∀ w', Below (W1.heap.size + 2) ((W1.alloc (.cells #[.float .f32 r0, .float .f32 r1, .float .f32 r2] 33)).alloc (.cells #[.float .f32 r3, .float .f32 r4, .float .f32 r5] 33)) w' → w'.cell? ⟨W1.heap.size, 2, none⟩ = some (.float .f32 r2) := fun w' h => by rw [h.cell (by first | omega | (simp; done) | (simp; omega))]; simp
      have kb0 : ∀ w', Below (W1.heap.size + 2) ((W1.alloc (.cells #[.float .f32 r0, .float .f32 r1, .float .f32 r2] 33)).alloc (.cells #[.float .f32 r3, .float .f32 r4, .float .f32 r5] 33)) w' → w'.cell? ⟨W1.heap.size + 1, 0, none⟩ = some (.float .f32 r3) := fun w' h => by rw [h.cell (by first | omega | (simp; done) | (simp; omega))]; simp
      have kb1 : ∀ w', Below (W1.heap.size + 2) ((W1.alloc (.cells #[.float .f32 r0, .float .f32 r1, .float .f32 r2] 33)).alloc (.cells #[.float .f32 r3, .float .f32 r4, .float .f32 r5] 33)) w' → w'.cell? ⟨W1.heap.size + 1, 1, none⟩ = some (.float .f32 r4) := fun w' h => by rw [h.cell (by first | omega | (simp; done) | (simp; omega))]; simp
      have kb2 : ∀ w', Below (W1.heap.size + 2) ((W1.alloc (.cells #[.float .f32 r0, .float .f32 r1, .float .f32 r2] 33)).alloc (.cells #[.float .f32 r3, .float .f32 r4, .float .f32 r5] 33)) w' → w'.cell? ⟨W1.heap.size + 1, 2, none⟩ = some (.float .f32 r5) := fun w' h => by rw [h.cell (by first | omega | (simp; done) | (simp; omega))]; simp
      go_region_held3 (fun w' => Below (W1.heap.size + 2) ((W1.alloc (.cells #[.float .f32 r0, .float .f32 r1, .float .f32 r2] 33)).alloc (.cells #[.float .f32 r3, .float .f32 r4, .float .f32 r5] 33)) w') ((repeat' (first | with_reducible assumption | with_reducible exact Below.refl _ _ | with_reducible exact keepW (by with_reducible assumption) (by with_reducible assumption) (by first | exact Nat.le_refl _ | assumption | omega | (simp; done) | (simp; omega)) | with_reducible exact keepS (by with_reducible assumption) (by with_reducible assumption) (by first | exact Nat.le_refl _ | assumption | omega | (simp; done) | (simp; omega)) | (with_reducible refine Below.setCell ?_ (by first | omega | (simp; done) | (simp; omega)) _) | (with_reducible refine below_drewN ?_ _) | (with_reducible refine Below.drew ?_) | (with_reducible refine Below.trans ?_ (Below.mono (by with_reducible assumption) (by first | omega | (simp; done) | (simp; omega)))) | (with_reducible refine Below.trans ?_ (Below.mono (Grow.below (by with_reducible assumption)) (by first | omega | (simp; done) | (simp; omega)))) | (with_reducible refine Below.alloc ?_ (by first | omega | (simp; done) | (simp; omega)) _)))) (first | (go_at_call 52; refine (sNeg (by assumption) (by assumption) (by assumption) _).mono ?_; rintro eq wq ⟨c0, c1, c2, rfl, y0, y1, y2, hb⟩) | (go_at_call 33; have hWW : Below w.heap.size w _ := BX.trans (Below.mono (by with_reducible assumption) (by omega)); refine (sMove0 b off cap _).mono ?_; rintro eq wq ⟨⟨ga, gc, rfl⟩, hb⟩; have hWX := hWW.trans (hb.mono hWW.size)) | (go_at_call 32; refine (sGive0 ga gc _).mono ?_; rintro _ _ ⟨rfl, rfl⟩))
      all_goals
        go_wp2_with fail
        go_ret2
        exact ⟨⟨_, rfl, .inl ⟨rfl, _, _, rfl⟩⟩, hWX⟩
    · go_enter Try.func23, Try.ntmps23
      go_wp2_with fail
      refine HC.mono ?_
      rintro _ W1 ⟨⟨r0, r1, r2, r3, r4, r5, rfl, i0, i1, i2, i3, i4, i5⟩, b1⟩
      go_wp2_with fail
      have z1 := b1.size
      have BX : Below w.heap.size w ((W1.alloc (.cells #[.float .f32 r0, .float .f32 r1, .float .f32 r2] 33)).alloc (.cells #[.float .f32 r3, .float .f32 r4, .float .f32 r5] 33)) := (b1.alloc z1 _).alloc (by simp; omega) _
      have ka0 : ∀ w', Below (W1.heap.size + 2) ((W1.alloc (.cells #[.float .f32 r0, .float .f32 r1, .float .f32 r2] 33)).alloc (.cells #[.float .f32 r3, .float .f32 r4, .float .f32 r5] 33)) w' → w'.cell? ⟨W1.heap.size, 0, none⟩ = some (.float .f32 r0) := fun w' h => by rw [h.cell (by first | omega | (simp; done) | (simp; omega))]; simp
      have ka1 : ∀ w', Below (W1.heap.size + 2) ((W1.alloc (.cells #[.float .f32 r0, .float .f32 r1, .float .f32 r2] 33)).alloc (.cells #[.float .f32 r3, .float .f32 r4, .float .f32 r5] 33)) w' → w'.cell? ⟨W1.heap.size, 1, none⟩ = some (.float .f32 r1) := fun w' h => by rw [h.cell (by first | omega | (simp; done) | (simp; omega))]; simp
      have ka2 : ∀ w', Below (W1.heap.size + 2) ((W1.alloc (.cells #[.float .f32 r0, .float .f32 r1, .float .f32 r2] 33)).alloc (.cells #[.float .f32 r3, .float .f32 r4, .float .f32 r5] 33)) w' → w'.cell? ⟨W1.heap.size, 2, none⟩ = some (.float .f32 r2) := fun w' h => by rw [h.cell (by first | omega | (simp; done) | (simp; omega))]; simp
      have kb0 : ∀ w', Below (W1.heap.size + 2) ((W1.alloc (.cells #[.float .f32 r0, .float .f32 r1, .float .f32 r2] 33)).alloc (.cells #[.float .f32 r3, .float .f32 r4, .float .f32 r5] 33)) w' → w'.cell? ⟨W1.heap.size + 1, 0, none⟩ = some (.float .f32 r3) := fun w' h => by rw [h.cell (by first | omega | (simp; done) | (simp; omega))]; simp
      have kb1 : ∀ w', Below (W1.heap.size + 2) ((W1.alloc (.cells #[.float .f32 r0, .float .f32 r1, .float .f32 r2] 33)).alloc (.cells #[.float .f32 r3, .float .f32 r4, .float .f32 r5] 33)) w' → w'.cell? ⟨W1.heap.size + 1, 1, none⟩ = some (.float .f32 r4) := fun w' h => by rw [h.cell (by first | omega | (simp; done) | (simp; omega))]; simp
      have kb2 : ∀ w', Below (W1.heap.size + 2) ((W1.alloc (.cells #[.float .f32 r0, .float .f32 r1, .float .f32 r2] 33)).alloc (.cells #[.float .f32 r3, .float .f32 r4, .float .f32 r5] 33)) w' → w'.cell? ⟨W1.heap.size + 1, 2, none⟩ = some (.float .f32 r5) := fun w' h => by rw [h.cell (by first | omega | (simp; done) | (simp; omega))]; simp
      go_region_held3 (fun w' => Below (W1.heap.size + 2) ((W1.alloc (.cells #[.float .f32 r0, .float .f32 r1, .float .f32 r2] 33)).alloc (.cells #[.float .f32 r3, .float .f32 r4, .float .f32 r5] 33)) w') ((repeat' (first | with_reducible assumption | with_reducible exact Below.refl _ _ | with_reducible exact keepW (by with_reducible assumption) (by with_reducible assumption) (by first | exact Nat.le_refl _ | assumption | omega | (simp; done) | (simp; omega)) | with_reducible exact keepS (by with_reducible assumption) (by with_reducible assumption) (by first | exact Nat.le_refl _ | assumption | omega | (simp; done) | (simp; omega)) | (with_reducible refine Below.setCell ?_ (by first | omega | (simp; done) | (simp; omega)) _) | (with_reducible refine below_drewN ?_ _) | (with_reducible refine Below.drew ?_) | (with_reducible refine Below.trans ?_ (Below.mono (by with_reducible assumption) (by first | omega | (simp; done) | (simp; omega)))) | (with_reducible refine Below.trans ?_ (Below.mono (Grow.below (by with_reducible assumption)) (by first | omega | (simp; done) | (simp; omega)))) | (with_reducible refine Below.alloc ?_ (by first | omega | (simp; done) | (simp; omega)) _)))) (first | (go_at_call 52; refine (sNeg (by assumption) (by assumption) (by assumption) _).mono ?_; rintro eq wq ⟨c0, c1, c2, rfl, y0, y1, y2, hb⟩) | (go_at_call 33; have hWW : Below w.heap.size w _ := BX.trans (Below.mono (by with_reducible assumption) (by omega)); refine (sMove b off n cap f v (opC v n) (opS v n) (by assumption) (by assumption) (by assumption) (by assumption) (by assumption) (by assumption) _ h0 hn (Nat.lt_of_lt_of_le hbb hWW.size) (cellsB hWW hbb HR.out) HV.out).mono ?_; rintro eq wq ⟨⟨g, gc, r, rfl, hg, hoo, hii⟩, hbm⟩; have hb := hbm; have hWX := hWW.trans (hbm.mono hWW.size); have hgg := Nat.le_trans hWW.size hg) | (go_at_call 32; refine (sGive g n gc r (restV v n) _ hn hoo hii).mono ?_; rintro eq wq ⟨⟨vv, rfl, ht, hf⟩, hb⟩))
      all_goals
        go_wp2_with fail
        go_ret2
        refine ⟨⟨_, rfl, ?_⟩, hWX.trans (hb.mono hWX.size)⟩
        cases hu : areB (restV v n) n with
        | true => exact .inr ⟨g, gc, r, ht hu, hgg, Nat.lt_of_lt_of_le hoo.1 hb.size, by simpa using hoo.step hb, by rw [if_pos rfl]; exact hii⟩
        | false => exact .inl ⟨by simp, _, _, hf hu⟩
end Go.Proofs.Ytkhinppmldodiaa
