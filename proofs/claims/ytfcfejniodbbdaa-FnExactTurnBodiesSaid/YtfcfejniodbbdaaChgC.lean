/-
  What a function makes of each body of a list, of the program. No condition.
-/
import Derived.Test.YtfcfejniodbbdaaRowOk
import Derived.Shelf.Abstract
namespace Go.Proofs.Ytfcfejniodbbdaa
open Go.RowKit

theorem mkAC (n : Nat) (hn : n ≤ 1048576) : ∃ c : Array Value, c.size = 7 * n ∧ (∀ i, i < 7 * n → c[i]? = some (.float .f32 0)) ∧ ∀ w : World, (Instr.makeSlice 25 (.int .i64 (n : Int)) (.int .i64 (n : Int))).run Try.prog w = .ok (.slice (some ⟨w.heap.size, 0, none⟩) n n) (w.alloc (.cells c 40)) := by
  obtain ⟨i, hi, he⟩ := Option.map_eq_some_iff.1 infoB
  obtain ⟨i', hi', hz⟩ := Option.map_eq_some_iff.1 zeroB
  obtain rfl : i' = i := by rw [hi] at hi'; cases hi'; rfl
  simp only [Prod.mk.injEq] at he
  obtain ⟨hs, hbt⟩ := he
  cases hzz : i'.zero with
  | none => rw [hzz] at hz; simp at hz
  | some z =>
    rw [hzz] at hz
    simp only [Option.map_some, Option.some.injEq] at hz
    refine ⟨madeCells z.cells (n * 7), ?_, ?_, ?_⟩
    · simp [size_madeCells]; omega
    · intro j hj
      have : j % 7 < 7 := Nat.mod_lt _ (by decide)
      have hj' : j < n * 7 := by omega
      simp [madeCells, hz, hj']
      rw [getElem!_pos _ _ (by simpa using this)]
      simp
    · intro w
      rw [run_make w 25 40 i' z Try.underlying25 hi hzz .i64 .i64 n n (by omega) (by omega) (by rw [hbt]; omega) (by omega), hs, Int.toNat_natCast]

/-- A body is handed back. -/
def RetBodC (u : Nat → Option Nat) (k : Nat) (w : World) (e : Ending) (w' : World) : Prop := (∃ r0 r1 r2 r3 r4 r5 r6, e = .returned (bodV r0 r1 r2 r3 r4 r5 r6) ∧ Is .f32 r0 (u (7 * k)) ∧ Is .f32 r1 (u (7 * k + 1)) ∧ Is .f32 r2 (u (7 * k + 2)) ∧ Is .f32 r3 (u (7 * k + 3)) ∧ Is .f32 r4 (u (7 * k + 4)) ∧ Is .f32 r5 (u (7 * k + 5)) ∧ Is .f32 r6 (u (7 * k + 6))) ∧ Below w.heap.size w w'

theorem iCheckedC (b n cap : Nat) (r : Nat → Nat) (u : Nat → Option Nat) (lo : Nat) (w : World) (hn : n ≤ 1048576) (ho : Own w b (7 * n) (wordV r)) (hu : ∀ i, i < 7 * n → Is .f32 (r i) (u i)) :
    Calls Try.prog 31 #[.slice (some ⟨b, 0, none⟩) n cap] w fun e w' => (∃ v, e = .returned (.tuple #[v, .bool (areB u n)]) ∧ (areB u n = true → v = .slice (some ⟨b, 0, none⟩) n cap) ∧ (areB u n = false → v = .slice none 0 0)) ∧ Below w.heap.size w w' := by
  have HA := iAre b 0 n cap r u w hn ho.1 (ownCells ho) hu
  cases ha : areB u n with
  | false =>
    rw [ha] at HA
    go_enter Try.func31, Try.ntmps31
    go_wp2_with (go_at_call 30; refine (HA).mono ?_; rintro _ W1 ⟨rfl, b1⟩)
    go_ret2
    exact ⟨⟨_, rfl, by simp, by simp⟩, b1⟩
  | true =>
    rw [ha] at HA
    go_enter Try.func31, Try.ntmps31
    go_wp2_with (go_at_call 30; refine (HA).mono ?_; rintro _ W1 ⟨rfl, b1⟩)
    go_ret2
    exact ⟨⟨_, rfl, by simp, by simp⟩, b1⟩

set_option maxHeartbeats 1600000 in
theorem iChangedC (F : Nat) (C : Array Value) (b off n cap : Nat) (f : Nat → Nat) (v u : Nat → Option Nat) (w : World) (hn : n ≤ 1048576) (hb : b < w.heap.size) (hr : ∀ i, i < 7 * n → w.cell? ⟨b, off + i, none⟩ = some (.float .f32 (f i))) (hv : ∀ i, i < 7 * n → Is .f32 (f i) (v i))
    (eF : Enters Try.prog F) (hF : ∀ k, k < n → ∀ W, Below w.heap.size w W → Calls Try.prog F (#[bodV (f (7 * k)) (f (7 * k + 1)) (f (7 * k + 2)) (f (7 * k + 3)) (f (7 * k + 4)) (f (7 * k + 5)) (f (7 * k + 6))] ++ C) W (RetBodC u k W)) :
    Calls Try.prog 20 #[.slice (some ⟨b, off, none⟩) n cap, .func (.func F) #[] C] w (RetList u n (areB v n && areB u n) w) := by
  have hst := run_store_float Try.prog
  have HA := iAre b off n cap f v w hn hb hr hv
  have HR := Lib.hid hr
  have HV := Lib.hid hv
  have HF := Lib.hid hF
  unfold Enters at eF
  clear hr hF hv
  cases ha : areB v n with
  | false =>
    rw [ha] at HA
    rw [show (false && areB u n) = false from rfl]
    go_enter Try.func20, Try.ntmps20
    go_wp2_with (go_at_call 30; refine (HA).mono ?_; rintro _ W1 ⟨rfl, b1⟩)
    go_ret2
    exact RetList.no b1
  | true =>
    rw [ha] at HA
    rw [show (true && areB u n) = areB u n from rfl]
    obtain ⟨c, hcs, hcv, hmk⟩ := mkAC n hn
    go_enter Try.func20, Try.ntmps20
    go_wp2_with (go_at_call 30; refine (HA).mono ?_; rintro _ W1 ⟨rfl, b1⟩)
    have hD := b1.size
    have b2 : Below w.heap.size w (W1.alloc (.cells c 40)) := b1.alloc hD _
    have hO0 : Own (W1.alloc (.cells c 40)) W1.heap.size (7 * n) (wordV fun _ => 0) := Own.of_row (hcs ▸ World.rowIs_alloc W1 c _ _ (fun i hi => hcv i (hcs ▸ hi)))
    generalize hDe : W1.heap.size = D at *
    go_loopw [17] (fun i wr => ∃ (k : Nat) (r : Nat → Nat), k ≤ n ∧ i = .int .i64 k ∧ Own wr D (7 * n) (wordV r) ∧ (∀ i, i < 7 * k → Is .f32 (r i) (u i)) ∧ Below w.heap.size w wr) (fun i _ => n - (intOf i).toNat)
    case atStart => exact ⟨0, fun _ => 0, Nat.zero_le _, rfl, hO0, fun i hi => by omega, b2⟩
    case round =>
      obtain ⟨k, r, hk, rfl, ho, hi, hbel⟩ := hrel
      have HO := Lib.hid ho
      have HI := Lib.hid hi
      by_cases hlt : k < n
      · obtain ⟨c0, c1, c2, c3, c4, c5, c6⟩ := cells7 HR.out hlt
        rw [← hbel.cell (by assumption)] at c0 c1 c2 c3 c4 c5 c6
        have hz := hbel.size
        have hb2 : b < wr.heap.size := by omega
        clear ho hi hO0 hmk hcv hcs
        go_wp2_with (go_at_fn F; refine (HF.out k hlt _ (by repeat' (first | with_reducible exact Below.refl _ _ | with_reducible assumption | (with_reducible refine Below.setCell ?_ (by first | omega | (simp; done) | (simp; omega)) _) | (with_reducible refine Below.alloc ?_ (by first | omega | (simp; done) | (simp; omega)) _) | (with_reducible refine below_drewN ?_ _) | (with_reducible refine Below.drew ?_) | (with_reducible refine Below.trans ?_ (Below.mono (by first | (with_reducible assumption) | exact Grow.below (by assumption)) (by first | omega | (simp; done) | (simp; omega))))))).mono ?_; rintro eq wq ⟨⟨q0, q1, q2, q3, q4, q5, q6, rfl, i0, i1, i2, i3, i4, i5, i6⟩, hbp⟩; have ho1 := (HO.out.alloc _).step hbp; obtain ⟨d0, d1, d2, d3, d4, d5, d6⟩ := own7 ho1 hlt; have fz : ∀ o, wq.frozen? ⟨D, o, none⟩ = false := ho1.2.2; have HO1 := Lib.hid ho1; clear ho1)
        go_roundw
        case rel =>
          refine ⟨k + 1, fun j => if j = 7 * k then q0 else if j = 7 * k + 1 then q1 else if j = 7 * k + 2 then q2 else if j = 7 * k + 3 then q3 else if j = 7 * k + 4 then q4 else if j = 7 * k + 5 then q5 else if j = 7 * k + 6 then q6 else r j, by omega, by go_num, oset7 HO1.out hlt ?_ ?_ ?_ ?_ ?_ ?_ ?_ ?_, ?_, ?_⟩
          · simp
          · simp
          · simp
          · simp
          · simp
          · simp
          · simp
          · intro j hj h
            have e0 : ¬ j = 7 * k := by omega
            have e1 : ¬ j = 7 * k + 1 := by omega
            have e2 : ¬ j = 7 * k + 2 := by omega
            have e3 : ¬ j = 7 * k + 3 := by omega
            have e4 : ¬ j = 7 * k + 4 := by omega
            have e5 : ¬ j = 7 * k + 5 := by omega
            have e6 : ¬ j = 7 * k + 6 := by omega
            simp [e0, e1, e2, e3, e4, e5, e6]
          · intro i hi
            have hc : i < 7 * k ∨ i = 7 * k ∨ i = 7 * k + 1 ∨ i = 7 * k + 2 ∨ i = 7 * k + 3 ∨ i = 7 * k + 4 ∨ i = 7 * k + 5 ∨ i = 7 * k + 6 := by omega
            rcases hc with hc | rfl | rfl | rfl | rfl | rfl | rfl | rfl
            · have e0 : ¬ i = 7 * k := by omega
              have e1 : ¬ i = 7 * k + 1 := by omega
              have e2 : ¬ i = 7 * k + 2 := by omega
              have e3 : ¬ i = 7 * k + 3 := by omega
              have e4 : ¬ i = 7 * k + 4 := by omega
              have e5 : ¬ i = 7 * k + 5 := by omega
              have e6 : ¬ i = 7 * k + 6 := by omega
              simp only [e0, e1, e2, e3, e4, e5, e6, if_false]
              exact HI.out i hc
            · simpa using i0
            · simpa using i1
            · simpa using i2
            · simpa using i3
            · simpa using i4
            · simpa using i5
            · simpa using i6
          · have hb3 : Below w.heap.size w wq := (hbel.alloc hz _).trans (hbp.mono (by simp; omega))
            exact below7 hb3 (by omega) ..
        case measure => simp [intOf]; omega
      · have hkn : Hid (k = n) := (show k = n by omega)
        have hI : Hid (∀ i, i < 7 * n → Is .f32 (r i) (u i)) := (show _ from fun i h => HI.out i (by rw [hkn.out]; exact h))
        clear ho hi hO0 hmk hcv hcs
        go_wp2_with (go_at_call 31; refine (iCheckedC D n n r u w.heap.size _ hn HO.out hI.out).mono ?_; rintro _ W3 ⟨⟨v3, rfl, ht, hf⟩, b3⟩)
        go_ret2
        refine ⟨⟨_, rfl, ?_⟩, hbel.trans (b3.mono hbel.size)⟩
        cases hu : areB u n with
        | true => exact .inr ⟨D, n, r, ht hu, by omega, Nat.lt_of_lt_of_le HO.out.1 b3.size, by simpa using HO.out.step b3, by simpa using hI.out⟩
        | false => exact .inl ⟨by simp, _, _, hf hu⟩
end Go.Proofs.Ytfcfejniodbbdaa
