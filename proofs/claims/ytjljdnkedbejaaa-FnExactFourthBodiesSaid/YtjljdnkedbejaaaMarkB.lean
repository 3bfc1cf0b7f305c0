/-
  Marking the numbers of a list of bodies, and asking whether the marks are there, of the laws. No condition.
-/
import Derived.Test.YtjljdnkedbejaaaOwn
import Derived.Deep.Heap
namespace Go.Proofs.Ytjljdnkedbejaaa
open Go.RowKit

/-- Only the block b has changed. -/
def Touch (b : Nat) (w w' : World) : Prop := w'.os = w.os ∧ w'.tape = w.tape ∧ w'.output = w.output ∧ w'.heap.size = w.heap.size ∧ ∀ k, k ≠ b → w'.heap[k]? = w.heap[k]?
theorem Touch.refl (b : Nat) (w : World) : Touch b w w := ⟨rfl, rfl, rfl, rfl, fun _ _ => rfl⟩
theorem Touch.setCell {b : Nat} {w w' : World} (h : Touch b w w') (o : Nat) (v : Value) : Touch b w (w'.setCell ⟨b, o, none⟩ v) :=
  ⟨h.1, h.2.1, h.2.2.1, by simpa using h.2.2.2.1, fun k hk => by rw [← h.2.2.2.2 k hk]; simp only [World.setCell, Array.getElem?_modify]; rw [if_neg (fun e => hk e.symm)]⟩
theorem Touch.below {b B : Nat} {w w' : World} (h : Touch b w w') (hB : B ≤ b) : Below B w w' := ⟨h.1, h.2.1, h.2.2.1, Nat.le_of_eq h.2.2.2.1.symm, fun k hk => h.2.2.2.2 k (by omega)⟩
theorem Touch.own {b b' m : Nat} {w w' : World} {f : Nat → Value} (h : Touch b w w') (hne : b' ≠ b) (ho : Own w b' m f) : Own w' b' m f := by
  obtain ⟨h0, h1, h2⟩ := ho
  have e := h.2.2.2.2 b' hne
  exact ⟨by rw [h.2.2.2.1]; exact h0, fun i hi => (World.cell?_of_block (a := ⟨b', i, none⟩) e).trans (h1 i hi), fun i => (World.frozen?_of_block (a := ⟨b', i, none⟩) e).trans (h2 i)⟩

def ifS (n : Int) : Option Nat := some (FloatKind.f32.nearest n)
theorem is_ifS (n : Int) : Is .f32 (FloatKind.f32.nearest n) (ifS n) := by
  refine ⟨?_, (show FloatKind.f32.format.write (.number (n < 0) n.natAbs 0) < _ from Ieee.Format.write_lt _ _)⟩
  have := write_notNaN .f32 (.number (n < 0) n.natAbs 0) rfl
  unfold nrm FloatKind.nearest ifS
  rw [if_neg (by rw [this]; decide)]
  rfl

/-- The mark of the cell j. -/
def mw (j : Nat) : Nat := floatOfInt .f32 (1 + (j : Int))
abbrev markV (j : Nat) : Value := .float .f32 (mw j)

set_option maxHeartbeats 3200000 in
theorem markB (b n cap : Nat) (f : Nat → Value) (w : World) (hn : n ≤ 1048576) (h : Own w b (7 * n) f) :
    Calls Try.prog 11 #[.slice (some ⟨b, 0, none⟩) n cap, .int .i64 1] w fun e w' => e = .returned (.int .i64 (1 + 7 * (n : Int))) ∧ Own w' b (7 * n) markV ∧ Touch b w w' := by
  have hst := run_store_float Try.prog
  have HO := Lib.hid h
  clear h
  go_enter Try.func11, Try.ntmps11
  go_wp2
  go_loopw [1, 5] (fun q i wr => ∃ k : Nat, k ≤ n ∧ q = .int .i64 (1 + 7 * (k : Int)) ∧ i = .int .i64 (k : Nat) ∧ Own wr b (7 * n) (fun j => if j < 7 * k then markV j else f j) ∧ Touch b w wr) (fun _ i _ => n - (intOf i).toNat)
  case atStart => exact ⟨0, Nat.zero_le _, rfl, rfl, HO.out.congr (fun i hi => by rw [if_neg (by omega)]), Touch.refl _ _⟩
  case round =>
    obtain ⟨k, hk, rfl, rfl, hrow, ht⟩ := hrel
    by_cases hlt : k < n
    · obtain ⟨d0, d1, d2, d3, d4, d5, d6⟩ := own7 hrow hlt
      have hfz : ∀ o, wr.frozen? ⟨b, o, none⟩ = false := hrow.2.2
      have HROW := Lib.hid hrow
      have HT := Lib.hid ht
      clear hrow ht
      go_wp2
      go_roundw
      case rel =>
        refine ⟨k + 1, by omega, by go_num, by go_num, oset7 HROW.out hlt ?_ ?_ ?_ ?_ ?_ ?_ ?_ ?_, ((((((HT.out.setCell _ _).setCell _ _).setCell _ _).setCell _ _).setCell _ _).setCell _ _).setCell _ _⟩
        all_goals first | (rw [if_pos (by omega)]; show Value.float .f32 (mw _) = _; unfold mw; congr 2 <;> (push_cast; omega)) | skip
        intro j hj h
        rcases h with h | h
        · rw [if_pos (by omega), if_pos (by omega)]
        · rw [if_neg (by omega), if_neg (by omega)]
      case measure => simp [intOf]; omega
    · have hkn : Hid (k = n) := (show k = n by omega)
      go_wp2
      go_ret
      exact ⟨by rw [hkn.out]; rfl, hrow.congr (fun j hj => by rw [if_pos (by rw [hkn.out]; exact hj)]), ht⟩

theorem markB0 (a : Option Addr) (cap : Nat) (w : World) :
    Calls Try.prog 11 #[.slice a 0 cap, .int .i64 1] w fun e w' => e = .returned (.int .i64 1) ∧ w' = w := by
  go_enter Try.func11, Try.ntmps11
  go_wp2
  go_loopw [1, 5] (fun q i wr => q = .int .i64 1 ∧ i = .int .i64 0 ∧ wr = w) (fun _ i _ => 0)
  case atStart => exact ⟨rfl, rfl, rfl⟩
  case round =>
    obtain ⟨rfl, rfl, rfl⟩ := hrel
    go_wp2
    go_ret
    exact ⟨rfl, rfl⟩

theorem heldB0 (a : Option Addr) (cap : Nat) (w : World) :
    Calls Try.prog 12 #[.slice a 0 cap, .int .i64 1] w (RetV (.int .i64 1) w) := by
  go_enter Try.func12, Try.ntmps12
  go_wp2
  go_loopw [1, 5] (fun q i wr => q = .int .i64 1 ∧ i = .int .i64 0 ∧ wr = w) (fun _ i _ => 0)
  case atStart => exact ⟨rfl, rfl, rfl⟩
  case round =>
    obtain ⟨rfl, rfl, rfl⟩ := hrel
    go_wp2
    go_ret
    exact RetV.mk0

theorem is_mw (j : Nat) : Is .f32 (mw j) (ifS (1 + (j : Int))) := is_ifS _
theorem mw_neq (j : Nat) : cmpB .neq .f32 (ifS (1 + (j : Int))) (ifS (1 + (j : Int))) = false := neq_of (is_mw j)

set_option maxRecDepth 20000 in
set_option maxHeartbeats 3200000 in
theorem heldB (b n cap : Nat) (w : World) (hn : n ≤ 1048576) (h : Own w b (7 * n) markV) :
    Calls Try.prog 12 #[.slice (some ⟨b, 0, none⟩) n cap, .int .i64 1] w (RetV (.int .i64 (1 + 7 * (n : Int))) w) := by
  have HO := Lib.hid h
  clear h
  go_enter Try.func12, Try.ntmps12
  go_wp2
  go_loopw [1, 5] (fun q i wr => ∃ k m : Nat, k ≤ n ∧ q = .int .i64 (1 + 7 * (k : Int)) ∧ i = .int .i64 (k : Nat) ∧ wr = w.drewN m) (fun _ i _ => n - (intOf i).toNat)
  case atStart => exact ⟨0, 0, Nat.zero_le _, rfl, rfl, rfl⟩
  case round =>
    obtain ⟨k, m, hk, rfl, rfl, rfl⟩ := hrel
    by_cases hlt : k < n
    · obtain ⟨d0, d1, d2, d3, d4, d5, d6⟩ := own7 HO.out hlt
      have m0 : mw (7 * k) = floatOfInt .f32 (1 + 7 * (k : Int)) := by unfold mw; congr 1
      have m1 : mw (7 * k + 1) = floatOfInt .f32 (1 + 7 * (k : Int) + 1) := by unfold mw; congr 1 <;> first | done | (push_cast; first | done | omega)
      have m2 : mw (7 * k + 2) = floatOfInt .f32 (1 + 7 * (k : Int) + 1 + 1) := by unfold mw; congr 1 <;> first | done | (push_cast; first | done | omega)
      have m3 : mw (7 * k + 3) = floatOfInt .f32 (1 + 7 * (k : Int) + 1 + 1 + 1) := by unfold mw; congr 1 <;> first | done | (push_cast; first | done | omega)
      have m4 : mw (7 * k + 4) = floatOfInt .f32 (1 + 7 * (k : Int) + 1 + 1 + 1 + 1) := by unfold mw; congr 1 <;> first | done | (push_cast; first | done | omega)
      have m5 : mw (7 * k + 5) = floatOfInt .f32 (1 + 7 * (k : Int) + 1 + 1 + 1 + 1 + 1) := by unfold mw; congr 1 <;> first | done | (push_cast; first | done | omega)
      have m6 : mw (7 * k + 6) = floatOfInt .f32 (1 + 7 * (k : Int) + 1 + 1 + 1 + 1 + 1 + 1) := by unfold mw; congr 1 <;> first | done | (push_cast; first | done | omega)
      simp only [markV] at d0 d1 d2 d3 d4 d5 d6
      rw [m0] at d0
      rw [m1] at d1
      rw [m2] at d2
      rw [m3] at d3
      rw [m4] at d4
      rw [m5] at d5
      rw [m6] at d6
      clear m0 m1 m2 m3 m4 m5 m6
      have hs := fun n : Int => neq_of (is_ifS n)
      have hsome : ∀ n : Int, (ifS n).isNone = false := fun _ => rfl
      simp only [hsome] at hs
      go_wp2_with (apply wpList_cmp; rfl; simp [Cmp]; rfl; rfl; exact is_ifS _; exact is_ifS _; intro Kq hKq; go_simp)
      go_roundw
      case rel => exact ⟨k + 1, m, by omega, by go_num, by go_num, rfl⟩
      case measure => simp [intOf]; omega
    · have hkn : Hid (k = n) := (show k = n by omega)
      go_wp2
      go_ret
      exact ⟨m, by rw [hkn.out]; rfl, rfl⟩
end Go.Proofs.Ytjljdnkedbejaaa
