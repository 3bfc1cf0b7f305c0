/-
  How a circle in air sinks step by step: for every input the law's text returns true, and writes nothing that was there. No condition.
-/
import Derived.Test.YtdkjekdokajfgaaSnkQ
namespace Go.Proofs.Ytdkjekdokajfgaa
open Go.RowKit

section
variable (x0 x1 x2 x3 l d s c t : Option Nat) (n : Int)
/-- Whether there is a run at all, and the run. -/
def runOk : Bool := canB x0 x1 x2 x3 l d s c t && (decide (0 ≤ n) && decide (n ≤ 64))
def runR : Option (List Nat × Option Nat) := if runOk x0 x1 x2 x3 l d s c t n then runL x0 x1 d s c t n.toNat l else none
theorem runR_len : (rnXs (runR x0 x1 x2 x3 l d s c t n)).length ≤ 64 := by
  unfold runR
  split
  · rename_i h
    unfold runOk at h
    simp only [Bool.and_eq_true, decide_eq_true_eq] at h
    exact Nat.le_trans (run_len _ _) (by omega)
  · exact Nat.zero_le _
theorem runR_lt : ∀ x ∈ rnXs (runR x0 x1 x2 x3 l d s c t n), x < 4294967296 := by
  unfold runR
  split
  · exact run_lt _ _
  · intro x hx; cases hx
end

section
variable {a0 a1 a2 a3 lw dw sw cw tw : Nat} {x0 x1 x2 x3 l d s c t : Option Nat} (h0 : Is .f32 a0 x0) (h1 : Is .f32 a1 x1) (h2 : Is .f32 a2 x2) (h3 : Is .f32 a3 x3) (il : Is .f32 lw l) (id : Is .f32 dw d) (is : Is .f32 sw s) (ic : Is .f32 cw c) (it : Is .f32 tw t)
theorem run_bad {n : Int} (h : runOk x0 x1 x2 x3 l d s c t n = false) : canB x0 x1 x2 x3 l d s c t = false ∨ n < 0 ∨ 64 < n := by
  unfold runOk at h
  cases hc : canB x0 x1 x2 x3 l d s c t with
  | false => exact .inl rfl
  | true =>
    rw [hc, Bool.true_and] at h
    right
    by_cases h1 : 0 ≤ n
    · right
      rw [decide_eq_true h1, Bool.true_and] at h
      have := of_decide_eq_false h
      omega
    · left; omega
include h0 h1 h2 h3 il id is ic it
theorem iRun (n : Int) (w : World) : Calls Try.prog 6 #[balV a0 a1 a2 a3, .float .f32 lw, .float .f32 dw, .float .f32 sw, .float .f32 cw, .float .f32 tw, .int .i64 n] w
    (RetF2 (rnXs (runR x0 x1 x2 x3 l d s c t n)) (rnB x1 (runR x0 x1 x2 x3 l d s c t n)) (runR x0 x1 x2 x3 l d s c t n).isSome w) := by
  unfold runR
  cases h : runOk x0 x1 x2 x3 l d s c t n with
  | false => exact iRunF h0 h1 h2 h3 il id is ic it n w (run_bad h)
  | true =>
    rw [if_pos rfl]
    unfold runOk at h
    simp only [Bool.and_eq_true, decide_eq_true_eq] at h
    obtain ⟨m, rfl⟩ : ∃ m : Nat, n = (m : Int) := ⟨n.toNat, by omega⟩
    exact iRunT h0 h1 h2 h3 il id is ic it m (by omega) w h.1
theorem sRun (n : Int) (w : World) : Calls Try.prog 4 #[balV a0 a1 a2 a3, .float .f32 lw, .float .f32 dw, .float .f32 sw, .float .f32 cw, .float .f32 tw, .int .i64 n] w
    (RetF2 (rnXs (runR x0 x1 x2 x3 l d s c t n)) (rnB x1 (runR x0 x1 x2 x3 l d s c t n)) (runR x0 x1 x2 x3 l d s c t n).isSome w) := by
  unfold runR
  cases h : runOk x0 x1 x2 x3 l d s c t n with
  | false => exact sRunF h0 h1 h2 h3 il id is ic it n w (run_bad h)
  | true =>
    rw [if_pos rfl]
    unfold runOk at h
    simp only [Bool.and_eq_true, decide_eq_true_eq] at h
    obtain ⟨m, rfl⟩ : ∃ m : Nat, n = (m : Int) := ⟨n.toNat, by omega⟩
    exact sRunT h0 h1 h2 h3 il id is ic it m (by omega) w h.1
end

set_option maxHeartbeats 3200000 in
theorem walk_FnExactSinkRun (a0 a1 a2 a3 lw dw sw cw tw : Nat) (n : Int) (w : World) (k0 : a0 < 2 ^ 32) (k1 : a1 < 2 ^ 32) (k2 : a2 < 2 ^ 32) (k3 : a3 < 2 ^ 32) (kl : lw < 2 ^ 32) (kd : dw < 2 ^ 32) (ks : sw < 2 ^ 32) (kc : cw < 2 ^ 32) (kt : tw < 2 ^ 32) (_kn : (Lit.int .i64 n).wf = true) :
    Calls Try.prog 3 #[balV a0 a1 a2 a3, .float .f32 lw, .float .f32 dw, .float .f32 sw, .float .f32 cw, .float .f32 tw, .int .i64 n] w fun e w' => e = .returned (.bool true) ∧ Below w.heap.size w w' := by
  have h0 := Is.self (k := .f32) k0
  have h1 := Is.self (k := .f32) k1
  have h2 := Is.self (k := .f32) k2
  have h3 := Is.self (k := .f32) k3
  have il := Is.self (k := .f32) kl
  have id := Is.self (k := .f32) kd
  have is := Is.self (k := .f32) ks
  have ic := Is.self (k := .f32) kc
  have it := Is.self (k := .f32) kt
  have HS := fun w => sRun h0 h1 h2 h3 il id is ic it n w
  have HI := fun w => iRun h0 h1 h2 h3 il id is ic it n w
  have hl := runR_len (nrm .f32 a0) (nrm .f32 a1) (nrm .f32 a2) (nrm .f32 a3) (nrm .f32 lw) (nrm .f32 dw) (nrm .f32 sw) (nrm .f32 cw) (nrm .f32 tw) n
  have hx2 := runR_lt (nrm .f32 a0) (nrm .f32 a1) (nrm .f32 a2) (nrm .f32 a3) (nrm .f32 lw) (nrm .f32 dw) (nrm .f32 sw) (nrm .f32 cw) (nrm .f32 tw) n
  generalize runR (nrm .f32 a0) (nrm .f32 a1) (nrm .f32 a2) (nrm .f32 a3) (nrm .f32 lw) (nrm .f32 dw) (nrm .f32 sw) (nrm .f32 cw) (nrm .f32 tw) n = rr at HS HI hl hx2
  generalize rnXs rr = xs at HS HI hl hx2
  generalize rnB (nrm .f32 a1) rr = bb at HS HI
  generalize rr.isSome = ok at HS HI
  have hx : xs.length ≤ 1048576 := by omega
  have hneg : decide (1 + (xs.length : Int) < 0) = false := by simp; omega
  clear hl h0 h1 h2 h3 il id is ic it
  have kb : ∀ wr, Below (w.heap.size + 1) (w.alloc (.cells #[.float .f32 a0, .float .f32 a1, .float .f32 a2, .float .f32 a3] 24)) wr → wr.cell? ⟨w.heap.size, 0, none⟩ = some (.float .f32 a0) ∧ wr.cell? ⟨w.heap.size, 1, none⟩ = some (.float .f32 a1) ∧ wr.cell? ⟨w.heap.size, 2, none⟩ = some (.float .f32 a2) ∧ wr.cell? ⟨w.heap.size, 3, none⟩ = some (.float .f32 a3) := fun wr hb =>
    ⟨by rw [hb.cell (p := ⟨w.heap.size, 0, none⟩) (by dsimp only; omega)]; simp, by rw [hb.cell (p := ⟨w.heap.size, 1, none⟩) (by dsimp only; omega)]; simp, by rw [hb.cell (p := ⟨w.heap.size, 2, none⟩) (by dsimp only; omega)]; simp, by rw [hb.cell (p := ⟨w.heap.size, 3, none⟩) (by dsimp only; omega)]; simp⟩
  have KB := Lib.hid kb
  have bw := (Below.refl w.heap.size w).alloc (Nat.le_refl _) (.cells #[.float .f32 a0, .float .f32 a1, .float .f32 a2, .float .f32 a3] 24)
  clear kb
  go_enter Try.func3, Try.ntmps3
  go_wp2_with fail
  (go_at_call 5; refine (toBal _).mono ?_; rintro _ w1 ⟨rfl, b1⟩)
  have hz1 := b1.size
  simp at hz1
  have B1 := Lib.hid (b1.mono (show w.heap.size + 1 ≤ _ by simp))
  clear b1
  go_wp2_with fail
  (go_at_call 4; refine (HS _).mono ?_; rintro _ w2 ⟨v0, rfl, r0, b2⟩)
  have hz2 := b2.size
  have B2 := Lib.hid (B1.out.trans (b2.mono (by omega)))
  have R0 := Lib.hid r0
  obtain ⟨c0, c1, c2, c3⟩ := KB.out w2 B2.out
  clear b2 r0 B1
  go_wp2_with fail
  (go_at_call 5; refine (toBal _).mono ?_; rintro _ w3 ⟨rfl, b3⟩)
  have hz3 := b3.size
  have G3 := Lib.hid b3
  clear b3 c0 c1 c2 c3
  go_wp2_with fail
  (go_at_call 6; refine (HI _).mono ?_; rintro _ w4 ⟨v1, rfl, r1, b4⟩)
  have hz4 := b4.size
  have G4 := Lib.hid (G3.out.trans (b4.mono (by omega)))
  have R1 := Lib.hid r1
  clear b4 r1 G3
  go_wp2_with fail
  refine (eqO hx hx2 R1.out (ownsRow_below R0.out G4.out)).mono ?_
  rintro _ w5 ⟨n5, rfl, e5⟩
  have g5 : Below w4.heap.size w4 w5 := by rw [e5]; exact below_drewN (Below.refl _ _) _
  have hz5 := g5.size
  have G5 := Lib.hid (G4.out.trans (g5.mono (by omega)))
  have R15 := Lib.hid (ownsRow_below R1.out g5)
  clear e5 g5 R1 G4
  go_wp2_with fail
  (go_at_call 8; refine (markO hx (by omega) R15.out).mono ?_; rintro _ w6 ⟨rfl, r6, b6⟩)
  have hz6 := b6.size
  have G6 := Lib.hid (G5.out.trans (b6.mono (by omega)))
  have R6 := Lib.hid r6
  clear b6 r6 G5 R15
  go_wp2_with fail
  (go_at_call 9; refine (heldO hx R6.out).mono ?_; rintro _ w7 ⟨n7, rfl, e7⟩)
  have g7 : Below w6.heap.size w6 w7 := by rw [e7]; exact below_drewN (Below.refl _ _) _
  have hz7 := g7.size
  have G7 := Lib.hid (G6.out.trans (g7.mono (by omega)))
  have R7 := Lib.hid (ownsRow_below R6.out g7)
  have B7 := Lib.hid (B2.out.trans (G7.out.mono (by omega)))
  obtain ⟨c0, c1, c2, c3⟩ := KB.out w7 B7.out
  clear e7 g7 R6 G6 B7
  go_wp2_with fail
  (go_at_call 5; refine (toBal _).mono ?_; rintro _ w8 ⟨rfl, b8⟩)
  have hz8 := b8.size
  have H8 := Lib.hid b8
  clear b8 c0 c1 c2 c3
  go_wp2_with fail
  (go_at_call 6; refine (HI _).mono ?_; rintro _ w9 ⟨v2, rfl, r2, b9⟩)
  have hz9 := b9.size
  have H9 := Lib.hid (H8.out.trans (b9.mono (by omega)))
  have G9 := Lib.hid (G7.out.trans (H9.out.mono (by omega)))
  have R2 := Lib.hid r2
  have R9 := Lib.hid (ownsRow_below R7.out H9.out)
  clear b9 r2 H8 H9 R7 G7
  go_wp2_with fail
  refine (eqO hx hx2 R2.out (ownsRow_below R0.out G9.out)).mono ?_
  rintro _ w10 ⟨n10, rfl, e10⟩
  have g10 : Below w9.heap.size w9 w10 := by rw [e10]; exact below_drewN (Below.refl _ _) _
  have hz10 := g10.size
  have G10 := Lib.hid (G9.out.trans (g10.mono (by omega)))
  have R10 := Lib.hid (ownsRow_below R9.out g10)
  clear e10 g10 R9 G9 R2
  go_wp2_with fail
  (go_at_call 9; refine (heldO hx R10.out).mono ?_; rintro _ w11 ⟨n11, rfl, e11⟩)
  have g11 : Below w10.heap.size w10 w11 := by rw [e11]; exact below_drewN (Below.refl _ _) _
  have G11 := Lib.hid (G10.out.trans (g11.mono (by omega)))
  clear e11 g11 G10 R10
  go_wp2_with fail
  go_ret
  exact ⟨rfl, bw.trans ((B2.out.trans (G11.out.mono (by omega))).mono (by omega))⟩
end Go.Proofs.Ytdkjekdokajfgaa
