/-
  How a circle in air sinks step by step, of the model. No condition.
-/
import Derived.Test.YtdkjekdokajfgaaSnkR
namespace Go.Proofs.Ytdkjekdokajfgaa
open Go.RowKit

theorem sIn (n a b : Int) (w : World) : Calls Try.prog 12 #[.int .i64 n, .int .i64 a, .int .i64 b] w (RetV (.bool (decide (a ≤ n) && decide (n ≤ b))) w) := by
  cases h1 : decide (a ≤ n) <;> cases h2 : decide (n ≤ b) <;>
    (go_enter Try.func12, Try.ntmps12
     go_wp2
     go_ret
     exact RetV.mk0)

section
variable {a0 a1 a2 a3 lw dw sw cw tw : Nat} {x0 x1 x2 x3 l d s c t : Option Nat} (h0 : Is .f32 a0 x0) (h1 : Is .f32 a1 x1) (h2 : Is .f32 a2 x2) (h3 : Is .f32 a3 x3) (il : Is .f32 lw l) (id : Is .f32 dw d) (is : Is .f32 sw s) (ic : Is .f32 cw c) (it : Is .f32 tw t)
include h0 h1 h2 h3 il id is ic it

set_option maxHeartbeats 6400000 in
theorem sRunT (n : Nat) (hn : n ≤ 64) (w : World) (hC : canB x0 x1 x2 x3 l d s c t = true) :
    Calls Try.prog 4 #[balV a0 a1 a2 a3, .float .f32 lw, .float .f32 dw, .float .f32 sw, .float .f32 cw, .float .f32 tw, .int .i64 n] w
      (RetF2 (rnXs (runL x0 x1 d s c t n l)) (rnB x1 (runL x0 x1 d s c t n l)) (runL x0 x1 d s c t n l).isSome w) := by
  have HA := sAirP h0 h1 h2 h3 id is ic it w.heap.size (w.alloc (.cells #[.float .f32 a0, .float .f32 a1, .float .f32 a2, .float .f32 a3] 28)) (by simp) (by simp) (by simp) (by simp) (by simp)
  have hC' := hC
  unfold canB at hC'
  simp only [Bool.and_eq_true] at hC'
  obtain ⟨oA, oL, oG⟩ := hC'
  rw [oA] at HA
  have oC : posB c = true := by
    unfold airB at oA
    simp only [Bool.and_eq_true] at oA
    exact oA.2.2.2.1
  obtain ⟨i0, hi, hz0', hz1, hz2⟩ := info_parts infoF
  have IN := fun (W : World) => sIn (n : Int) 0 64 W
  have hd1 : decide ((0 : Int) ≤ ((n : Nat) : Int)) = true := by simp
  have hd2 : decide (((n : Nat) : Int) ≤ 64) = true := by simp; omega
  rw [hd1, hd2] at IN
  have FL := fun (W : World) => finite_any il W
  rw [oL] at FL
  have SP := fun {v : Option Nat} {k : Nat} (iv : Is .f32 k v) (hg : cmpB .gtr .f32 v x1 = true) (W : World) hb c0 c1 => sSnkP h0 h1 iv id is ic it w.heap.size W hb c0 c1 hg oC
  clear hC hd1 hd2 oC
  go_enter Try.func4, Try.ntmps4
  go_wp2_with fail
  (go_at_call 10; refine HA.mono ?_; rintro _ W1 ⟨rfl, b1⟩)
  clear HA
  have hzb := b1.size
  simp at hzb
  have bw1 : Below w.heap.size w W1 := ((Below.refl w.heap.size w).alloc (Nat.le_refl _) _).trans (b1.mono (by simp))
  have kb1 : ∀ wr, Below W1.heap.size W1 wr → wr.cell? ⟨w.heap.size, 0, none⟩ = some (.float .f32 a0) ∧ wr.cell? ⟨w.heap.size, 1, none⟩ = some (.float .f32 a1) := fun wr hb =>
    ⟨by rw [hb.cell (p := ⟨w.heap.size, 0, none⟩) (by show w.heap.size < W1.heap.size; omega), b1.cell (p := ⟨w.heap.size, 0, none⟩) (by simp)]; simp, by rw [hb.cell (p := ⟨w.heap.size, 1, none⟩) (by show w.heap.size < W1.heap.size; omega), b1.cell (p := ⟨w.heap.size, 1, none⟩) (by simp)]; simp⟩
  have KB1 := Lib.hid kb1
  have k1 := (kb1 W1 (Below.refl _ _)).2
  clear kb1 b1
  go_wp2_with (first | (apply wpList_cmp; rfl; simp [Cmp]; rfl; rfl; (first | assumption | exact is_lit64 _ (by decide) | exact is_lit32 _ (by decide)); (first | assumption | exact is_lit64 _ (by decide) | exact is_lit32 _ (by decide)); intro Kq hKq; go_simp) | (go_at_call 11; refine (FL _).mono ?_; rintro eq wq ⟨nq, rfl, rfl⟩) | (go_at_call 12; refine (IN _).mono ?_; rintro eq wq ⟨nr, rfl, rfl⟩))
  have r0 := ownsRow_zeroQ (W1.drewN (nq + nr)) W1.heap.size 22 (Nat.le_refl _)
  generalize hW0 : ((W1.drewN (nq + nr)).alloc (Obj.cells #[] 22)) = W0 at r0 ⊢
  have b0 : Below W1.heap.size W1 W0 := by rw [← hW0]; exact (below_drewN (Below.refl _ _) _).alloc (Nat.le_refl _) _
  have R0 := Lib.hid (show W0.ownsRow W1.heap.size 22 1 (.slice (some ⟨W1.heap.size, 0, none⟩) 0 0) 0 [] from r0)
  have hz0 := b0.size
  have BW := Lib.hid (bw1.trans (b0.mono bw1.size))
  have kb : ∀ wr, Below W1.heap.size W0 wr → wr.cell? ⟨w.heap.size, 0, none⟩ = some (.float .f32 a0) ∧ wr.cell? ⟨w.heap.size, 1, none⟩ = some (.float .f32 a1) := fun wr hb => KB1.out wr (b0.trans hb)
  have KB := Lib.hid kb
  clear kb b0 KB1 r0 hW0 k1 IN FL bw1 nq nr
  go_loopw [1, 17, 18] (fun lng lst i wr => ∃ (k lw' : Nat) (v : Option Nat) (xs : List Nat), lng = .float .f32 lw' ∧ i = .int .i64 (k : Nat) ∧ Is .f32 lw' v ∧ Left n l k xs v x0 x1 d s c t ∧ wr.ownsRow W1.heap.size 22 1 lst xs.length (xs.map (Value.float .f32)) ∧ Below W1.heap.size W0 wr) (fun _ _ i _ => n - (intOf i).toNat)
  case atStart => exact ⟨0, lw, l, [], rfl, rfl, il, Left.start n oL, R0.out, Below.refl _ _⟩
  case round =>
    obtain ⟨k, lw', v, xs, rfl, rfl, iv, hl, hrow, hbw⟩ := hrel
    have hk := hl.1
    have hxk := hl.2.1
    have hfv := hl.2.2.1
    have HX := Lib.hid hxk
    have HL := Lib.hid hl
    have HO := Lib.hid hrow
    have HB := Lib.hid hbw
    obtain ⟨al, cap, rfl⟩ := row_form hrow
    obtain ⟨c0, c1⟩ := KB.out wr hbw
    have hzr := hbw.size
    clear hl hrow hbw hxk
    by_cases hlt : k < n
    · have hlt' : decide (((k : Nat) : Int) < (n : Int)) = true := decide_eq_true (by omega)
      cases hg : cmpB .gtr .f32 v x1 with
      | true =>
        have S1 := fun (W : World) hb c0 c1 => SP iv hg W hb c0 c1
        cases ho : snkOk x0 x1 v d s c t with
        | false =>
          have e := HL.out.fail hlt hg ho
          rw [ho] at S1
          clear ho HL
          go_wp2_with (first | (apply wpList_cmp; rfl; simp [Cmp]; rfl; rfl; (first | assumption | exact is_lit64 _ (by decide) | exact is_lit32 _ (by decide)); (first | assumption | exact is_lit64 _ (by decide) | exact is_lit32 _ (by decide)); intro Kq hKq; go_simp) | (go_at_call 13; refine (S1 _ (by omega) c0 c1).mono ?_; rintro _ W3 ⟨⟨r3, rfl, i3⟩, b3⟩))
          go_ret3
          rw [e]
          exact RetF2.bad (BW.out.trans ((HB.out.mono (by omega)).trans (b3.mono (by omega))))
        | true =>
          rw [ho] at S1
          have hN : finN (snkX x0 x1 v d s c t) = snkX x0 x1 v d s c t := by
            unfold snkOk at ho
            simp only [Bool.and_eq_true] at ho
            unfold finN
            rw [if_pos ho.1]
          rw [hN] at S1
          have hnx := fun (r : Nat) (ir : Is .f32 r (snkX x0 x1 v d s c t)) => HL.out.next hlt hg ho ir
          have HN := Lib.hid hnx
          clear ho hnx HL hN
          generalize snkX x0 x1 v d s c t = nv at S1 HN
          go_wp2_with (first | (apply wpList_cmp; rfl; simp [Cmp]; rfl; rfl; (first | assumption | exact is_lit64 _ (by decide) | exact is_lit32 _ (by decide)); (first | assumption | exact is_lit64 _ (by decide) | exact is_lit32 _ (by decide)); intro Kq hKq; go_simp) | (go_at_call 13; refine (S1 _ (by omega) c0 c1).mono ?_; rintro _ W3 ⟨⟨r3, rfl, i3⟩, b3⟩; have hz3 := b3.size; have hO3 := ownsRow_below HO.out b3) | (at_builtin; go_loud (refine wpList_append_form (by rfl) (.tmp 68) (.tmp 70) 25 (by rfl) W1.heap.size 22 i0 (.float .f32 0) 1 4 Try.underlying25 hi hz0' hz1 hz2 rfl (by decide) _ xs.length _ (by rfl) (hO3.alloc _) ⟨W3.heap.size, 0, none⟩ 1 1 [_] (by rfl) rfl (new1 _ _ _) (fun v h => by rw [List.mem_singleton.1 h]; rfl) (by have := HX.out; unfold maxLen; omega) (by have := HX.out; omega) (by simp; omega) (by omega) ?_); intro g' cap' w3 hown' hgrow))
          go_roundw
          case rel => exact ⟨k + 1, r3, nv, xs ++ [r3], rfl, by go_num, i3, HN.out _ i3, by simpa using hown', Below.grown ((HB.out.trans (b3.mono (by omega))).alloc (by omega) _) hgrow (by simp; omega) (fun i hi => (hO3.lt i hi).1)⟩
          case measure => simp [intOf]; omega
      | false =>
        have e := HL.out.done (.inr hg)
        have hcm := gtr_words iv h1 hg
        go_wp2_with (apply wpList_cmp; rfl; simp [Cmp]; rfl; rfl; (first | assumption | exact is_lit64 _ (by decide) | exact is_lit32 _ (by decide)); (first | assumption | exact is_lit64 _ (by decide) | exact is_lit32 _ (by decide)); intro Kq hKq; go_simp)
        go_region
        all_goals
          go_wp2_with fail
          go_ret3
          rw [e]
          exact ⟨_, by rw [show rnB x1 (some (xs, v)) = true by simp [rnB, hg]]; rfl, ownsRow_drew' (ownsRow_base HO.out (by omega)), BW.out.trans ((HB.out.mono (by omega)).drew)⟩
    · have hlt' : decide (((k : Nat) : Int) < (n : Int)) = false := decide_eq_false (by omega)
      have e := HL.out.done (.inl (by omega))
      cases hg : cmpB .gtr .f32 v x1 with
      | true =>
        have hcm := gtr_words iv h1 hg
        go_wp2_with (apply wpList_cmp; rfl; simp [Cmp]; rfl; rfl; (first | assumption | exact is_lit64 _ (by decide) | exact is_lit32 _ (by decide)); (first | assumption | exact is_lit64 _ (by decide) | exact is_lit32 _ (by decide)); intro Kq hKq; go_simp)
        go_region
        all_goals
          go_wp2_with fail
          go_ret3
          rw [e]
          exact ⟨_, by rw [show rnB x1 (some (xs, v)) = false by simp [rnB, hg]]; rfl, ownsRow_drew' (ownsRow_base HO.out (by omega)), BW.out.trans ((HB.out.mono (by omega)).drew)⟩
      | false =>
        have hcm := gtr_words iv h1 hg
        go_wp2_with (apply wpList_cmp; rfl; simp [Cmp]; rfl; rfl; (first | assumption | exact is_lit64 _ (by decide) | exact is_lit32 _ (by decide)); (first | assumption | exact is_lit64 _ (by decide) | exact is_lit32 _ (by decide)); intro Kq hKq; go_simp)
        go_region
        all_goals
          go_wp2_with fail
          go_ret3
          rw [e]
          exact ⟨_, by rw [show rnB x1 (some (xs, v)) = true by simp [rnB, hg]]; rfl, ownsRow_drew' (ownsRow_base HO.out (by omega)), BW.out.trans ((HB.out.mono (by omega)).drew)⟩

set_option maxHeartbeats 1600000 in
theorem sRunF (n : Int) (w : World) (hC : canB x0 x1 x2 x3 l d s c t = false ∨ n < 0 ∨ 64 < n) :
    Calls Try.prog 4 #[balV a0 a1 a2 a3, .float .f32 lw, .float .f32 dw, .float .f32 sw, .float .f32 cw, .float .f32 tw, .int .i64 n] w (RetF2 [] false false w) := by
  have HA := sAirP h0 h1 h2 h3 id is ic it w.heap.size (w.alloc (.cells #[.float .f32 a0, .float .f32 a1, .float .f32 a2, .float .f32 a3] 28)) (by simp) (by simp) (by simp) (by simp) (by simp)
  have FL := fun (W : World) => finite_any il W
  have IN := fun (W : World) => sIn n 0 64 W
  have k : ∀ W1, Below (w.alloc (.cells #[.float .f32 a0, .float .f32 a1, .float .f32 a2, .float .f32 a3] 28)).heap.size (w.alloc (.cells #[.float .f32 a0, .float .f32 a1, .float .f32 a2, .float .f32 a3] 28)) W1 → W1.cell? ⟨w.heap.size, 1, none⟩ = some (.float .f32 a1) := fun W1 b1 =>
    by rw [b1.cell (p := ⟨w.heap.size, 1, none⟩) (by simp)]; simp
  unfold canB at hC
  have hR : ∀ q : Bool, (decide (0 ≤ n) && decide (n ≤ 64)) = q → q = false ∨ (0 ≤ n ∧ n ≤ 64) := fun q h => by
    cases q
    · exact .inl rfl
    · simp at h; exact .inr h
  rcases or_step (airB x0 x1 x2 x3 d s c t) (or_step (finS l) (or_step (cmpB .gtr .f32 l x1) (or_end (decide (0 ≤ n) && decide (n ≤ 64))))) with e0 | ⟨e0, e1 | ⟨e1, e2 | ⟨e2, e3 | e3⟩⟩⟩ <;> rw [e0] at HA
  case inr.inr.inr.inr =>
    exfalso
    rw [e0, e1, e2] at hC
    simp at e3
    rcases hC with h | h | h
    · cases h
    · omega
    · omega
  all_goals
    clear hC hR
    go_enter Try.func4, Try.ntmps4
    go_wp2_with fail
    (go_at_call 10; refine HA.mono ?_; rintro _ W1 ⟨rfl, b1⟩)
    clear HA
    have k1 := k W1 b1
    have bw : Below w.heap.size w W1 := ((Below.refl w.heap.size w).alloc (Nat.le_refl _) _).trans (b1.mono (by simp))
    clear k b1
  · go_wp2_with fail
    go_ret3
    exact RetF2.bad bw
  · rw [e1] at FL
    go_wp2_with (go_at_call 11; refine (FL _).mono ?_; rintro eq wq ⟨nq, rfl, rfl⟩)
    go_ret3
    exact RetF2.bad (below_drewN bw _)
  · rw [e1] at FL
    go_wp2_with (first | (apply wpList_cmp; rfl; simp [Cmp]; rfl; rfl; (first | assumption | exact is_lit64 _ (by decide) | exact is_lit32 _ (by decide)); (first | assumption | exact is_lit64 _ (by decide) | exact is_lit32 _ (by decide)); intro Kq hKq; go_simp) | (go_at_call 11; refine (FL _).mono ?_; rintro eq wq ⟨nq, rfl, rfl⟩))
    go_ret3
    exact RetF2.bad (below_drewN bw _)
  · rw [e1] at FL
    rw [e3] at IN
    go_wp2_with (first | (apply wpList_cmp; rfl; simp [Cmp]; rfl; rfl; (first | assumption | exact is_lit64 _ (by decide) | exact is_lit32 _ (by decide)); (first | assumption | exact is_lit64 _ (by decide) | exact is_lit32 _ (by decide)); intro Kq hKq; go_simp) | (go_at_call 11; refine (FL _).mono ?_; rintro eq wq ⟨nq, rfl, rfl⟩) | (go_at_call 12; refine (IN _).mono ?_; rintro eq wq ⟨nr, rfl, rfl⟩))
    go_ret3
    exact RetF2.bad (below_drewN bw _)
end
end Go.Proofs.Ytdkjekdokajfgaa
