/-
  The nearest two bodies, of the program. No condition.
-/
import Derived.Test.YtnohgnjoekibaaaNea
import Derived.Test.YtnohgnjoekibaaaSAre
import Derived.Test.YtnohgnjoekibaaaTake
import Derived.Test.YtnohgnjoekibaaaHas
namespace Go.Proofs.Ytnohgnjoekibaaa
open Go.RowKit

theorem inI_le (d : Nat → Nat → Nat) (i : Nat) (s : St) : ∀ j, (inI d i s j).2.2 ≤ s.2.2
  | 0 => Nat.le_refl _
  | j + 1 => by
    have := inI_le d i s j
    simp only [inI]
    split
    · show d i (i + 1 + j) ≤ _; omega
    · exact this
theorem outI_le (d : Nat → Nat → Nat) (n : Nat) : ∀ i, (outI d n i).2.2 ≤ 2139095040
  | 0 => Nat.le_refl _
  | i + 1 => Nat.le_trans (inI_le d i (outI d n i) (n - (i + 1))) (outI_le d n i)

theorem pinf_is (w : World) : Calls Try.prog 46 #[.int .i64 1] w (RetV (.float .f64 9218868437227405312) w) := by
  have hf := f64from
  go_enter Try.func46, Try.ntmps46
  go_wp2
  go_ret
  exact ⟨0, rfl, rfl⟩

theorem fit_pinf : Fit .f64 .f32 (some 9218868437227405312) := fun x hx => by cases hx; decide
theorem cv_pinf : cv .f64 .f32 (some 9218868437227405312) = some 2139095040 := by decide

section
variable {f : Nat → Nat} {v : Nat → Option Nat} {n i k : Nat}
/-- What a distance needs: of the program. -/
theorem far_calls (hA : areB v n = true) (hi : i < n) (hk : k < n) (hv : ∀ j, j < 7 * n → Is .f32 (f j) (v j)) : ∃ x0 x1 x2,
    (∀ W, Calls Try.prog 48 #[vecV (f (7 * k)) (f (7 * k + 1)) (f (7 * k + 2)), vecV (f (7 * i)) (f (7 * i + 1)) (f (7 * i + 2))] W fun e w' => e = .returned (vecV x0 x1 x2) ∧ Grow 3 W w') ∧
    (∀ W, Calls Try.prog 47 #[vecV x0 x1 x2] W fun e w' => e = .returned (.float .f32 (farN v i k)) ∧ Grow 3 W w') := by
  obtain ⟨a0, a1, a2, a3, a4, a5, a6⟩ := fin_at hA hi
  obtain ⟨b0, b1, b2, b3, b4, b5, b6⟩ := fin_at hA hk
  have I := fun j (hj : j < 7) => hv (7 * i + j) (by omega)
  have K := fun j (hj : j < 7) => hv (7 * k + j) (by omega)
  obtain ⟨x0, e0, i0⟩ := sub_fin (K 0 (by decide)) (I 0 (by decide)) b0 a0
  obtain ⟨x1, e1, i1⟩ := sub_fin (K 1 (by decide)) (I 1 (by decide)) b1 a1
  obtain ⟨x2, e2, i2⟩ := sub_fin (K 2 (by decide)) (I 2 (by decide)) b2 a2
  rw [Nat.add_zero, Nat.add_zero] at e0
  have hf := (far_nn hA hi hk hv).1
  unfold farO at hf
  rw [e0, e1, e2] at hf
  refine ⟨x0, x1, x2, fun W => (implLess (hv (7 * k) (by omega)) (K 1 (by decide)) (K 2 (by decide)) (hv (7 * i) (by omega)) (I 1 (by decide)) (I 2 (by decide)) W).mono ?_, fun W => (implSize i0 i1 i2 W).mono ?_⟩
  · rintro _ w' ⟨r0, r1, r2, rfl, h0, h1, h2, hg⟩
    rw [e0] at h0
    rw [e1] at h1
    rw [e2] at h2
    obtain rfl := h0.notNaN
    obtain rfl := h1.notNaN
    obtain rfl := h2.notNaN
    exact ⟨rfl, hg⟩
  · rintro _ w' ⟨r, rfl, h, hg⟩
    rw [hf] at h
    obtain rfl := h.notNaN
    exact ⟨rfl, hg⟩
end

set_option maxHeartbeats 6400000 in
theorem iPair (b off n cap : Nat) (f : Nat → Nat) (v : Nat → Option Nat) (w : World) (hn : n ≤ 1048576) (hA : areB v n = true) (hb : b < w.heap.size) (hr : ∀ i, i < 7 * n → w.cell? ⟨b, off + i, none⟩ = some (.float .f32 (f i))) (hv : ∀ i, i < 7 * n → Is .f32 (f i) (v i)) :
    Calls Try.prog 30 #[.slice (some ⟨b, off, none⟩) n cap] w fun e w' => e = .returned (.tuple #[.int .i64 (outI (farN v) n n).1, .int .i64 (outI (farN v) n n).2.1, .float .f32 (outI (farN v) n n).2.2]) ∧ Below w.heap.size w w' := by
  have HR := Lib.hid hr
  have HV := Lib.hid hv
  have hIE := is_lit64 9218868437227405312 (by decide)
  have hFT := fit_pinf
  have HA := Lib.hid hA
  clear hr hv hA
  go_enter Try.func30, Try.ntmps30
  go_wp2
  go_step3
  go_wp2_with (first | (apply wpList_cv .f64 .f32 (by decide) und64 Try.underlying30; rfl; rfl; (first | assumption | exact is_lit64 _ (by decide) | exact is_lit32 _ (by decide)); assumption; intro Kq hKq rq nq hq; go_simp) | (go_at_call 46; refine (pinf_is _).mono ?_; rintro eq wq ⟨nq, rfl, rfl⟩))
  rw [cv_pinf] at hq
  obtain rfl := hq.notNaN
  clear hq hIE hFT
  go_step3
  go_wp2
  go_loopw [5, 6, 7, 15] (fun p q r i wr => ∃ k : Nat, k ≤ n ∧ i = .int .i64 k ∧ p = .int .i64 (outI (farN v) n k).1 ∧ q = .int .i64 (outI (farN v) n k).2.1 ∧ r = .float .f32 (outI (farN v) n k).2.2 ∧ Below w.heap.size w wr) (fun _ _ _ i _ => n - (intOf i).toNat)
  case atStart => exact ⟨0, Nat.zero_le _, rfl, rfl, rfl, rfl, by repeat' (first | with_reducible exact Below.refl _ _ | with_reducible assumption | (with_reducible refine Below.setCell ?_ (by first | omega | (simp; done) | (simp; omega)) _) | (with_reducible refine Below.alloc ?_ (by first | omega | (simp; done) | (simp; omega)) _) | (with_reducible refine below_drewN ?_ _) | (with_reducible refine Below.drew ?_) | (with_reducible refine Below.trans ?_ (Below.mono (by first | (with_reducible assumption) | exact Grow.below (by assumption)) (by first | omega | (simp; done) | (simp; omega)))))⟩
  case round =>
    obtain ⟨i, hi, rfl, rfl, rfl, rfl, hbel⟩ := hrel
    by_cases hlt : i < n
    · have hin : wrap64 ((i : Int) + 1) = ((i + 1 : Nat) : Int) := by unfold wrap64; omega
      go_wp2_with fail
      go_loopw [5, 6, 7, 9] (fun p q r kk wx => ∃ j k : Nat, j ≤ n - (i + 1) ∧ k = i + 1 + j ∧ kk = .int .i64 k ∧ p = .int .i64 (inI (farN v) i (outI (farN v) n i) j).1 ∧ q = .int .i64 (inI (farN v) i (outI (farN v) n i) j).2.1 ∧ r = .float .f32 (inI (farN v) i (outI (farN v) n i) j).2.2 ∧ Below w.heap.size w wx) (fun _ _ _ kk _ => n - (intOf kk).toNat)
      case atStart => exact ⟨0, i + 1, Nat.zero_le _, rfl, by simp, rfl, rfl, rfl, hbel⟩
      case round =>
        clear hbel
        obtain ⟨j, k, hj, hk, rfl, rfl, rfl, rfl, hbel⟩ := hrel
        have hjn : k < n ↔ j < n - (i + 1) := by omega
        have HK := Lib.hid hk
        clear hk
        by_cases hlk : k < n
        · have hz := hbel.size
          have hj2 : j < n - (i + 1) := hjn.1 hlk
          clear hjn
          obtain ⟨x0, x1, x2, LS, SZ⟩ := far_calls HA.out hlt hlk HV.out
          obtain ⟨hF1, hF2⟩ := far_nn HA.out hlt hlk HV.out
          have hL : NN (inI (farN v) i (outI (farN v) n i) j).2.2 := Nat.le_trans (inI_le _ _ _ _) (outI_le _ _ _)
          obtain ⟨c0, c1, c2, c3, c4, c5, c6⟩ := cells7 HR.out hlt
          obtain ⟨d0, d1, d2, d3, d4, d5, d6⟩ := cells7 HR.out hlk
          have kc0 := fun (w' : World) (h : Below wr.heap.size wr w') => ((hbel.trans (h.mono hz)).cell (p := ⟨b, _, none⟩) hb).trans c0
          have kc1 := fun (w' : World) (h : Below wr.heap.size wr w') => ((hbel.trans (h.mono hz)).cell (p := ⟨b, _, none⟩) hb).trans c1
          have kc2 := fun (w' : World) (h : Below wr.heap.size wr w') => ((hbel.trans (h.mono hz)).cell (p := ⟨b, _, none⟩) hb).trans c2
          have kd0 := fun (w' : World) (h : Below wr.heap.size wr w') => ((hbel.trans (h.mono hz)).cell (p := ⟨b, _, none⟩) hb).trans d0
          have kd1 := fun (w' : World) (h : Below wr.heap.size wr w') => ((hbel.trans (h.mono hz)).cell (p := ⟨b, _, none⟩) hb).trans d1
          have kd2 := fun (w' : World) (h : Below wr.heap.size wr w') => ((hbel.trans (h.mono hz)).cell (p := ⟨b, _, none⟩) hb).trans d2
          clear c0 d0 c1 d1 c2 d2 c3 d3 c4 d4 c5 d5 c6 d6
          go_wp2_with fail
          go_region_held3 (fun w' => Below wr.heap.size wr w') ((repeat' (first | with_reducible assumption | with_reducible exact Below.refl _ _ | with_reducible exact keepW (by with_reducible assumption) (by with_reducible assumption) (by first | exact Nat.le_refl _ | assumption | omega | (simp; done) | (simp; omega)) | with_reducible exact keepS (by with_reducible assumption) (by with_reducible assumption) (by first | exact Nat.le_refl _ | assumption | omega | (simp; done) | (simp; omega)) | (with_reducible refine Below.setCell ?_ (by first | omega | (simp; done) | (simp; omega)) _) | (with_reducible refine below_drewN ?_ _) | (with_reducible refine Below.drew ?_) | (with_reducible refine Below.trans ?_ (Below.mono (by with_reducible assumption) (by first | omega | (simp; done) | (simp; omega)))) | (with_reducible refine Below.trans ?_ (Below.mono (Grow.below (by with_reducible assumption)) (by first | omega | (simp; done) | (simp; omega)))) | (with_reducible refine Below.alloc ?_ (by first | omega | (simp; done) | (simp; omega)) _)))) (first | (go_at_call 48; (with_reducible refine (LS _).mono ?_); rintro eq wq ⟨rfl, hbx⟩) | (go_at_call 47; (with_reducible refine (SZ _).mono ?_); rintro eq wq ⟨rfl, hby⟩))
          rename_i hHeld
          have hW : Below w.heap.size w wq := hbel.trans (hHeld.mono hz)
          have hz0 : NN 0 := Nat.zero_le _
          have iD := nn_is hF2
          have iL := nn_is hL
          have cLt := nn_lss hF2 hL
          have step : inI (farN v) i (outI (farN v) n i) (j + 1) = if farN v i k < (inI (farN v) i (outI (farN v) n i) j).2.2 then (i, k, farN v i k) else inI (farN v) i (outI (farN v) n i) j := by rw [HK.out]; rfl
          have STOP := Lib.hid (fun (h : (inI (farN v) i (outI (farN v) n i) (j + 1)).2.2 = 0) => out_stop (d := farN v) (j := j + 1) hlt hj2 h)
          have cE1 := nn_eql hF2 hz0
          have cE2 := nn_eql hL hz0
          have HF := Lib.hid hF1
          clear hF1 hbel hHeld LS SZ kc0 kc1 kc2 kd0 kd1 kd2 hF2 hL hz
          generalize hS : inI (farN v) i (outI (farN v) n i) j = S at *
          generalize hT : inI (farN v) i (outI (farN v) n i) (j + 1) = T at *
          have HS := Lib.hid hS
          have HT := Lib.hid hT
          clear hS hT
          generalize farN v i k = D at *
          by_cases hl : D < S.2.2
          · rw [decide_eq_true hl] at cLt
            rw [if_pos hl] at step
            clear cE2
            by_cases h0 : D = 0
            · rw [decide_eq_true h0] at cE1
              have hfin := STOP.out (by rw [step]; exact h0)
              have HFIN := Lib.hid (hfin.trans step)
              clear hfin step hl h0
              go_wp2_with (apply wpList_cmp; rfl; simp [Cmp]; rfl; rfl; (first | assumption | exact is_lit64 _ (by decide) | exact is_lit32 _ (by decide)); (first | assumption | exact is_lit64 _ (by decide) | exact is_lit32 _ (by decide)); intro Kq hKq; go_simp)
              rw [Exit.noGoto_ret]
              go_ret3
              exact ⟨by rw [HFIN.out]; rfl, by repeat' (first | with_reducible exact Below.refl _ _ | with_reducible assumption | (with_reducible refine Below.setCell ?_ (by first | omega | (simp; done) | (simp; omega)) _) | (with_reducible refine Below.alloc ?_ (by first | omega | (simp; done) | (simp; omega)) _) | (with_reducible refine below_drewN ?_ _) | (with_reducible refine Below.drew ?_) | (with_reducible refine Below.trans ?_ (Below.mono (by first | (with_reducible assumption) | exact Grow.below (by assumption)) (by first | omega | (simp; done) | (simp; omega)))))⟩
            · rw [decide_eq_false h0] at cE1
              have ST := Lib.hid (HT.out.trans step)
              have hKj : k + 1 = i + 1 + (j + 1) := by rw [HK.out]; rfl
              have hwk : wrap64 ((k : Int) + 1) = ((k + 1 : Nat) : Int) := by unfold wrap64; omega
              have HKJ := Lib.hid hKj
              clear step hl h0 hKj
              go_wp2_with (apply wpList_cmp; rfl; simp [Cmp]; rfl; rfl; (first | assumption | exact is_lit64 _ (by decide) | exact is_lit32 _ (by decide)); (first | assumption | exact is_lit64 _ (by decide) | exact is_lit32 _ (by decide)); intro Kq hKq; go_simp)
              go_roundw
              case rel => exact ⟨j + 1, k + 1, by omega, HKJ.out, by go_num, by rw [ST.out], by rw [ST.out], by rw [ST.out], by repeat' (first | with_reducible exact Below.refl _ _ | with_reducible assumption | (with_reducible refine Below.setCell ?_ (by first | omega | (simp; done) | (simp; omega)) _) | (with_reducible refine Below.alloc ?_ (by first | omega | (simp; done) | (simp; omega)) _) | (with_reducible refine below_drewN ?_ _) | (with_reducible refine Below.drew ?_) | (with_reducible refine Below.trans ?_ (Below.mono (by first | (with_reducible assumption) | exact Grow.below (by assumption)) (by first | omega | (simp; done) | (simp; omega)))))⟩
              case measure => simp [intOf]; omega
          · rw [decide_eq_false hl] at cLt
            rw [if_neg hl] at step
            clear cE1
            by_cases h0 : S.2.2 = 0
            · rw [decide_eq_true h0] at cE2
              have hfin := STOP.out (by rw [step]; exact h0)
              have HFIN := Lib.hid (hfin.trans step)
              clear hfin step hl h0
              go_wp2_with (apply wpList_cmp; rfl; simp [Cmp]; rfl; rfl; (first | assumption | exact is_lit64 _ (by decide) | exact is_lit32 _ (by decide)); (first | assumption | exact is_lit64 _ (by decide) | exact is_lit32 _ (by decide)); intro Kq hKq; go_simp)
              rw [Exit.noGoto_ret]
              go_ret3
              exact ⟨by rw [HFIN.out]; rfl, by repeat' (first | with_reducible exact Below.refl _ _ | with_reducible assumption | (with_reducible refine Below.setCell ?_ (by first | omega | (simp; done) | (simp; omega)) _) | (with_reducible refine Below.alloc ?_ (by first | omega | (simp; done) | (simp; omega)) _) | (with_reducible refine below_drewN ?_ _) | (with_reducible refine Below.drew ?_) | (with_reducible refine Below.trans ?_ (Below.mono (by first | (with_reducible assumption) | exact Grow.below (by assumption)) (by first | omega | (simp; done) | (simp; omega)))))⟩
            · rw [decide_eq_false h0] at cE2
              have ST := Lib.hid (HT.out.trans step)
              have hKj : k + 1 = i + 1 + (j + 1) := by rw [HK.out]; rfl
              have hwk : wrap64 ((k : Int) + 1) = ((k + 1 : Nat) : Int) := by unfold wrap64; omega
              have HKJ := Lib.hid hKj
              clear step hl h0 hKj
              go_wp2_with (apply wpList_cmp; rfl; simp [Cmp]; rfl; rfl; (first | assumption | exact is_lit64 _ (by decide) | exact is_lit32 _ (by decide)); (first | assumption | exact is_lit64 _ (by decide) | exact is_lit32 _ (by decide)); intro Kq hKq; go_simp)
              go_roundw
              case rel => exact ⟨j + 1, k + 1, by omega, HKJ.out, by go_num, by rw [ST.out], by rw [ST.out], by rw [ST.out], by repeat' (first | with_reducible exact Below.refl _ _ | with_reducible assumption | (with_reducible refine Below.setCell ?_ (by first | omega | (simp; done) | (simp; omega)) _) | (with_reducible refine Below.alloc ?_ (by first | omega | (simp; done) | (simp; omega)) _) | (with_reducible refine below_drewN ?_ _) | (with_reducible refine Below.drew ?_) | (with_reducible refine Below.trans ?_ (Below.mono (by first | (with_reducible assumption) | exact Grow.below (by assumption)) (by first | omega | (simp; done) | (simp; omega)))))⟩
              case measure => simp [intOf]; omega
        · have hkn : Hid (j = n - (i + 1)) := (show j = n - (i + 1) by omega)
          clear hjn
          go_wp2
          go_roundw
          case rel => exact ⟨i + 1, by omega, by go_num, by rw [hkn.out]; rfl, by rw [hkn.out]; rfl, by rw [hkn.out]; rfl, hbel⟩
          case measure => simp [intOf]; omega
    · have hkn : i = n := by omega
      subst hkn
      go_wp2
      rw [Exit.noGoto_ret]
      go_ret3
      exact ⟨rfl, hbel⟩
end Go.Proofs.Ytnohgnjoekibaaa
