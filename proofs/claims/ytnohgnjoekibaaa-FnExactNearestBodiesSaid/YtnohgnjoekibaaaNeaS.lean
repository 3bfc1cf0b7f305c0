/-
  The nearest two bodies, of the model. No condition.
-/
import Derived.Test.YtnohgnjoekibaaaNeaI
namespace Go.Proofs.Ytnohgnjoekibaaa
open Go.RowKit

section
variable {f : Nat → Nat} {v : Nat → Option Nat} {n i k : Nat}
/-- What a distance needs: of the model. -/
theorem far_spec (hA : areB v n = true) (hi : i < n) (hk : k < n) (hv : ∀ j, j < 7 * n → Is .f32 (f j) (v j)) :
    ∀ W, Calls Try.prog 44 #[vecV (f (7 * k)) (f (7 * k + 1)) (f (7 * k + 2)), vecV (f (7 * i)) (f (7 * i + 1)) (f (7 * i + 2))] W fun e w' => e = .returned (.float .f32 (farN v i k)) ∧ Below W.heap.size W w' := by
  intro W
  obtain ⟨a0, a1, a2, a3, a4, a5, a6⟩ := fin_at hA hi
  obtain ⟨b0, b1, b2, b3, b4, b5, b6⟩ := fin_at hA hk
  have I := fun j (hj : j < 7) => hv (7 * i + j) (by omega)
  have K := fun j (hj : j < 7) => hv (7 * k + j) (by omega)
  have hf := (far_nn hA hi hk hv).1
  unfold farO at hf
  have LS := fun W => sLess (hv (7 * k) (by omega)) (K 1 (by decide)) (K 2 (by decide)) (hv (7 * i) (by omega)) (I 1 (by decide)) (I 2 (by decide)) W
  have HF := Lib.hid hf
  clear hf I K a0 a1 a2 a3 a4 a5 a6 b0 b1 b2 b3 b4 b5 b6
  go_enter Try.func44, Try.ntmps44
  go_wp2_with fail
  refine (LS _).mono ?_
  rintro _ w1 ⟨r0, r1, r2, rfl, h0, h1, h2, hg⟩
  go_wp2_with fail
  refine (sLong h0 h1 h2 _).mono ?_
  rintro _ w2 ⟨r, rfl, h, hg2⟩
  rw [HF.out] at h
  obtain rfl := h.notNaN
  go_wp2_with fail
  go_ret
  have hz := hg.below.size
  simp at hz
  refine ⟨rfl, ?_⟩
  repeat' (first | with_reducible exact Below.refl _ _ | with_reducible assumption | (with_reducible refine Below.setCell ?_ (by first | omega | (simp; done) | (simp; omega)) _) | (with_reducible refine Below.alloc ?_ (by first | omega | (simp; done) | (simp; omega)) _) | (with_reducible refine below_drewN ?_ _) | (with_reducible refine Below.drew ?_) | (with_reducible refine Below.trans ?_ (Below.mono (by first | (with_reducible assumption) | exact Grow.below (by assumption)) (by first | omega | (simp; done) | (simp; omega)))))
end

theorem inM_le {d : Nat → Nat → Nat} {i : Nat} {s : Sm} (hs : s.2.2 ≤ 2139095040) : ∀ j, (∀ q, q < j → d i (i + 1 + q) ≤ 2139095040) → (inM d i s j).2.2 ≤ 2139095040
  | 0, _ => hs
  | j + 1, hd => by
    have h := inM_le hs j (fun q hq => hd q (by omega))
    have hdj := hd j (Nat.lt_succ_self j)
    simp only [inM]
    split
    · exact hdj
    · exact h
theorem outM_le {d : Nat → Nat → Nat} {n : Nat} (hd : ∀ i k, i < n → k < n → d i k ≤ 2139095040) : ∀ i, i ≤ n → (outM d n i).2.2 ≤ 2139095040
  | 0, _ => Nat.zero_le _
  | i + 1, hi => inM_le (outM_le hd i (by omega)) _ (fun q hq => hd _ _ (by omega) (by omega))

set_option maxHeartbeats 6400000 in
theorem sPairN (b off n cap : Nat) (f : Nat → Nat) (v : Nat → Option Nat) (w : World) (hn : n ≤ 1048576) (hA : areB v n = true) (hb : b < w.heap.size) (hr : ∀ i, i < 7 * n → w.cell? ⟨b, off + i, none⟩ = some (.float .f32 (f i))) (hv : ∀ i, i < 7 * n → Is .f32 (f i) (v i)) :
    Calls Try.prog 29 #[.slice (some ⟨b, off, none⟩) n cap] w fun e w' => e = .returned (.tuple #[.int .i64 (outM (farN v) n n).1, .int .i64 (outM (farN v) n n).2.1, .float .f32 (outM (farN v) n n).2.2, .bool (decide (0 ≤ (outM (farN v) n n).1) && finS (some (outM (farN v) n n).2.2))]) ∧ Below w.heap.size w w' := by
  have HR := Lib.hid hr
  have HV := Lib.hid hv
  have HA := Lib.hid hA
  have hD : ∀ i k, i < n → k < n → farN v i k ≤ 2139095040 := fun i k hi hk => (far_nn hA hi hk hv).2
  have HD := Lib.hid hD
  clear hr hv hA hD
  go_enter Try.func29, Try.ntmps29
  go_wp2
  go_loopw [6, 7, 8, 9] (fun p q r i wr => ∃ k : Nat, k ≤ n ∧ i = .int .i64 k ∧ p = .int .i64 (outM (farN v) n k).1 ∧ q = .int .i64 (outM (farN v) n k).2.1 ∧ r = .float .f32 (outM (farN v) n k).2.2 ∧ Below w.heap.size w wr) (fun _ _ _ i _ => n - (intOf i).toNat)
  case atStart => exact ⟨0, Nat.zero_le _, rfl, rfl, rfl, rfl, Below.refl _ _⟩
  case round =>
    obtain ⟨i, hi, rfl, rfl, rfl, rfl, hbel⟩ := hrel
    by_cases hlt : i < n
    · have hin : wrap64 ((i : Int) + 1) = ((i + 1 : Nat) : Int) := by unfold wrap64; omega
      have hO : (outM (farN v) n i).2.2 ≤ 2139095040 := outM_le HD.out i hi
      have HO := Lib.hid hO
      clear hO
      go_wp2_with fail
      go_loopw [6, 7, 8, 10] (fun p q r kk wx => ∃ j k : Nat, j ≤ n - (i + 1) ∧ k = i + 1 + j ∧ kk = .int .i64 k ∧ p = .int .i64 (inM (farN v) i (outM (farN v) n i) j).1 ∧ q = .int .i64 (inM (farN v) i (outM (farN v) n i) j).2.1 ∧ r = .float .f32 (inM (farN v) i (outM (farN v) n i) j).2.2 ∧ Below w.heap.size w wx) (fun _ _ _ kk _ => n - (intOf kk).toNat)
      case atStart => exact ⟨0, i + 1, Nat.zero_le _, rfl, by simp, rfl, rfl, rfl, hbel⟩
      case round =>
        clear hbel
        obtain ⟨j, k, hj, hk, rfl, rfl, rfl, rfl, hbel⟩ := hrel
        have hjn : k < n ↔ j < n - (i + 1) := by omega
        have HK := Lib.hid hk
        clear hk
        by_cases hlk : k < n
        · have hz := hbel.size
          have hj2 : j < n - (i + 1) := hjn.1 hlk
          clear hjn
          have LS := far_spec HA.out hlt hlk HV.out
          obtain ⟨hF1, hF2⟩ := far_nn HA.out hlt hlk HV.out
          have hL : NN (inM (farN v) i (outM (farN v) n i) j).2.2 := inM_le HO.out j (fun q hq => HD.out _ _ hlt (by omega))
          obtain ⟨c0, c1, c2, c3, c4, c5, c6⟩ := cells7 HR.out hlt
          obtain ⟨d0, d1, d2, d3, d4, d5, d6⟩ := cells7 HR.out hlk
          have kc0 := fun (w' : World) (h : Below wr.heap.size wr w') => ((hbel.trans (h.mono hz)).cell (p := ⟨b, _, none⟩) hb).trans c0
          have kc1 := fun (w' : World) (h : Below wr.heap.size wr w') => ((hbel.trans (h.mono hz)).cell (p := ⟨b, _, none⟩) hb).trans c1
          have kc2 := fun (w' : World) (h : Below wr.heap.size wr w') => ((hbel.trans (h.mono hz)).cell (p := ⟨b, _, none⟩) hb).trans c2
          have kd0 := fun (w' : World) (h : Below wr.heap.size wr w') => ((hbel.trans (h.mono hz)).cell (p := ⟨b, _, none⟩) hb).trans d0
          have kd1 := fun (w' : World) (h : Below wr.heap.size wr w') => ((hbel.trans (h.mono hz)).cell (p := ⟨b, _, none⟩) hb).trans d1
          have kd2 := fun (w' : World) (h : Below wr.heap.size wr w') => ((hbel.trans (h.mono hz)).cell (p := ⟨b, _, none⟩) hb).trans d2
          clear c0 d0 c1 d1 c2 d2 c3 d3 c4 d4 c5 d5 c6 d6
          go_wp2_with fail
          go_region_held3 (fun w' => Below wr.heap.size wr w') ((repeat' (first | with_reducible assumption | with_reducible exact Below.refl _ _ | with_reducible exact keepW (by with_reducible assumption) (by with_reducible assumption) (by first | exact Nat.le_refl _ | assumption | omega | (simp; done) | (simp; omega)) | with_reducible exact keepS (by with_reducible assumption) (by with_reducible assumption) (by first | exact Nat.le_refl _ | assumption | omega | (simp; done) | (simp; omega)) | (with_reducible refine Below.setCell ?_ (by first | omega | (simp; done) | (simp; omega)) _) | (with_reducible refine below_drewN ?_ _) | (with_reducible refine Below.drew ?_) | (with_reducible refine Below.trans ?_ (Below.mono (by with_reducible assumption) (by first | omega | (simp; done) | (simp; omega)))) | (with_reducible refine Below.trans ?_ (Below.mono (Grow.below (by with_reducible assumption)) (by first | omega | (simp; done) | (simp; omega)))) | (with_reducible refine Below.alloc ?_ (by first | omega | (simp; done) | (simp; omega)) _)))) (first | (go_at_call 44; (with_reducible refine (LS _).mono ?_); rintro eq wq ⟨rfl, hbx⟩))
          rename_i hHeld
          have hW : Below w.heap.size w wq := hbel.trans (hHeld.mono hz)
          have iD := nn_is hF2
          have iL := nn_is hL
          have cLt := nn_lss hF2 hL
          have step : inM (farN v) i (outM (farN v) n i) (j + 1) = if (inM (farN v) i (outM (farN v) n i) j).1 < 0 ∨ farN v i k < (inM (farN v) i (outM (farN v) n i) j).2.2 then ((i : Int), (k : Int), farN v i k) else inM (farN v) i (outM (farN v) n i) j := by rw [HK.out]; rfl
          have hKj : k + 1 = i + 1 + (j + 1) := by rw [HK.out]; rfl
          have HKJ := Lib.hid hKj
          have hwk : wrap64 ((k : Int) + 1) = ((k + 1 : Nat) : Int) := by unfold wrap64; omega
          clear hF1 hbel hHeld LS kc0 kc1 kc2 kd0 kd1 kd2 hF2 hL hz hKj
          generalize hS : inM (farN v) i (outM (farN v) n i) j = S at *
          generalize hT : inM (farN v) i (outM (farN v) n i) (j + 1) = T at *
          have HS := Lib.hid hS
          have HT := Lib.hid hT
          clear hS hT
          generalize farN v i k = D at *
          obtain ⟨S0, S1, S2⟩ := S
          dsimp only at *
          by_cases ha : S0 < 0
          · rw [if_pos (.inl ha)] at step
            have ST := Lib.hid (HT.out.trans step)
            have hda : decide (S0 < 0) = true := decide_eq_true ha
            clear step cLt
            go_wp2_with (apply wpList_cmp; rfl; simp [Cmp]; rfl; rfl; (first | assumption | exact is_lit64 _ (by decide) | exact is_lit32 _ (by decide)); (first | assumption | exact is_lit64 _ (by decide) | exact is_lit32 _ (by decide)); intro Kq hKq; go_simp)
            go_roundw
            case rel => exact ⟨j + 1, k + 1, by omega, HKJ.out, by go_num, by rw [ST.out], by rw [ST.out], by rw [ST.out], by repeat' (first | with_reducible exact Below.refl _ _ | with_reducible assumption | (with_reducible refine Below.setCell ?_ (by first | omega | (simp; done) | (simp; omega)) _) | (with_reducible refine Below.alloc ?_ (by first | omega | (simp; done) | (simp; omega)) _) | (with_reducible refine below_drewN ?_ _) | (with_reducible refine Below.drew ?_) | (with_reducible refine Below.trans ?_ (Below.mono (by first | (with_reducible assumption) | exact Grow.below (by assumption)) (by first | omega | (simp; done) | (simp; omega)))))⟩
            case measure => simp [intOf]; omega
          · have hda : decide (S0 < 0) = false := decide_eq_false ha
            by_cases hl : D < S2
            · rw [if_pos (.inr hl)] at step
              rw [decide_eq_true hl] at cLt
              have ST := Lib.hid (HT.out.trans step)
              clear step hl
              go_wp2_with (apply wpList_cmp; rfl; simp [Cmp]; rfl; rfl; (first | assumption | exact is_lit64 _ (by decide) | exact is_lit32 _ (by decide)); (first | assumption | exact is_lit64 _ (by decide) | exact is_lit32 _ (by decide)); intro Kq hKq; go_simp)
              go_roundw
              case rel => exact ⟨j + 1, k + 1, by omega, HKJ.out, by go_num, by rw [ST.out], by rw [ST.out], by rw [ST.out], by repeat' (first | with_reducible exact Below.refl _ _ | with_reducible assumption | (with_reducible refine Below.setCell ?_ (by first | omega | (simp; done) | (simp; omega)) _) | (with_reducible refine Below.alloc ?_ (by first | omega | (simp; done) | (simp; omega)) _) | (with_reducible refine below_drewN ?_ _) | (with_reducible refine Below.drew ?_) | (with_reducible refine Below.trans ?_ (Below.mono (by first | (with_reducible assumption) | exact Grow.below (by assumption)) (by first | omega | (simp; done) | (simp; omega)))))⟩
              case measure => simp [intOf]; omega
            · rw [if_neg (by rintro (h | h); exact ha h; exact hl h)] at step
              rw [decide_eq_false hl] at cLt
              have ST := Lib.hid (HT.out.trans step)
              clear step hl
              go_wp2_with (apply wpList_cmp; rfl; simp [Cmp]; rfl; rfl; (first | assumption | exact is_lit64 _ (by decide) | exact is_lit32 _ (by decide)); (first | assumption | exact is_lit64 _ (by decide) | exact is_lit32 _ (by decide)); intro Kq hKq; go_simp)
              go_roundw
              case rel => exact ⟨j + 1, k + 1, by omega, HKJ.out, by go_num, by rw [ST.out], by rw [ST.out], by rw [ST.out], by repeat' (first | with_reducible exact Below.refl _ _ | with_reducible assumption | (with_reducible refine Below.setCell ?_ (by first | omega | (simp; done) | (simp; omega)) _) | (with_reducible refine Below.alloc ?_ (by first | omega | (simp; done) | (simp; omega)) _) | (with_reducible refine below_drewN ?_ _) | (with_reducible refine Below.drew ?_) | (with_reducible refine Below.trans ?_ (Below.mono (by first | (with_reducible assumption) | exact Grow.below (by assumption)) (by first | omega | (simp; done) | (simp; omega)))))⟩
              case measure => simp [intOf]; omega
        · have hkn : Hid (j = n - (i + 1)) := (show j = n - (i + 1) by omega)
          clear hjn
          go_wp2
          go_roundw
          case rel => exact ⟨i + 1, by omega, by go_num, by rw [hkn.out]; rfl, by rw [hkn.out]; rfl, by rw [hkn.out]; rfl, hbel⟩
          case measure => simp [intOf]; omega
    · have hkn : i = n := by omega
      subst hkn
      have hL : NN (outM (farN v) i i).2.2 := outM_le HD.out i hi
      have iL := nn_is hL
      have FS := fun W => finite_any iL W
      clear hL iL HD HV HR HA
      generalize hS : outM (farN v) i i = S at *
      have HS := Lib.hid hS
      clear hS
      obtain ⟨S0, S1, S2⟩ := S
      dsimp only at *
      by_cases ha : 0 ≤ S0
      · have hda : decide (0 ≤ S0) = true := decide_eq_true ha
        go_wp2_with (go_at_call 45; refine (FS _).mono ?_; rintro eq wq ⟨nq, rfl, rfl⟩)
        refine bodyPost_ret (v := .tuple #[.int .i64 S0, .int .i64 S1, .float .f32 S2, .bool (finS (some S2))]) (by simp [results, Try.results29, go_sem, hda]) rfl ⟨by rw [HS.out]; dsimp only; rw [hda]; rfl, by repeat' (first | with_reducible exact Below.refl _ _ | with_reducible assumption | (with_reducible refine Below.setCell ?_ (by first | omega | (simp; done) | (simp; omega)) _) | (with_reducible refine Below.alloc ?_ (by first | omega | (simp; done) | (simp; omega)) _) | (with_reducible refine below_drewN ?_ _) | (with_reducible refine Below.drew ?_) | (with_reducible refine Below.trans ?_ (Below.mono (by first | (with_reducible assumption) | exact Grow.below (by assumption)) (by first | omega | (simp; done) | (simp; omega)))))⟩
      · have hda : decide (0 ≤ S0) = false := decide_eq_false ha
        go_wp2_with (go_at_call 45; refine (FS _).mono ?_; rintro eq wq ⟨nq, rfl, rfl⟩)
        refine bodyPost_ret (v := .tuple #[.int .i64 S0, .int .i64 S1, .float .f32 S2, .bool false]) (by simp [results, Try.results29, go_sem, hda]) rfl ⟨by rw [HS.out]; dsimp only; rw [hda]; rfl, by repeat' (first | with_reducible exact Below.refl _ _ | with_reducible assumption | (with_reducible refine Below.setCell ?_ (by first | omega | (simp; done) | (simp; omega)) _) | (with_reducible refine Below.alloc ?_ (by first | omega | (simp; done) | (simp; omega)) _) | (with_reducible refine below_drewN ?_ _) | (with_reducible refine Below.drew ?_) | (with_reducible refine Below.trans ?_ (Below.mono (by first | (with_reducible assumption) | exact Grow.below (by assumption)) (by first | omega | (simp; done) | (simp; omega)))))⟩
end Go.Proofs.Ytnohgnjoekibaaa
