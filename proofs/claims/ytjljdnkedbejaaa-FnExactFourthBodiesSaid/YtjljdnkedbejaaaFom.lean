/-
  Bodies behind three parts of a step, of the model. No condition.
-/
import Derived.Test.YtjljdnkedbejaaaFou
namespace Go.Proofs.Ytjljdnkedbejaaa
open Go.RowKit

theorem RowD.drewN {lo : Nat} {W : World} {l : Value} {m : Nat} {u : Nat → Option Nat} (h : RowD lo W l m u) (k : Nat) : RowD lo (W.drewN k) l m u := by
  obtain ⟨g, o, c, e, hg, h⟩ := h
  refine ⟨g, o, c, e, by simpa using hg, fun hp => ?_⟩
  obtain ⟨h1, h2, r, ho, hi⟩ := h hp
  exact ⟨h1, h2, r, ho.heap rfl, hi⟩

set_option maxHeartbeats 3200000 in
theorem sFourth (b off n cap : Nat) (f : Nat → Nat) (v : Nat → Option Nat) (_hc : n ≤ cap) (_hc2 : cap ≤ maxLen) {x y : Nat} {c t : Option Nat} (ix : Is .f32 x c) (iy : Is .f32 y t) (w : World) (hn : n ≤ 1048576) (hb : b < w.heap.size) (hr : ∀ i, i < 7 * n → w.cell? ⟨b, off + i, none⟩ = some (.float .f32 (f i))) (hv : ∀ i, i < 7 * n → Is .f32 (f i) (v i)) :
    Calls Try.prog 7 #[.slice (some ⟨b, off, none⟩) n cap, .float .f32 x, .float .f32 y] w (RetD (fouV v c t n 3) n (fouB v c t n 3) w) := by
  have HC := sCan b off n cap f v ix iy w hn hb hr hv
  cases hC : (areB v n && leastB c && finS t) with
  | false =>
    rw [hC] at HC
    have hno : fouB v c t n 3 = false := by
      cases h : fouB v c t n 3 with
      | false => rfl
      | true => rw [fou_can iy h] at hC; cases hC
    rw [hno]
    clear hr hv hno hC
    go_enter Try.func7, Try.ntmps7
    go_wp2_with (go_at_call 17; refine (HC).mono ?_; rintro _ W1 ⟨rfl, b1⟩)
    go_ret2
    exact RetD.no b1
  | true =>
    rw [hC] at HC
    simp only [Bool.and_eq_true] at hC
    obtain ⟨⟨hA, hL⟩, hT⟩ := hC
    have ST := fun (k g o cf : Nat) (r : Nat → Nat) (hAk : areB (fouV v c t n k) n = true) (z : Nat) (iz : Is .f32 z (tkT t k)) (W : World) (hg : g < W.heap.size) hr hv => sStepG g o n cf r (fouV v c t n k) ix iz hAk hL W hn hg hr hv
    have HL0 := Lib.hid (show ListJs w (.slice (some ⟨b, off, none⟩) n cap) n (fouV v c t n 0) from ⟨b, off, cap, f, rfl, hb, hr, hv⟩)
    have HA0 := Lib.hid (show areB (fouV v c t n 0) n = true from hA)
    obtain ⟨eT, -⟩ := fin_num32 iy hT
    obtain ⟨zA, eA, iA⟩ := mul_finK iy (is_lit32 1068299356 (by decide)) hT (by decide)
    obtain ⟨zB, eB, iB⟩ := mul_finK iy (is_lit32 3218729143 (by decide)) hT (by decide)
    have kA : Is .f32 zA (tkT t 0) := by unfold tkT tkP; rw [if_neg (by decide), eA]; exact iA
    have kB : Is .f32 zB (tkT t 1) := by unfold tkT tkP; rw [if_pos rfl, eB]; exact iB
    have kC : Is .f32 zA (tkT t 2) := by unfold tkT tkP; rw [if_neg (by decide), eA]; exact iA
    rw [eT] at eA eB
    have AA := fun w => run_fo32 eA 23 w
    have AB := fun w => run_fo32 eB 23 w
    clear hr hv hA eA eB iA iB eT hT
    go_enter Try.func7, Try.ntmps7
    go_wp2_with (go_at_call 17; refine (HC).mono ?_; rintro _ W1 ⟨rfl, b1⟩)
    have hz1 := b1.size
    have hG : ∀ w', Below (W1.heap.size + 1) (W1.alloc (.cells #[.float .f32 zA, .float .f32 zB, .float .f32 zA] 23)) w' → w'.cell? ⟨W1.heap.size, 0, none⟩ = some (.float .f32 zA) ∧ w'.cell? ⟨W1.heap.size, 1, none⟩ = some (.float .f32 zB) ∧ w'.cell? ⟨W1.heap.size, 2, none⟩ = some (.float .f32 zA) := fun w' h =>
      ⟨(h.cell (p := ⟨W1.heap.size, 0, none⟩) (Nat.lt_succ_self _)).trans (by simp), (h.cell (p := ⟨W1.heap.size, 1, none⟩) (Nat.lt_succ_self _)).trans (by simp), (h.cell (p := ⟨W1.heap.size, 2, none⟩) (Nat.lt_succ_self _)).trans (by simp)⟩
    have b2 : Below w.heap.size w (W1.alloc (.cells #[.float .f32 zA, .float .f32 zB, .float .f32 zA] 23)) := b1.alloc hz1 _
    have s2 : (W1.alloc (.cells #[.float .f32 zA, .float .f32 zB, .float .f32 zA] 23)).heap.size = W1.heap.size + 1 := by simp
    have HL1 : ListJs (W1.alloc (.cells #[.float .f32 zA, .float .f32 zB, .float .f32 zA] 23)) (.slice (some ⟨b, off, none⟩) n cap) n (fouV v c t n 0) := by
      obtain ⟨g, o, c', r, e, hg, hcl, his⟩ := HL0.out
      exact ⟨g, o, c', r, e, Nat.lt_of_lt_of_le hg b2.size, fun i hi => (b2.cell (p := ⟨g, o + i, none⟩) hg).trans (hcl i hi), his⟩
    have HG := Lib.hid hG
    have HL2 := Lib.hid HL1
    clear hG HL0 HL1
    generalize (W1.alloc (.cells #[.float .f32 zA, .float .f32 zB, .float .f32 zA] 23)) = W2 at *
    generalize W1.heap.size = G at *
    go_loopw [10, 9] (fun i l wr => ∃ k : Nat, k ≤ 3 ∧ i = .int .i64 (k : Nat) ∧ ListJs wr l n (fouV v c t n k) ∧ (0 < k → RowD w.heap.size wr l n (fouV v c t n k)) ∧ (fouB v c t n k = true ∧ areB (fouV v c t n k) n = true) ∧ Below w.heap.size w wr ∧ Below (G + 1) W2 wr) (fun i _ _ => 3 - (intOf i).toNat)
    case atStart => exact ⟨0, Nat.zero_le _, rfl, HL2.out, fun h => absurd h (Nat.lt_irrefl 0), ⟨rfl, HA0.out⟩, b2, Below.refl _ _⟩
    case round =>
      clear HL2 HA0
      obtain ⟨k, hk, rfl, hl, hrow, ⟨hB, hAk⟩, hbel, hbg⟩ := hrel
      have hz := hbel.size
      have hzg := hbg.size
      obtain ⟨X, rfl⟩ : ∃ X, X = wr := ⟨wr, rfl⟩
      obtain ⟨c0, c1, c2⟩ := HG.out X hbg
      by_cases hlt : k < 3
      · obtain ⟨g, o, cf, r, rfl, hg, hcl, his⟩ := hl
        have STk := fun (z : Nat) (iz : Is .f32 z (tkT t k)) => ST k g o cf r hAk z iz X hg hcl his
        have HN := Lib.hid (show ∀ bb, stepB (fouV v c t n k) c (tkT t k) n = bb → fouB v c t n (k + 1) = bb ∧ (bb = false → fouB v c t n 3 = false) from fun bb h => ⟨by simp [fouB, hB, h], fun h' => fouB_no (by rw [h, h']) hlt⟩)
        have HV := Lib.hid (show fouV v c t n (k + 1) = stepV (fouV v c t n k) c (tkT t k) n from rfl)
        have HSB := Lib.hid (show stepB (fouV v c t n k) c (tkT t k) n = (finS (tkT t k) && stepC (fouV v c t n k) c (tkT t k) n) from rfl)
        have HAN := Lib.hid (show stepB (fouV v c t n k) c (tkT t k) n = true → areB (fouV v c t n (k + 1)) n = true from fun h => (step_are h).2.2.2)
        clear ST hrow hB hcl his hAk
        cases hS : stepC (fouV v c t n k) c (tkT t k) n with
        | false =>
          have HF := Lib.hid ((HN.out false (by rw [HSB.out, hS, Bool.and_false])).2 rfl)
          rw [hS] at STk
          clear HN hS HAN
          have hk3 : k = 0 ∨ k = 1 ∨ k = 2 := by omega
          rcases hk3 with rfl | rfl | rfl <;>
            (go_wp2_with fail
             (go_at_call 18; refine (STk _ (by assumption)).mono ?_; rintro _ W3 ⟨⟨s, rfl, -, -⟩, b3⟩)
             go_wp2_with fail
             go_ret2
             rw [HF.out]
             exact RetD.no (hbel.trans (b3.mono hz)))
        | true =>
          rw [hS] at STk
          have STF := fun (z : Nat) (iz : Is .f32 z (tkT t k)) (W : World) => finite_any iz W
          cases hF : finS (tkT t k) with
          | false =>
            rw [hF] at STF
            have HF := Lib.hid ((HN.out false (by rw [HSB.out, hF, Bool.false_and])).2 rfl)
            clear HN hS HAN HSB
            have hk3 : k = 0 ∨ k = 1 ∨ k = 2 := by omega
            rcases hk3 with rfl | rfl | rfl <;>
              (go_wp2_with fail
               (go_at_call 18; refine (STk _ (by assumption)).mono ?_; rintro _ W3 ⟨⟨s, rfl, hs, -⟩, b3⟩)
               obtain ⟨d0, d1, d2⟩ := HG.out W3 (hbg.trans (b3.mono (by omega)))
               have hzg3 := b3.size
               go_wp2_with (go_at_call 19; refine (STF _ (by assumption) _).mono ?_; rintro eq wq ⟨nr, rfl, rfl⟩)
               go_ret2
               rw [HF.out]
               exact RetD.no (below_drewN (hbel.trans (b3.mono hz)) _))
          | true =>
            rw [hF] at STF
            have HT := Lib.hid (HN.out true (by rw [HSB.out, hF, hS]; rfl)).1
            have HA1 := Lib.hid (HAN.out (by rw [HSB.out, hF, hS]; rfl))
            clear HN hS HAN HSB
            have hk3 : k = 0 ∨ k = 1 ∨ k = 2 := by omega
            rcases hk3 with rfl | rfl | rfl <;>
              (go_wp2_with fail
               (go_at_call 18; refine (STk _ (by assumption)).mono ?_; rintro _ W3 ⟨⟨s, rfl, hs, -⟩, b3⟩)
               obtain ⟨d0, d1, d2⟩ := HG.out W3 (hbg.trans (b3.mono (by omega)))
               have hzg3 := b3.size
               have hrw := Lib.hid ((hs (by first | rfl | trivial)).lo (lo := w.heap.size) hz)
               clear hs
               go_wp2_with (go_at_call 19; refine (STF _ (by assumption) _).mono ?_; rintro eq wq ⟨nr, rfl, rfl⟩)
               go_roundw
               case rel =>
                 have hr2 := hrw.out.drewN nr
                 exact ⟨_, by decide, rfl, by rw [HV.out]; exact hr2.is, fun _ => by rw [HV.out]; exact hr2, ⟨HT.out, HA1.out⟩, below_drewN (hbel.trans (b3.mono hz)) _, below_drewN (hbg.trans (b3.mono (by omega))) _⟩
               case measure => decide)
      · obtain rfl : k = 3 := by omega
        have hrw := Lib.hid (hrow (by decide))
        have HB := Lib.hid hB
        clear hl hrow hB
        go_wp2_with fail
        go_ret2
        rw [HB.out]
        exact ⟨⟨_, rfl, fun _ => hrw.out, fun h => by cases h⟩, hbel⟩

theorem sFouL (b off n cap : Nat) (f : Nat → Nat) (v : Nat → Option Nat) (hc : n ≤ cap) (hc2 : cap ≤ maxLen) {x y : Nat} {c t : Option Nat} (ix : Is .f32 x c) (iy : Is .f32 y t) (w : World) (hn : n ≤ 1048576) (hb : b < w.heap.size) (hr : ∀ i, i < 7 * n → w.cell? ⟨b, off + i, none⟩ = some (.float .f32 (f i))) (hv : ∀ i, i < 7 * n → Is .f32 (f i) (v i)) :
    Calls Try.prog 7 #[.slice (some ⟨b, off, none⟩) n cap, .float .f32 x, .float .f32 y] w (RetList (fouV v c t n 3) n (fouB v c t n 3) w) := (sFourth b off n cap f v hc hc2 ix iy w hn hb hr hv).mono fun _ _ h => h.list
theorem iFouL (b off n cap : Nat) (f : Nat → Nat) (v : Nat → Option Nat) (hc : n ≤ cap) (hc2 : cap ≤ maxLen) {x y : Nat} {c t : Option Nat} (ix : Is .f32 x c) (iy : Is .f32 y t) (w : World) (hn : n ≤ 1048576) (hb : b < w.heap.size) (hr : ∀ i, i < 7 * n → w.cell? ⟨b, off + i, none⟩ = some (.float .f32 (f i))) (hv : ∀ i, i < 7 * n → Is .f32 (f i) (v i)) :
    Calls Try.prog 9 #[.slice (some ⟨b, off, none⟩) n cap, .float .f32 x, .float .f32 y] w (RetList (fouV v c t n 3) n (fouB v c t n 3) w) := (iFourth b off n cap f v hc hc2 ix iy w hn hb hr hv).mono fun _ _ h => h.list
end Go.Proofs.Ytjljdnkedbejaaa
