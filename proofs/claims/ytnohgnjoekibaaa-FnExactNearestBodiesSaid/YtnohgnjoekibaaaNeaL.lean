/-
  The nearest two bodies: for every list the law's text returns true, and writes nothing that was there. No condition.
-/
import Derived.Test.YtnohgnjoekibaaaNeaI
import Derived.Test.YtnohgnjoekibaaaNeaS
import Derived.Test.YtnohgnjoekibaaaGood
namespace Go.Proofs.Ytnohgnjoekibaaa
open Go.RowKit

/-- Whether there are nearest two. -/
def nearOk (v : Nat → Option Nat) (n : Nat) : Bool := areB v n && (decide (2 ≤ n) && finS (some (outI (farN v) n n).2.2))
def nearR (v : Nat → Option Nat) (n : Nat) : St := if nearOk v n then outI (farN v) n n else (0, 0, 0)

/-- The nearest two are handed back. -/
def RetN (v : Nat → Option Nat) (n : Nat) (w : World) (e : Ending) (w' : World) : Prop :=
  e = .returned (.tuple #[.int .i64 (nearR v n).1, .int .i64 (nearR v n).2.1, .float .f32 (nearR v n).2.2, .bool (nearOk v n)]) ∧ Below w.heap.size w w'

theorem ret_no {v : Nat → Option Nat} {n : Nat} (h : nearOk v n = false) {w w' : World} (hb : Below w.heap.size w w') : RetN v n w (.returned (.tuple #[.int .i64 0, .int .i64 0, .float .f32 0, .bool false])) w' := by
  unfold RetN nearR
  rw [h]
  exact ⟨rfl, hb⟩
theorem ret_yes {v : Nat → Option Nat} {n : Nat} (h : nearOk v n = true) {w w' : World} (hb : Below w.heap.size w w') : RetN v n w (.returned (.tuple #[.int .i64 (outI (farN v) n n).1, .int .i64 (outI (farN v) n n).2.1, .float .f32 (outI (farN v) n n).2.2, .bool true])) w' := by
  unfold RetN nearR
  rw [h]
  exact ⟨rfl, hb⟩

theorem outM_none {d : Nat → Nat → Nat} {n : Nat} (h : n < 2) : (outM d n n).1 < 0 := by
  match n, h with
  | 0, _ => show (-1 : Int) < 0; decide
  | 1, _ => show (-1 : Int) < 0; decide

section
variable (b off n cap : Nat) (f : Nat → Nat) (v : Nat → Option Nat) (w : World) (hn : n ≤ 1048576) (hb : b < w.heap.size) (hr : ∀ i, i < 7 * n → w.cell? ⟨b, off + i, none⟩ = some (.float .f32 (f i))) (hv : ∀ i, i < 7 * n → Is .f32 (f i) (v i))
include hn hb hr hv

set_option maxHeartbeats 1600000 in
theorem iNear : Calls Try.prog 15 #[.slice (some ⟨b, off, none⟩) n cap] w (RetN v n w) := by
  have HC := iAre b off n cap f v w hn hb hr hv
  cases hA : areB v n with
  | false =>
    have hno : nearOk v n = false := by simp [nearOk, hA]
    rw [hA] at HC
    clear hr hv
    go_enter Try.func15, Try.ntmps15
    go_wp2_with fail
    (go_at_call 13; refine HC.mono ?_; rintro _ w1 ⟨rfl, b1⟩)
    go_wp2_with fail
    refine bodyPost_ret (v := .tuple #[.int .i64 0, .int .i64 0, .float .f32 0, .bool false]) (by simp [results, Try.results15, go_sem]) rfl (ret_no hno (by repeat' (first | with_reducible exact Below.refl _ _ | with_reducible assumption | (with_reducible refine Below.setCell ?_ (by first | omega | (simp; done) | (simp; omega)) _) | (with_reducible refine Below.alloc ?_ (by first | omega | (simp; done) | (simp; omega)) _) | (with_reducible refine below_drewN ?_ _) | (with_reducible refine Below.drew ?_) | (with_reducible refine Below.trans ?_ (Below.mono (by first | (with_reducible assumption) | exact Grow.below (by assumption)) (by first | omega | (simp; done) | (simp; omega)))))))
  | true =>
    rw [hA] at HC
    by_cases h2 : n < 2
    · have hno : nearOk v n = false := by
        have : decide (2 ≤ n) = false := decide_eq_false (by omega)
        simp [nearOk, this]
      have hd : decide ((n : Int) < 2) = true := decide_eq_true (by omega)
      clear hr hv
      go_enter Try.func15, Try.ntmps15
      go_wp2_with fail
      (go_at_call 13; refine HC.mono ?_; rintro _ w1 ⟨rfl, b1⟩)
      go_wp2_with fail
      refine bodyPost_ret (v := .tuple #[.int .i64 0, .int .i64 0, .float .f32 0, .bool false]) (by simp [results, Try.results15, go_sem]) rfl (ret_no hno (by repeat' (first | with_reducible exact Below.refl _ _ | with_reducible assumption | (with_reducible refine Below.setCell ?_ (by first | omega | (simp; done) | (simp; omega)) _) | (with_reducible refine Below.alloc ?_ (by first | omega | (simp; done) | (simp; omega)) _) | (with_reducible refine below_drewN ?_ _) | (with_reducible refine Below.drew ?_) | (with_reducible refine Below.trans ?_ (Below.mono (by first | (with_reducible assumption) | exact Grow.below (by assumption)) (by first | omega | (simp; done) | (simp; omega)))))))
    · have hd : decide ((n : Int) < 2) = false := decide_eq_false (by omega)
      have h2' : decide (2 ≤ n) = true := decide_eq_true (by omega)
      have hL : NN (outI (farN v) n n).2.2 := outI_le _ _ _
      have FS := fun W => sFinite (nn_is hL) W
      have HR := Lib.hid hr
      have HV := Lib.hid hv
      have HA := Lib.hid hA
      clear hr hv hA
      cases hF : finS (some (outI (farN v) n n).2.2) with
      | false =>
        have hno : nearOk v n = false := by simp [nearOk, hF]
        rw [hF] at FS
        go_enter Try.func15, Try.ntmps15
        go_wp2_with fail
        (go_at_call 13; refine HC.mono ?_; rintro _ w1 ⟨rfl, b1⟩)
        go_wp2_with fail
        (go_at_call 30; refine (iPair b off n cap f v w1 hn HA.out (Nat.lt_of_lt_of_le hb b1.size) (fun i hi => (b1.cell (p := ⟨b, _, none⟩) hb).trans (HR.out i hi)) HV.out).mono ?_; rintro _ w2 ⟨rfl, b2⟩)
        go_wp2_with fail
        (go_at_call 31; refine (FS _).mono ?_; rintro _ w3 ⟨n3, rfl, rfl⟩)
        go_wp2_with fail
        refine bodyPost_ret (v := .tuple #[.int .i64 0, .int .i64 0, .float .f32 0, .bool false]) (by simp [results, Try.results15, go_sem]) rfl (ret_no hno (below_drewN (b1.trans (b2.mono b1.size)) _))
      | true =>
        have hyes : nearOk v n = true := by simp [nearOk, hF, h2', HA.out]
        rw [hF] at FS
        go_enter Try.func15, Try.ntmps15
        go_wp2_with fail
        (go_at_call 13; refine HC.mono ?_; rintro _ w1 ⟨rfl, b1⟩)
        go_wp2_with fail
        (go_at_call 30; refine (iPair b off n cap f v w1 hn HA.out (Nat.lt_of_lt_of_le hb b1.size) (fun i hi => (b1.cell (p := ⟨b, _, none⟩) hb).trans (HR.out i hi)) HV.out).mono ?_; rintro _ w2 ⟨rfl, b2⟩)
        go_wp2_with fail
        (go_at_call 31; refine (FS _).mono ?_; rintro _ w3 ⟨n3, rfl, rfl⟩)
        go_wp2_with fail
        refine bodyPost_ret (v := .tuple #[.int .i64 (outI (farN v) n n).1, .int .i64 (outI (farN v) n n).2.1, .float .f32 (outI (farN v) n n).2.2, .bool true]) (by simp [results, Try.results15, go_sem]) rfl (ret_yes hyes (below_drewN (b1.trans (b2.mono b1.size)) _))

set_option maxHeartbeats 1600000 in
theorem sNear : Calls Try.prog 14 #[.slice (some ⟨b, off, none⟩) n cap] w (RetN v n w) := by
  have HC := sAre b off n cap f v w hn hb hr hv
  cases hA : areB v n with
  | false =>
    have hno : nearOk v n = false := by simp [nearOk, hA]
    rw [hA] at HC
    clear hr hv
    go_enter Try.func14, Try.ntmps14
    go_wp2_with fail
    (go_at_call 26; refine HC.mono ?_; rintro _ w1 ⟨rfl, b1⟩)
    go_wp2_with fail
    refine bodyPost_ret (v := .tuple #[.int .i64 0, .int .i64 0, .float .f32 0, .bool false]) (by simp [results, Try.results14, go_sem]) rfl (ret_no hno (by repeat' (first | with_reducible exact Below.refl _ _ | with_reducible assumption | (with_reducible refine Below.setCell ?_ (by first | omega | (simp; done) | (simp; omega)) _) | (with_reducible refine Below.alloc ?_ (by first | omega | (simp; done) | (simp; omega)) _) | (with_reducible refine below_drewN ?_ _) | (with_reducible refine Below.drew ?_) | (with_reducible refine Below.trans ?_ (Below.mono (by first | (with_reducible assumption) | exact Grow.below (by assumption)) (by first | omega | (simp; done) | (simp; omega)))))))
  | true =>
    rw [hA] at HC
    have hD : ∀ i k, i < n → k < n → farN v i k ≤ 2139095040 := fun i k hi hk => (far_nn hA hi hk hv).2
    have hB := both_out hD n (Nat.le_refl _)
    have hok : (decide (0 ≤ (outM (farN v) n n).1) && finS (some (outM (farN v) n n).2.2)) = nearOk v n := by
      unfold nearOk
      rw [hA, Bool.true_and]
      by_cases h2 : n < 2
      · have h3 := outM_none (d := farN v) h2
        rw [decide_eq_false (show ¬ 0 ≤ (outM (farN v) n n).1 by omega), decide_eq_false (show ¬ 2 ≤ n by omega)]
        rfl
      · have h3 := outM_some (d := farN v) (n := n) (by omega)
        rw [decide_eq_true h3, decide_eq_true (show 2 ≤ n by omega)]
        rcases hB with ⟨h4, _⟩ | ⟨_, h4, _⟩
        · omega
        · rw [h4]
    have hval : nearOk v n = true → (outM (farN v) n n).1 = (outI (farN v) n n).1 ∧ (outM (farN v) n n).2.1 = (outI (farN v) n n).2.1 ∧ (outM (farN v) n n).2.2 = (outI (farN v) n n).2.2 := by
      intro hy
      have hy' := hy
      unfold nearOk at hy
      simp only [Bool.and_eq_true, decide_eq_true_eq] at hy
      have h3 := outM_some (d := farN v) (n := n) hy.2.1
      have hL : NN (outI (farN v) n n).2.2 := outI_le _ _ _
      have hf := hy.2.2
      rw [nn_fin hL] at hf
      rcases hB with ⟨h4, _⟩ | ⟨_, h4, _, h5⟩
      · omega
      · obtain ⟨h6, h7⟩ := h5 (of_decide_eq_true hf)
        exact ⟨h6, h7, h4⟩
    have PP := fun (W : World) (hW : b < W.heap.size) (hc : ∀ i, i < 7 * n → W.cell? ⟨b, off + i, none⟩ = some (.float .f32 (f i))) => hok ▸ sPairN b off n cap f v W hn hA hW hc hv
    have HR := Lib.hid hr
    have HVAL := Lib.hid hval
    clear hr hv hA hD hB hok hval
    cases hK : nearOk v n with
    | false =>
      rw [hK] at PP
      go_enter Try.func14, Try.ntmps14
      go_wp2_with fail
      (go_at_call 26; refine HC.mono ?_; rintro _ w1 ⟨rfl, b1⟩)
      go_wp2_with fail
      (go_at_call 29; refine (PP w1 (Nat.lt_of_lt_of_le hb b1.size) (fun i hi => (b1.cell (p := ⟨b, _, none⟩) hb).trans (HR.out i hi))).mono ?_; rintro _ w2 ⟨rfl, b2⟩)
      go_wp2_with fail
      refine bodyPost_ret (v := .tuple #[.int .i64 0, .int .i64 0, .float .f32 0, .bool false]) (by simp [results, Try.results14, go_sem]) rfl (ret_no hK (b1.trans (b2.mono b1.size)))
    | true =>
      obtain ⟨v1, v2, v3⟩ := HVAL.out hK
      rw [hK, v1, v2, v3] at PP
      clear v1 v2 v3
      go_enter Try.func14, Try.ntmps14
      go_wp2_with fail
      (go_at_call 26; refine HC.mono ?_; rintro _ w1 ⟨rfl, b1⟩)
      go_wp2_with fail
      (go_at_call 29; refine (PP w1 (Nat.lt_of_lt_of_le hb b1.size) (fun i hi => (b1.cell (p := ⟨b, _, none⟩) hb).trans (HR.out i hi))).mono ?_; rintro _ w2 ⟨rfl, b2⟩)
      go_wp2_with fail
      refine bodyPost_ret (v := .tuple #[.int .i64 (outI (farN v) n n).1, .int .i64 (outI (farN v) n n).2.1, .float .f32 (outI (farN v) n n).2.2, .bool true]) (by simp [results, Try.results14, go_sem]) rfl (ret_yes hK (b1.trans (b2.mono b1.size)))
end

theorem nearR_nn (v : Nat → Option Nat) (n : Nat) : NN (nearR v n).2.2 := by
  unfold nearR
  split
  · exact outI_le _ _ _
  · exact Nat.zero_le _

set_option maxHeartbeats 1600000 in
theorem walk_FnExactNearestBodies (a : Option Addr) (n cap : Nat) (f : Nat → Nat) (w : World) (hg : GoodBd w a n f) :
    Calls Try.prog 5 #[.slice a n cap] w fun e w' => e = .returned (.bool true) ∧ Below w.heap.size w w' := by
  obtain ⟨hw, hm, h⟩ := hg
  by_cases hn : n ≤ 1048576
  · have hl : decide (1048576 - (n : Int) < 0) = false := by simp; omega
    have hi : ∀ i, i < 7 * n → Is .f32 (f i) (nrm .f32 (f i)) := fun i h => Is.self (hw i h)
    have H := Lib.hid h
    have HI := Lib.hid hi
    have iR := nn_is (nearR_nn (fun i => nrm .f32 (f i)) n)
    clear h hi hw
    go_enter Try.func5, Try.ntmps5
    go_wp2_with (go_at_call 7; refine (szB _ _ _ _ hn).mono ?_; rintro eq wq ⟨rfl, rfl⟩)
    have b0 := Below.refl wq.heap.size wq
    (go_at_call 9; refine Calls.mono (toB_any _ hn (H.out.below b0)) ?_; rintro _ W1 ⟨rfl, b1, r1⟩)
    go_wp2_with fail
    (go_at_call 14; refine (sNear _ 0 n n f (fun i => nrm .f32 (f i)) W1 hn r1.lt (rowCells r1) HI.out).mono ?_; rintro _ W2 ⟨rfl, b2⟩)
    replace b2 := bt b1 b2
    go_wp2_with fail
    (go_at_call 9; refine Calls.mono (toB_any _ hn (H.out.below b2)) ?_; rintro _ W3 ⟨rfl, b3, r3⟩)
    replace b3 := bt b2 b3
    go_wp2_with fail
    (go_at_call 15; refine (iNear _ 0 n n f (fun i => nrm .f32 (f i)) W3 hn r3.lt (rowCells r3) HI.out).mono ?_; rintro _ W4 ⟨rfl, b4⟩)
    replace r3 := rt r3 b4
    replace b4 := bt b3 b4
    generalize hR : nearR (fun i => nrm .f32 (f i)) n = R at *
    generalize nearOk (fun i => nrm .f32 (f i)) n = K at *
    clear hR
    obtain ⟨R0, R1, R2⟩ := R
    dsimp only at iR ⊢
    have b4' : ∀ q, Below wq.heap.size wq (W4.drewN q) := fun q => below_drewN b4 q
    have r3' := fun q => rt r3 (below_drewN (Below.refl W4.heap.size W4) q)
    have B4 := Lib.hid b4'
    have R3 := Lib.hid r3'
    clear b4' r3' r3 b4
    go_wp2_with (first | (apply wpList_wide und32 Try.underlying34; rfl; rfl; (first | assumption | exact is_lit64 _ (by decide) | exact is_lit32 _ (by decide)); intro Kq hKq rq nq hq; go_simp) | (go_at_call 16; refine (sameFloat_any (by assumption) (by assumption) _).mono ?_; rintro eq wq ⟨nq, rfl, rfl⟩))
    (go_at_call 9; refine Calls.mono (toB_any _ hn (H.out.below (B4.out _))) ?_; rintro _ W5 ⟨rfl, b5, r5⟩)
    have r3 := rt (R3.out _) b5
    replace b5 := bt (B4.out _) b5
    go_wp2_with fail
    (go_at_call 11; refine (eqRow hn r3 r5 HI.out HI.out).mono ?_; rintro _ W6 ⟨rfl, b6⟩)
    replace b6 := bt b5 b6
    go_wp2_with fail
    go_ret
    exact ⟨rfl, b6⟩
  · have hl : 1048576 < n := by omega
    clear h hw
    go_enter Try.func5, Try.ntmps5
    go_wp2_with (go_at_call 7; refine (szB_out _ _ _ _ hl hm).mono ?_; rintro eq wq ⟨rfl, rfl⟩)
    go_ret
    exact ⟨rfl, Below.refl _ _⟩
end Go.Proofs.Ytnohgnjoekibaaa
