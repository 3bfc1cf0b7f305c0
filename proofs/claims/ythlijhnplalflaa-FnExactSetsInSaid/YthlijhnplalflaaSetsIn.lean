/-
  The indices at which something sets: for every list of yes and no the law's text returns true, and writes nothing that was there. No condition.
-/
import Derived.Test.YthlijhnplalflaaTurns
namespace Go.Proofs.Ythlijhnplalflaa
open Go.RowKit

theorem iSets (b n cap : Nat) (f : Nat → Bool) (w : World) (hb : b < w.heap.size) (hr : ∀ i, i < n → w.cell? ⟨b, i, none⟩ = some (.bool (f i))) :
    Calls Try.prog 36 #[.slice (some ⟨b, 0, none⟩) n cap] w (RetL (riseL f false n) (decide (n ≤ 64)) w) := by
  by_cases hn : n ≤ 64
  · rw [decide_eq_true hn]
    have e : riseL f false n = turnsL f false n := by unfold riseL; rw [if_pos hn]
    rw [e]
    have H := iTurnsN b n cap f w hn hb hr
    go_enter Try.func36, Try.ntmps36
    go_wp2_with (go_at_call 60; refine H.mono ?_; rintro eq wq ⟨v, rfl, hrow, hbw⟩)
    go_ret2
    exact ⟨_, rfl, hrow, hbw⟩
  · rw [decide_eq_false hn]
    have e : riseL f false n = [] := by unfold riseL; rw [if_neg hn]
    rw [e]
    have H := iTurns_out (some ⟨b, 0, none⟩) n cap false w (by omega)
    go_enter Try.func36, Try.ntmps36
    go_wp2_with (go_at_call 60; refine H.mono ?_; rintro eq wq ⟨v, rfl, hrow, hbw⟩)
    go_ret2
    exact ⟨_, rfl, hrow, hbw⟩

theorem sSets (b n cap : Nat) (f : Nat → Bool) (w : World) (hb : b < w.heap.size) (hr : ∀ i, i < n → w.cell? ⟨b, i, none⟩ = some (.bool (f i))) :
    Calls Try.prog 35 #[.slice (some ⟨b, 0, none⟩) n cap] w (RetL (riseL f false n) (decide (n ≤ 64)) w) := by
  by_cases hn : n ≤ 64
  · rw [decide_eq_true hn]
    have e : riseL f false n = turnsL f false n := by unfold riseL; rw [if_pos hn]
    rw [e]
    have H := sTurnsN b n cap f w hn hb hr
    have hd : decide (64 < ((n : Nat) : Int)) = false := by simp; omega
    go_enter Try.func35, Try.ntmps35
    go_wp2_with (go_at_call 59; refine H.mono ?_; rintro eq wq ⟨v, rfl, hrow, hbw⟩)
    go_ret2
    exact ⟨_, rfl, hrow, hbw⟩
  · rw [decide_eq_false hn]
    have e : riseL f false n = [] := by unfold riseL; rw [if_neg hn]
    rw [e]
    have hd : decide (64 < ((n : Nat) : Int)) = true := by simp; omega
    go_enter Try.func35, Try.ntmps35
    go_wp2
    go_ret2
    exact RetL.bad (Below.refl _ _)

set_option maxHeartbeats 3200000 in
theorem walk_FnExactSetsIn (a : Option Addr) (n cap : Nat) (f : Nat → Bool) (w : World) (h : RowT w a n f) :
    Calls Try.prog 10 #[.slice a n cap] w fun e w' => e = .returned (.bool true) ∧ Below w.heap.size w w' := by
  by_cases hn : n ≤ 1048576
  · have hn' : decide (1048576 < ((n : Nat) : Int)) = false := by simp; omega
    have HI := fun (b cap : Nat) (w : World) (hb : b < w.heap.size) hr => iSets b n cap f w hb hr
    have HS := fun (b cap : Nat) (w : World) (hb : b < w.heap.size) hr => sSets b n cap f w hb hr
    have hl := rise_len f false n
    generalize riseL f false n = xs at *
    generalize decide (n ≤ 64) = ok at *
    have hrow := arrT_row f n
    have hx : xs.length ≤ 1048576 := by omega
    have hneg : decide (1 + (xs.length : Int) < 0) = false := by simp; omega
    have hneg2 : decide (1 + (n : Int) < 0) = false := by simp; omega
    clear hl
    go_enter Try.func10, Try.ntmps10
    go_wp2_with fail
    refine (toT_any cap hn h).mono ?_
    rintro _ _ ⟨rfl, rfl⟩
    go_wp2_with fail
    refine (HS w.heap.size n _ (by simp) (by intro i hi; go_simp)).mono ?_
    rintro _ w1 ⟨v0, rfl, r0, b1⟩
    have B1 := Lib.hid (((Below.refl w.heap.size w).alloc (Nat.le_refl _) (.cells (arrT f n n) 4)).trans (b1.mono (by simp)))
    have R0 := Lib.hid r0
    clear r0 b1
    go_wp2_with fail
    refine (toT_any cap hn (h.below B1.out)).mono ?_
    rintro _ _ ⟨rfl, rfl⟩
    go_wp2_with fail
    refine (HI w1.heap.size n _ (by simp) (by intro i hi; go_simp)).mono ?_
    rintro _ w2 ⟨v1, rfl, r1, b2⟩
    have hz2 := b2.size
    simp at hz2
    have G2 := Lib.hid (((Below.refl w1.heap.size w1).alloc (Nat.le_refl _) (.cells (arrT f n n) 4)).trans (b2.mono (by simp)))
    have Y2 := Lib.hid (fun i (hi : i < n) => (b2.cell (p := ⟨w1.heap.size, i, none⟩) (by simp)).trans (show (w1.alloc (.cells (arrT f n n) 4)).cell? ⟨w1.heap.size, i, none⟩ = some (.bool (f i)) by go_simp))
    have Z2 := Lib.hid (fun i => (b2.frozen (p := ⟨w1.heap.size, i, none⟩) (by simp)).trans (show (w1.alloc (.cells (arrT f n n) 4)).frozen? ⟨w1.heap.size, i, none⟩ = false by simp))
    have R1 := Lib.hid (ownsRow_base (b' := w1.heap.size + 1) r1 (by simp))
    clear r1 b2
    go_wp2_with fail
    refine (eqO hx R1.out (ownsRow_below R0.out G2.out)).mono ?_
    rintro _ w3 ⟨n3, rfl, e3⟩
    have g3 : Below w2.heap.size w2 w3 := by rw [e3]; exact below_drewN (Below.refl _ _) _
    have hz3 := g3.size
    have R13 := Lib.hid (ownsRow_below R1.out g3)
    have G3 := Lib.hid (G2.out.trans (g3.mono G2.out.size))
    have Y3 := Lib.hid (fun i (hi : i < n) => (g3.cell (p := ⟨w1.heap.size, i, none⟩) (by show w1.heap.size < w2.heap.size; omega)).trans (Y2.out i hi))
    have Z3 := Lib.hid (fun i => (g3.frozen (p := ⟨w1.heap.size, i, none⟩) (by show w1.heap.size < w2.heap.size; omega)).trans (Z2.out i))
    clear g3 e3 R1 Y2 Z2 G2
    go_wp2_with fail
    refine (toT_any cap hn (h.below (B1.out.trans (G3.out.mono B1.out.size)))).mono ?_
    rintro _ _ ⟨rfl, rfl⟩
    go_wp2_with fail
    refine (eqT w1.heap.size 0 n w3.heap.size 0 n n f _ hn (by intro i hi; rw [Nat.zero_add, (((Below.refl w3.heap.size w3).alloc (Nat.le_refl _) (.cells (arrT f n n) 4)).cell (p := ⟨w1.heap.size, i, none⟩) (by show w1.heap.size < w3.heap.size; omega))]; exact Y3.out i hi) (by intro i hi; go_simp)).mono ?_
    rintro _ w4 ⟨n4, rfl, e4⟩
    have g4 : Below w3.heap.size w3 w4 := by rw [e4]; exact below_drewN ((Below.refl _ _).alloc (Nat.le_refl _) _) _
    have hz4 := g4.size
    have R14 := Lib.hid (ownsRow_below R13.out g4)
    have G4 := Lib.hid (G3.out.trans (g4.mono G3.out.size))
    have Y4 := Lib.hid (show YesNo w4 w1.heap.size n from ⟨by omega, fun i hi => ⟨_, (g4.cell (p := ⟨w1.heap.size, i, none⟩) (by show w1.heap.size < w3.heap.size; omega)).trans (Y3.out i hi)⟩, fun i => (g4.frozen (p := ⟨w1.heap.size, i, none⟩) (by show w1.heap.size < w3.heap.size; omega)).trans (Z3.out i)⟩)
    clear g4 e4 R13 Y3 Z3 G3
    go_wp2_with fail
    refine (markT w1.heap.size n n w4 hn Y4.out).mono ?_
    rintro _ w5 ⟨rfl, t5⟩
    have R15 := Lib.hid (ownsRow_touch R14.out t5 (by omega))
    have G5 := Lib.hid (G4.out.trans (t5.below (B := w1.heap.size) (by omega)))
    have hz5 := t5.2.2.2.1
    clear R14 t5 Y4 G4
    go_wp2_with fail
    refine (eqO hx R15.out (ownsRow_below R0.out G5.out)).mono ?_
    rintro _ w6 ⟨n6, rfl, e6⟩
    have g6 : Below w5.heap.size w5 w6 := by rw [e6]; exact below_drewN (Below.refl _ _) _
    have hz6 := g6.size
    have R16 := Lib.hid (ownsRow_below R15.out g6)
    have G6 := Lib.hid (G5.out.trans (g6.mono G5.out.size))
    clear g6 e6 R15 G5
    go_wp2_with fail
    refine (markO hx (by omega) R16.out).mono ?_
    rintro _ w7 ⟨rfl, r7, b7⟩
    have R17 := Lib.hid r7
    have G7 := Lib.hid (G6.out.trans (b7.mono (by omega)))
    have hz7 := b7.size
    clear r7 b7 R16 G6
    go_wp2_with fail
    refine (heldO hx R17.out).mono ?_
    rintro _ w8 ⟨n8, rfl, e8⟩
    have g8 : Below w7.heap.size w7 w8 := by rw [e8]; exact below_drewN (Below.refl _ _) _
    have R18 := Lib.hid (ownsRow_below R17.out g8)
    have G8 := Lib.hid (G7.out.trans (g8.mono G7.out.size))
    clear g8 e8 R17 G7
    go_wp2_with fail
    refine (toT_any cap hn (h.below (B1.out.trans (G8.out.mono B1.out.size)))).mono ?_
    rintro _ _ ⟨rfl, rfl⟩
    go_wp2_with fail
    refine (HI w8.heap.size n _ (by simp) (by intro i hi; go_simp)).mono ?_
    rintro _ w9 ⟨v2, rfl, r9, b9⟩
    have g9 : Below w8.heap.size w8 w9 := ((Below.refl w8.heap.size w8).alloc (Nat.le_refl _) (.cells (arrT f n n) 4)).trans (b9.mono (by simp))
    have R19 := Lib.hid (ownsRow_below R18.out g9)
    have G9 := Lib.hid (G8.out.trans (g9.mono G8.out.size))
    have R29 := Lib.hid r9
    clear r9 b9 g9 R18 G8
    go_wp2_with fail
    refine (eqO hx R29.out (ownsRow_below R0.out G9.out)).mono ?_
    rintro _ w10 ⟨n10, rfl, e10⟩
    have g10 : Below w9.heap.size w9 w10 := by rw [e10]; exact below_drewN (Below.refl _ _) _
    have R110 := Lib.hid (ownsRow_below R19.out g10)
    have G10 := Lib.hid (G9.out.trans (g10.mono G9.out.size))
    clear g10 e10 R19 R29 G9
    go_wp2_with fail
    refine (heldO hx R110.out).mono ?_
    rintro _ w11 ⟨n11, rfl, e11⟩
    have g11 : Below w10.heap.size w10 w11 := by rw [e11]; exact below_drewN (Below.refl _ _) _
    have G11 := Lib.hid (G10.out.trans (g11.mono G10.out.size))
    clear g11 e11 R110 G10
    go_wp2_with fail
    go_ret
    exact ⟨rfl, B1.out.trans (G11.out.mono B1.out.size)⟩
  · have hn' : decide (1048576 < ((n : Nat) : Int)) = true := by simp; omega
    go_enter Try.func10, Try.ntmps10
    go_wp2_with fail
    go_ret
    exact ⟨rfl, Below.refl _ _⟩
end Go.Proofs.Ythlijhnplalflaa
