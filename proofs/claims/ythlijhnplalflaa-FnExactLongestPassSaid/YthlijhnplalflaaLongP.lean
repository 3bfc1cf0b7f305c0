/-
  The longest run of yes: for every list of yes and no the law's text returns true, and writes nothing that was there. No condition.
-/
import Derived.Test.YthlijhnplalflaaLstT
namespace Go.Proofs.Ythlijhnplalflaa
open Go.RowKit

/-- Where the longest run begins, how long it is, and how long the last one is, of the first k values. -/
def lpS (f : Nat → Bool) : Nat → Nat × Nat × Nat
  | 0 => (0, 0, 0)
  | k + 1 => if f k then (if (lpS f k).2.1 < (lpS f k).2.2 + 1 then (k - (lpS f k).2.2, (lpS f k).2.2 + 1, (lpS f k).2.2 + 1) else ((lpS f k).1, (lpS f k).2.1, (lpS f k).2.2 + 1)) else ((lpS f k).1, (lpS f k).2.1, 0)

theorem lp_le (f : Nat → Bool) : ∀ k, (lpS f k).1 ≤ k ∧ (lpS f k).2.1 ≤ k ∧ (lpS f k).2.2 ≤ k ∧ ((lpS f k).2.1 = 0 → (lpS f k).1 = 0)
  | 0 => by simp [lpS]
  | k + 1 => by
    have h := lp_le f k
    unfold lpS
    split
    · split
      · refine ⟨?_, ?_, ?_, ?_⟩ <;> simp <;> omega
      · refine ⟨?_, ?_, ?_, ?_⟩ <;> simp <;> omega
    · refine ⟨?_, ?_, ?_, ?_⟩ <;> simp <;> omega
theorem lp_more {f : Nat → Bool} {k a b r : Nat} (h : lpS f k = (a, b, r)) (hf : f k = true) (hb : b < r + 1) : lpS f (k + 1) = (k - r, r + 1, r + 1) := by
  rw [lpS, if_pos hf, h, if_pos hb]
theorem lp_same {f : Nat → Bool} {k a b r : Nat} (h : lpS f k = (a, b, r)) (hf : f k = true) (hb : ¬ b < r + 1) : lpS f (k + 1) = (a, b, r + 1) := by
  rw [lpS, if_pos hf, h, if_neg hb]
theorem lp_end {f : Nat → Bool} {k a b r : Nat} (h : lpS f k = (a, b, r)) (hf : f k = false) : lpS f (k + 1) = (a, b, 0) := by
  rw [lpS, if_neg (by rw [hf]; decide), h]

set_option maxHeartbeats 1600000 in
theorem iLong (b n cap : Nat) (f : Nat → Bool) (w : World) (hn : n ≤ 64) (hr : ∀ i, i < n → w.cell? ⟨b, i, none⟩ = some (.bool (f i))) :
    Calls Try.prog 38 #[.slice (some ⟨b, 0, none⟩) n cap] w fun e w' => e = .returned (.tuple #[.int .i64 ((lpS f n).1 : Nat), .int .i64 ((lpS f n).2.1 : Nat), .bool (decide (0 < (lpS f n).2.1))]) ∧ w' = w := by
  have hd : decide (64 < ((n : Nat) : Int)) = false := by simp; omega
  have HR := Lib.hid hr
  clear hr
  go_enter Try.func38, Try.ntmps38
  go_wp2
  go_loopw [5, 6, 7, 15] (fun o5 o6 o7 i wr => ∃ k x y r : Nat, k ≤ n ∧ lpS f k = (x, y, r) ∧ o5 = .int .i64 (x : Nat) ∧ o6 = .int .i64 (y : Nat) ∧ o7 = .int .i64 (r : Nat) ∧ i = .int .i64 (k : Nat) ∧ wr = w) (fun _ _ _ i _ => n - (intOf i).toNat)
  case atStart => exact ⟨0, 0, 0, 0, Nat.zero_le _, rfl, rfl, rfl, rfl, rfl, rfl⟩
  case round =>
    obtain ⟨k, x, y, r, hk, hlp, rfl, rfl, rfl, rfl, rfl⟩ := hrel
    have hle := lp_le f k
    rw [hlp] at hle
    obtain ⟨l1, l2, l3, l4⟩ := hle
    dsimp only at l1 l2 l3 l4
    have HL := Lib.hid hlp
    clear hlp l4
    by_cases hlt : k < n
    · have hc := HR.out k hlt
      have w1 : wrap64 ((r : Int) + 1) = ((r + 1 : Nat) : Int) := by unfold wrap64; omega
      have w2 : wrap64 ((k : Int) + 1) = ((k + 1 : Nat) : Int) := by unfold wrap64; omega
      have w3 : wrap64 (((k + 1 : Nat) : Int) - ((r + 1 : Nat) : Int)) = ((k - r : Nat) : Int) := by unfold wrap64; omega
      have w4 : wrap64 ((k : Int) + 1 - ((r : Int) + 1)) = ((k - r : Nat) : Int) := by unfold wrap64; omega
      cases hf : f k with
      | true =>
        rw [hf] at hc
        by_cases hm : y < r + 1
        · have HX := Lib.hid (lp_more HL.out hf hm)
          have hm1 : (y : Int) < (r : Int) + 1 := by omega
          clear hf
          go_wp2
          go_roundw
          case rel => exact ⟨k + 1, _, _, _, by omega, HX.out, by go_num, by go_num, by go_num, by go_num, trivial⟩
          case measure => simp [intOf]; omega
        · have HX := Lib.hid (lp_same HL.out hf hm)
          have hm1 : ¬ (y : Int) < (r : Int) + 1 := by omega
          clear hf
          go_wp2
          go_roundw
          case rel => exact ⟨k + 1, _, _, _, by omega, HX.out, by go_num, by go_num, by go_num, by go_num, trivial⟩
          case measure => simp [intOf]; omega
      | false =>
        rw [hf] at hc
        have HX := Lib.hid (lp_end HL.out hf)
        clear hf
        go_wp2
        go_roundw
        case rel => exact ⟨k + 1, _, _, _, by omega, HX.out, by go_num, by go_num, by go_num, by go_num, trivial⟩
        case measure => simp [intOf]; omega
    · have hkn : Hid (lpS f n = (x, y, r)) := (show lpS f n = (x, y, r) by rw [show n = k by omega]; exact HL.out)
      go_wp2
      go_ret3
      exact ⟨by rw [hkn.out]; simp, rfl⟩

set_option maxHeartbeats 1600000 in
theorem sLong (b n cap : Nat) (f : Nat → Bool) (w : World) (hn : n ≤ 64) (hr : ∀ i, i < n → w.cell? ⟨b, i, none⟩ = some (.bool (f i))) :
    Calls Try.prog 37 #[.slice (some ⟨b, 0, none⟩) n cap] w fun e w' => e = .returned (.tuple #[.int .i64 ((lpS f n).1 : Nat), .int .i64 ((lpS f n).2.1 : Nat), .bool (decide (0 < (lpS f n).2.1))]) ∧ w' = w := by
  have hd : decide (64 < ((n : Nat) : Int)) = false := by simp; omega
  have HR := Lib.hid hr
  clear hr
  go_enter Try.func37, Try.ntmps37
  go_wp2
  go_loopw [5, 6, 7, 8] (fun o5 o6 o7 i wr => ∃ k x y r : Nat, k ≤ n ∧ lpS f k = (x, y, r) ∧ o5 = .int .i64 (x : Nat) ∧ o6 = .int .i64 (y : Nat) ∧ o7 = .int .i64 ((k - r : Nat) : Nat) ∧ i = .int .i64 (k : Nat) ∧ wr = w) (fun _ _ _ i _ => n - (intOf i).toNat)
  case atStart => exact ⟨0, 0, 0, 0, Nat.zero_le _, rfl, rfl, rfl, rfl, rfl, rfl⟩
  case round =>
    obtain ⟨k, x, y, r, hk, hlp, rfl, rfl, rfl, rfl, rfl⟩ := hrel
    have hle := lp_le f k
    rw [hlp] at hle
    obtain ⟨l1, l2, l3, l4⟩ := hle
    dsimp only at l1 l2 l3 l4
    have HL := Lib.hid hlp
    clear hlp
    by_cases hlt : k < n
    · have hc := HR.out k hlt
      obtain ⟨q, hq⟩ : ∃ q, q = k - r := ⟨_, rfl⟩
      rw [← hq]
      have w2 : wrap64 ((k : Int) + 1) = ((k + 1 : Nat) : Int) := by unfold wrap64; omega
      have w3 : wrap64 (((k + 1 : Nat) : Int) - ((q : Nat) : Int)) = ((r + 1 : Nat) : Int) := by unfold wrap64; omega
      have w4 : wrap64 ((k : Int) + 1 - (q : Int)) = ((r + 1 : Nat) : Int) := by unfold wrap64; omega
      have HQ := Lib.hid hq
      clear hq l4
      cases hf : f k with
      | true =>
        rw [hf] at hc
        by_cases hm : y < r + 1
        · have HX := Lib.hid (lp_more HL.out hf hm)
          have hm1 : (y : Int) < (r : Int) + 1 := by omega
          clear hf
          go_wp2
          go_roundw
          case rel => exact ⟨k + 1, _, _, _, by omega, HX.out, by rw [HQ.out], by go_num, by rw [HQ.out]; congr 2; omega, by go_num, trivial⟩
          case measure => simp [intOf]; omega
        · have HX := Lib.hid (lp_same HL.out hf hm)
          have hm1 : ¬ (y : Int) < (r : Int) + 1 := by omega
          clear hf
          go_wp2
          go_roundw
          case rel => exact ⟨k + 1, _, _, _, by omega, HX.out, by go_num, by go_num, by rw [HQ.out]; congr 2; omega, by go_num, trivial⟩
          case measure => simp [intOf]; omega
      | false =>
        rw [hf] at hc
        have HX := Lib.hid (lp_end HL.out hf)
        clear hf
        go_wp2
        go_roundw
        case rel => exact ⟨k + 1, _, _, _, by omega, HX.out, by go_num, by go_num, by go_num, by go_num, trivial⟩
        case measure => simp [intOf]; omega
    · have hkn : Hid (lpS f n = (x, y, r)) := (show lpS f n = (x, y, r) by rw [show n = k by omega]; exact HL.out)
      by_cases h0 : y = 0
      · obtain rfl := l4 h0
        subst h0
        go_wp2
        go_ret3
        exact ⟨by rw [hkn.out]; simp, rfl⟩
      · have h1 : ¬ (y : Int) = 0 := by omega
        have h2 : 0 < y := by omega
        clear l4
        go_wp2
        go_ret3
        exact ⟨by rw [hkn.out]; simp [h2], rfl⟩

theorem iLong_out (a : Option Addr) (n cap : Nat) (w : World) (hn : ¬ n ≤ 64) :
    Calls Try.prog 38 #[.slice a n cap] w fun e w' => e = .returned (.tuple #[.int .i64 0, .int .i64 0, .bool false]) ∧ w' = w := by
  have hd : decide (64 < ((n : Nat) : Int)) = true := by simp; omega
  go_enter Try.func38, Try.ntmps38
  go_wp2
  go_ret3
  exact ⟨rfl, rfl⟩
theorem sLong_out (a : Option Addr) (n cap : Nat) (w : World) (hn : ¬ n ≤ 64) :
    Calls Try.prog 37 #[.slice a n cap] w fun e w' => e = .returned (.tuple #[.int .i64 0, .int .i64 0, .bool false]) ∧ w' = w := by
  have hd : decide (64 < ((n : Nat) : Int)) = true := by simp; omega
  go_enter Try.func37, Try.ntmps37
  go_wp2
  go_ret3
  exact ⟨rfl, rfl⟩

theorem both_long (n cap : Nat) (f : Nat → Bool) : ∃ (x y : Int) (ok : Bool), (∀ (b : Nat) (w : World), (∀ i, i < n → w.cell? ⟨b, i, none⟩ = some (.bool (f i))) → Calls Try.prog 38 #[.slice (some ⟨b, 0, none⟩) n cap] w fun e w' => e = .returned (.tuple #[.int .i64 x, .int .i64 y, .bool ok]) ∧ w' = w) ∧
    ∀ (b : Nat) (w : World), (∀ i, i < n → w.cell? ⟨b, i, none⟩ = some (.bool (f i))) → Calls Try.prog 37 #[.slice (some ⟨b, 0, none⟩) n cap] w fun e w' => e = .returned (.tuple #[.int .i64 x, .int .i64 y, .bool ok]) ∧ w' = w := by
  by_cases hn : n ≤ 64
  · exact ⟨_, _, _, fun b w hr => iLong b n cap f w hn hr, fun b w hr => sLong b n cap f w hn hr⟩
  · exact ⟨_, _, _, fun b w _ => iLong_out _ n cap w hn, fun b w _ => sLong_out _ n cap w hn⟩

set_option maxHeartbeats 3200000 in
theorem walk_FnExactLongestPass (a : Option Addr) (n cap : Nat) (f : Nat → Bool) (w : World) (h : RowT w a n f) :
    Calls Try.prog 11 #[.slice a n cap] w fun e w' => e = .returned (.bool true) ∧ Below w.heap.size w w' := by
  by_cases hn : n ≤ 1048576
  · have hn' : decide (1048576 < ((n : Nat) : Int)) = false := by simp; omega
    obtain ⟨x, y, ok, HI, HS⟩ := both_long n n f
    have hrow := arrT_row f n
    go_enter Try.func11, Try.ntmps11
    go_wp2_with fail
    refine (toT_any cap hn h).mono ?_
    rintro _ _ ⟨rfl, rfl⟩
    go_wp2_with fail
    refine (HS w.heap.size _ (by intro i hi; go_simp)).mono ?_
    rintro _ _ ⟨rfl, rfl⟩
    go_wp2_with fail
    refine (toT_any cap hn (h.below ((Below.refl w.heap.size w).alloc (Nat.le_refl _) (.cells (arrT f n n) 4)))).mono ?_
    rintro _ _ ⟨rfl, rfl⟩
    go_wp2_with fail
    refine (HI (w.heap.size + 1) _ (by intro i hi; go_simp)).mono ?_
    rintro _ _ ⟨rfl, rfl⟩
    go_wp2_with fail
    refine (toT_any cap hn (h.below (((Below.refl w.heap.size w).alloc (Nat.le_refl _) (.cells (arrT f n n) 4)).alloc (by simp) (.cells (arrT f n n) 4)))).mono ?_
    rintro _ _ ⟨rfl, rfl⟩
    go_wp2_with fail
    refine (eqT (w.heap.size + 1) 0 n (w.heap.size + 2) 0 n n f _ hn (by intro i hi; go_simp) (by intro i hi; go_simp)).mono ?_
    rintro _ _ ⟨n4, rfl, rfl⟩
    go_wp2_with fail
    go_ret
    refine ⟨rfl, ?_⟩
    repeat' (first | with_reducible exact Below.refl _ _ | with_reducible assumption | (with_reducible refine Below.setCell ?_ (by first | omega | (simp; done) | (simp; omega)) _) | (with_reducible refine Below.alloc ?_ (by first | omega | (simp; done) | (simp; omega)) _) | (with_reducible refine below_drewN ?_ _) | (with_reducible refine Below.drew ?_) | (with_reducible refine Below.trans ?_ (Below.mono (by first | (with_reducible assumption) | exact Grow.below (by assumption)) (by first | omega | (simp; done) | (simp; omega)))))
  · have hn' : decide (1048576 < ((n : Nat) : Int)) = true := by simp; omega
    go_enter Try.func11, Try.ntmps11
    go_wp2_with fail
    go_ret
    exact ⟨rfl, Below.refl _ _⟩
end Go.Proofs.Ythlijhnplalflaa
