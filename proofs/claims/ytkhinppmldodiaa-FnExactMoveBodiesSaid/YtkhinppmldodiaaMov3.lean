/-
  Lists of moved bodies, of the model. No condition.
-/
import Derived.Test.YtkhinppmldodiaaMovS
import Derived.Test.YtkhinppmldodiaaCenV
namespace Go.Proofs.Ytkhinppmldodiaa
open Go.RowKit

theorem are0' (u : Nat → Option Nat) : areB u 0 = true := by simp [areB, allB]

set_option maxHeartbeats 3200000 in
theorem specMov (b off n cap : Nat) (f : Nat → Nat) (v y s : Nat → Option Nat) {b0 b1 b2 c0 c1 c2 : Nat} (g0 : Is .f32 b0 (y 0)) (g1 : Is .f32 b1 (y 1)) (g2 : Is .f32 b2 (y 2)) (k0 : Is .f32 c0 (s 0)) (k1 : Is .f32 c1 (s 1)) (k2 : Is .f32 c2 (s 2)) (w : World) (hn : n ≤ 1048576) (hb : b < w.heap.size) (hr : ∀ i, i < 7 * n → w.cell? ⟨b, off + i, none⟩ = some (.float .f32 (f i))) (hv : ∀ i, i < 7 * n → Is .f32 (f i) (v i)) :
    Calls Try.prog 13 #[.slice (some ⟨b, off, none⟩) n cap, vecV b0 b1 b2, vecV c0 c1 c2] w (RetList (movV v y s) n (movOk v y s n) w) := by
  have HR := Lib.hid hr
  have HV := Lib.hid hv
  have HA := fun (W : World) (hB : Below w.heap.size w W) => sAre b off n cap f v W hn (Nat.lt_of_lt_of_le hb hB.size) (cellsB hB hb hr) hv
  clear hr hv
  have BS : Below w.heap.size w ((w.alloc (.cells #[.float .f32 b0, .float .f32 b1, .float .f32 b2] 33)).alloc (.cells #[.float .f32 c0, .float .f32 c1, .float .f32 c2] 33)) := ((Below.refl _ _).alloc (Nat.le_refl _) _).alloc (by simp) _
  have FA := sFinV g0 g1 g2
  have FB := sFinV k0 k1 k2
  cases ha : areB v n with
  | false =>
    rw [ha] at HA
    have ho : movOk v y s n = false := by simp [movOk, ha]
    rw [ho]
    go_enter Try.func13, Try.ntmps13
    go_wp2_with fail
    refine (HA _ BS).mono ?_
    rintro _ W1 ⟨rfl, b1⟩
    go_wp2_with fail
    go_ret2
    exact RetList.no (BS.trans (b1.mono BS.size))
  | true =>
    rw [ha] at HA
    cases hA : finV (y 0) (y 1) (y 2) with
    | false =>
      rw [hA] at FA
      have ho : movOk v y s n = false := by simp [movOk, hA]
      rw [ho]
      go_enter Try.func13, Try.ntmps13
      go_wp2_with fail
      refine (HA _ BS).mono ?_
      rintro _ W1 ⟨rfl, bl1⟩
      have B1 := BS.trans (bl1.mono BS.size)
      obtain ⟨hc, hf⟩ := bcell bl1
      have z1 := bl1.size
      simp at z1
      have zl0 : w.heap.size < W1.heap.size := by omega
      have zl1 : w.heap.size + 1 < W1.heap.size := by omega
      go_wp2_with fail
      refine (FA _).mono ?_
      rintro _ W2 ⟨rfl, bl2⟩
      go_wp2_with fail
      go_ret2
      exact RetList.no (B1.trans (bl2.1.mono B1.size))
    | true =>
      rw [hA] at FA
      cases hB : finV (s 0) (s 1) (s 2) with
      | false =>
        rw [hB] at FB
        have ho : movOk v y s n = false := by simp [movOk, hB]
        rw [ho]
        go_enter Try.func13, Try.ntmps13
        go_wp2_with fail
        refine (HA _ BS).mono ?_
        rintro _ W1 ⟨rfl, bl1⟩
        have B1 := BS.trans (bl1.mono BS.size)
        obtain ⟨hc, hf⟩ := bcell bl1
        have z1 := bl1.size
        simp at z1
        have zl0 : w.heap.size < W1.heap.size := by omega
        have zl1 : w.heap.size + 1 < W1.heap.size := by omega
        go_wp2_with fail
        refine (FA _).mono ?_
        rintro _ W2 ⟨rfl, bl2⟩
        have B2 := B1.trans (bl2.1.mono B1.size)
        obtain ⟨hc2, hf2⟩ := bcell bl2.1
        have z2 := bl2.2
        have zm0 : w.heap.size < W2.heap.size := by omega
        have zm1 : w.heap.size + 1 < W2.heap.size := by omega
        go_wp2_with fail
        refine (FB _).mono ?_
        rintro _ W3 ⟨rfl, bl3⟩
        go_wp2_with fail
        go_ret2
        exact RetList.no (B2.trans (bl3.1.mono B2.size))
      | true =>
        rw [hB] at FB
        have ho : movOk v y s n = areB (movV v y s) n := by simp [movOk, hA, hB, ha]
        rw [ho]
        go_enter Try.func13, Try.ntmps13
        go_wp2_with fail
        refine (HA _ BS).mono ?_
        rintro _ W1 ⟨rfl, bl1⟩
        have B1 := BS.trans (bl1.mono BS.size)
        obtain ⟨hc, hf⟩ := bcell bl1
        have z1 := bl1.size
        simp at z1
        have zl0 : w.heap.size < W1.heap.size := by omega
        have zl1 : w.heap.size + 1 < W1.heap.size := by omega
        go_wp2_with fail
        refine (FA _).mono ?_
        rintro _ W2 ⟨rfl, bl2⟩
        have B2 := B1.trans (bl2.1.mono B1.size)
        obtain ⟨hc2, hf2⟩ := bcell bl2.1
        have z2 := bl2.2
        have zm0 : w.heap.size < W2.heap.size := by omega
        have zm1 : w.heap.size + 1 < W2.heap.size := by omega
        go_wp2_with fail
        refine (FB _).mono ?_
        rintro _ W3 ⟨rfl, bl3⟩
        have B3 := B2.trans (bl3.1.mono B2.size)
        obtain ⟨hc3, hf3⟩ := bcell bl3.1
        have z3 := bl3.2
        go_wp2_with fail
        rcases Nat.eq_zero_or_pos n with rfl | h0
        · rw [are0']
          refine (sMove0 b off cap _).mono ?_
          rintro _ W4 ⟨⟨ga, gc, rfl⟩, bl4⟩
          have B4 := B3.trans (bl4.mono B3.size)
          clear hc hf hc2 hf2 hc3 hf3
          go_wp2_with fail
          refine (sGive0 ga gc _).mono ?_
          rintro _ _ ⟨rfl, rfl⟩
          go_wp2_with fail
          go_ret2
          exact ⟨⟨_, rfl, .inl ⟨rfl, _, _, rfl⟩⟩, B4⟩
        · refine (sMove b off n cap f v y s g0 g1 g2 k0 k1 k2 _ h0 hn (Nat.lt_of_lt_of_le hb B3.size) (cellsB B3 hb HR.out) HV.out).mono ?_
          rintro _ W4 ⟨⟨g, gc, r, rfl, hg, hoo, hii⟩, bl4⟩
          have B4 := B3.trans (bl4.mono B3.size)
          have hgg := Nat.le_trans B3.size hg
          clear hc hf hc2 hf2 hc3 hf3
          go_wp2_with fail
          refine (sGive g n gc r (movV v y s) _ hn hoo hii).mono ?_
          rintro _ W5 ⟨⟨vv, rfl, ht, hf⟩, bl5⟩
          go_wp2_with fail
          go_ret2
          refine ⟨⟨_, rfl, ?_⟩, B4.trans (bl5.mono B4.size)⟩
          cases hu : areB (movV v y s) n with
          | true => exact .inr ⟨g, gc, r, ht hu, hgg, Nat.lt_of_lt_of_le hoo.1 bl5.size, by simpa using hoo.step bl5, by rw [if_pos rfl]; exact hii⟩
          | false => exact .inl ⟨by simp, _, _, hf hu⟩
end Go.Proofs.Ytkhinppmldodiaa
