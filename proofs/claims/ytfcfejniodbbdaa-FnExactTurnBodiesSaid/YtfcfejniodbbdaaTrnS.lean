/-
  Turned bodies, of the model. No condition.
-/
import Derived.Test.YtfcfejniodbbdaaTrn2
import Derived.Test.YtfcfejniodbbdaaSet3
namespace Go.Proofs.Ytfcfejniodbbdaa
open Go.RowKit

/-- What is turned of some first numbers. -/
def trnP (v : Nat → Option Nat) (c s : Option Nat) (m : Nat) (i : Nat) : Option Nat := if i < m then trnV v c s i else v i
theorem trnP_t {v : Nat → Option Nat} {c s : Option Nat} {m i : Nat} (h : i < m) : trnP v c s m i = trnV v c s i := if_pos h
theorem trnP_f {v : Nat → Option Nat} {c s : Option Nat} {m i : Nat} (h : ¬ i < m) : trnP v c s m i = v i := if_neg h
theorem trnP_step {v : Nat → Option Nat} {c s : Option Nat} {m p : Nat} (h : p = m + 3) {i : Nat} (hi : i < m ∨ m + 3 ≤ i) : trnP v c s p i = trnP v c s m i := by
  subst h
  rcases hi with hi | hi
  · rw [trnP_t hi, trnP_t (by omega)]
  · rw [trnP_f (by omega), trnP_f (by omega)]
theorem trnP_seven {v : Nat → Option Nat} {c s : Option Nat} {k : Nat} (i : Nat) : trnP v c s (7 * k + 6) i = trnP v c s (7 * (k + 1)) i := by
  by_cases h : i < 7 * k + 6
  · rw [trnP_t h, trnP_t (by omega)]
  · by_cases h2 : i = 7 * k + 6
    · subst h2; rw [trnP_f (by omega), trnP_t (by omega), trnV_6]
    · rw [trnP_f h, trnP_f (by omega)]

set_option maxHeartbeats 6400000 in
theorem specTrn (b off n cap : Nat) (f : Nat → Nat) (v : Nat → Option Nat) {t : Nat} {y : Option Nat} (it : Is .f32 t y) (w : World) (hn : n ≤ 1048576) (hb : b < w.heap.size) (hr : ∀ i, i < 7 * n → w.cell? ⟨b, off + i, none⟩ = some (.float .f32 (f i))) (hv : ∀ i, i < 7 * n → Is .f32 (f i) (v i)) :
    Calls Try.prog 5 #[.slice (some ⟨b, off, none⟩) n cap, .float .f32 t] w (RetList (tunV v y) n (tunOk v y n) w) := by
  have hst := run_store_float Try.prog
  have HR := Lib.hid hr
  have HV := Lib.hid hv
  have HA := sAre b off n cap f v w hn hb hr hv
  have FA := finite_any it
  clear hr hv
  cases ha : areB v n with
  | false =>
    rw [ha] at HA
    have ho : tunOk v y n = false := by simp [tunOk, ha]
    rw [ho]
    go_enter Try.func5, Try.ntmps5
    go_wp2_with (go_at_call 11; refine (HA).mono ?_; rintro _ W1 ⟨rfl, b1⟩)
    go_ret2
    exact RetList.no b1
  | true =>
    rw [ha] at HA
    cases hA : finS y with
    | false =>
      rw [hA] at FA
      have ho : tunOk v y n = false := by simp [tunOk, hA]
      rw [ho]
      go_enter Try.func5, Try.ntmps5
      go_wp2_with (first | (go_at_call 11; refine (HA).mono ?_; rintro _ W1 ⟨rfl, b1⟩) | (go_at_call 12; refine (FA _).mono ?_; rintro eq wq ⟨nq, rfl, rfl⟩))
      go_ret2
      exact RetList.no (below_drewN b1 _)
    | true =>
      rw [hA] at FA
      have ho : tunOk v y n = areB (tunV v y) n := by simp [tunOk, hA, ha]
      rw [ho]
      rcases Nat.eq_zero_or_pos n with rfl | h0
      · go_enter Try.func5, Try.ntmps5
        go_wp2_with (first | (go_at_call 11; refine (HA).mono ?_; rintro _ W1 ⟨rfl, b1⟩) | (go_at_call 12; refine (FA _).mono ?_; rintro eq wq ⟨nq, rfl, rfl⟩) | (apply wpList_arith; rfl; simp [Arith]; rfl; rfl; (first | assumption | exact is_lit64 _ (by decide) | exact is_lit32 _ (by decide)); (first | assumption | exact is_lit64 _ (by decide) | exact is_lit32 _ (by decide)); intro Kq hKq rq nq hq; go_simp) | (go_at_call 13; refine (sSinT (by assumption) _).mono ?_; rintro eq wq ⟨rq, nq, rfl, hq, rfl⟩) | (go_at_call 14; refine (sOwn0 b off cap _).mono ?_; rintro _ W2 ⟨⟨a2, c2, rfl⟩, b2⟩))
        have BW : Below w.heap.size w W2 := (below_drewN b1 _).trans (b2.mono (below_drewN b1 _).size)
        go_loopw [9] (fun i wr => i = .int .i64 0 ∧ wr = W2) (fun i _ => 0)
        case atStart => exact ⟨rfl, rfl⟩
        case round =>
          obtain ⟨rfl, rfl⟩ := hrel
          go_wp2_with (go_at_call 16; refine (sGive0 a2 c2 _).mono ?_; rintro _ _ ⟨rfl, rfl⟩)
          go_ret2
          rw [show areB (tunV v y) 0 = true by simp [areB, allB]]
          exact ⟨⟨_, rfl, .inl ⟨rfl, _, _, rfl⟩⟩, BW⟩
      · go_enter Try.func5, Try.ntmps5
        go_wp2_with (first | (go_at_call 11; refine (HA).mono ?_; rintro _ W1 ⟨rfl, b1⟩) | (go_at_call 12; refine (FA _).mono ?_; rintro eq wq ⟨nq, rfl, rfl⟩) | (apply wpList_arith; rfl; simp [Arith]; rfl; rfl; (first | assumption | exact is_lit64 _ (by decide) | exact is_lit32 _ (by decide)); (first | assumption | exact is_lit64 _ (by decide) | exact is_lit32 _ (by decide)); intro Kq hKq rq nq hq; go_simp) | (go_at_call 13; refine (sSinT (by assumption) _).mono ?_; rintro eq wq ⟨rq, nq, rfl, hq, rfl⟩))
        rename_i nA rA nB hA' rc nc hc K1 a1 K2 a2
        have gc : Is .f32 rc (cosT y) := hc
        have gs : Is .f32 rq (sinT y) := hq
        refine (sOwn b off n cap f _ h0 hn (Nat.lt_of_lt_of_le hb (below_drewN b1 _).size) (fun i hi => ((below_drewN b1 _).cell (p := ⟨b, off + i, none⟩) hb).trans (HR.out i hi))).mono ?_
        rintro _ W2 ⟨⟨g, q, rfl, hg, ho'⟩, bl2⟩
        have BW : Below w.heap.size w W2 := (below_drewN b1 _).trans (bl2.mono (below_drewN b1 _).size)
        have hgw : w.heap.size ≤ g := Nat.le_trans (below_drewN b1 _).size hg
        clear hg bl2 b1
        clear hc hq hA'
        generalize hC : cosT y = C at gc
        generalize hS : sinT y = S at gs
        have hT : tunV v y = trnV v C S := by unfold tunV; rw [hC, hS]
        go_wp2_with fail
        go_loopw [9] (fun i wr => ∃ (k : Nat) (r : Nat → Nat), k ≤ n ∧ i = .int .i64 k ∧ Own wr g (7 * n) (wordV r) ∧ (∀ i, i < 7 * n → Is .f32 (r i) (trnP v C S (7 * k) i)) ∧ Below w.heap.size w wr) (fun i _ => n - (intOf i).toNat)
        case atStart => exact ⟨0, f, Nat.zero_le _, rfl, ho', fun i hi => by rw [trnP_f (by omega)]; exact HV.out i hi, BW⟩
        case round =>
          obtain ⟨k, r, hk, rfl, ho, hi, hbel⟩ := hrel
          have HO := Lib.hid ho
          have HI := Lib.hid hi
          by_cases hlt : k < n
          · obtain ⟨p0, p1, p2, p3, p4, p5, p6⟩ := own7 ho hlt
            have fz : ∀ o, wr.frozen? ⟨g, o, none⟩ = false := ho.2.2
            have hgl := ho.1
            have i0 : Is .f32 (r (7 * k)) (v (7 * k)) := by have := hi (7 * k) (by omega); rw [trnP_f (by omega)] at this; exact this
            have i1 : Is .f32 (r (7 * k + 1)) (v (7 * k + 1)) := by have := hi (7 * k + 1) (by omega); rw [trnP_f (by omega)] at this; exact this
            have i2 : Is .f32 (r (7 * k + 2)) (v (7 * k + 2)) := by have := hi (7 * k + 2) (by omega); rw [trnP_f (by omega)] at this; exact this
            have i3 : Is .f32 (r (7 * k + 3)) (v (7 * k + 3)) := by have := hi (7 * k + 3) (by omega); rw [trnP_f (by omega)] at this; exact this
            have i4 : Is .f32 (r (7 * k + 4)) (v (7 * k + 4)) := by have := hi (7 * k + 4) (by omega); rw [trnP_f (by omega)] at this; exact this
            have i5 : Is .f32 (r (7 * k + 5)) (v (7 * k + 5)) := by have := hi (7 * k + 5) (by omega); rw [trnP_f (by omega)] at this; exact this
            clear ho hi
            go_wp2_with fail
            refine (sTv i0 i1 i2 gc gs _).mono ?_
            rintro _ wq ⟨rq0, rq1, rq2, rfl, hq0, hq1, hq2, hbq⟩
            have hz := hbq.1.size
            have O1 : Own wq g (7 * n) (wordV r) := HO.out.step hbq.1
            have tf : ∀ o, wq.frozen? ⟨g, o, none⟩ = false := O1.2.2
            obtain ⟨t0, t1, t2, -, -, -, -⟩ := own7 O1 hlt
            have O3 := own3 O1 (7 * k) (by omega) rq0 rq1 rq2 (p0 := k * 7) (p1 := k * 7 + 1) (p2 := k * 7 + 2) (by omega) (by omega) (by omega)
            have I3 : ∀ i, i < 7 * n → Is .f32 (put3 r (7 * k) rq0 rq1 rq2 i) (trnP v C S (7 * k + 3) i) := is_put3 HI.out (by rw [trnP_t (by omega), trnV_0]; exact hq0) (by rw [trnP_t (by omega), trnV_1]; exact hq1) (by rw [trnP_t (by omega), trnV_2]; exact hq2) (fun i _ hi => trnP_step rfl hi)
            have B1 : Below w.heap.size w wq := hbel.trans (hbq.1.mono hbel.size)
            have B3 : Below w.heap.size w (((wq.setCell ⟨g, k * 7, none⟩ (.float .f32 rq0)).setCell ⟨g, k * 7 + 1, none⟩ (.float .f32 rq1)).setCell ⟨g, k * 7 + 2, none⟩ (.float .f32 rq2)) := ((B1.setCell hgw _).setCell hgw _).setCell hgw _
            obtain ⟨s0, s1, s2, s3, s4, s5, s6⟩ := own7 O3 hlt
            have F3 := O3.2.2
            have j3 : Is .f32 (put3 r (7 * k) rq0 rq1 rq2 (7 * k + 3)) (v (7 * k + 3)) := by have := I3 (7 * k + 3) (by omega); rw [trnP_f (by omega)] at this; exact this
            have j4 : Is .f32 (put3 r (7 * k) rq0 rq1 rq2 (7 * k + 4)) (v (7 * k + 4)) := by have := I3 (7 * k + 4) (by omega); rw [trnP_f (by omega)] at this; exact this
            have j5 : Is .f32 (put3 r (7 * k) rq0 rq1 rq2 (7 * k + 5)) (v (7 * k + 5)) := by have := I3 (7 * k + 5) (by omega); rw [trnP_f (by omega)] at this; exact this
            generalize hR : put3 r (7 * k) rq0 rq1 rq2 = r2 at O3 I3 s0 s1 s2 s3 s4 s5 s6 j3 j4 j5
            have HO3 := Lib.hid O3
            have HI3 := Lib.hid I3
            clear O3 I3 O1 p0 p1 p2 p3 p4 p5 p6 i0 i1 i2 i3 i4 i5 fz s0 s1 s2 s6
            go_wp2_with fail
            refine (sTv j3 j4 j5 gc gs _).mono ?_
            rintro _ wx ⟨xq0, xq1, xq2, rfl, hx0, hx1, hx2, hbx⟩
            have O4 := HO3.out.step hbx.1
            have B4 := B3.trans (hbx.1.mono B3.size)
            have tf4 : ∀ o, wx.frozen? ⟨g, o, none⟩ = false := O4.2.2
            obtain ⟨-, -, -, u3, u4, u5, -⟩ := own7 O4 hlt
            have HO4 := Lib.hid O4
            clear O4 t0 t1 t2 tf s3 s4 s5 F3
            go_wp2_with fail
            go_roundw
            case rel =>
              refine ⟨k + 1, put3 r2 (7 * k + 3) xq0 xq1 xq2, by omega, by go_num, own3 HO4.out (7 * k + 3) (by omega) xq0 xq1 xq2 (by omega) (by omega) (by omega), ?_, ((B4.setCell hgw _).setCell hgw _).setCell hgw _⟩
              intro i hi
              rw [← trnP_seven]
              exact is_put3 (u' := trnP v C S (7 * k + 6)) HI3.out (by rw [trnP_t (by omega), trnV_3]; exact hx0) (by rw [trnP_t (by omega), show 7 * k + 3 + 1 = 7 * k + 4 from rfl, trnV_4]; exact hx1) (by rw [trnP_t (by omega), show 7 * k + 3 + 2 = 7 * k + 5 from rfl, trnV_5]; exact hx2) (fun i _ hi => trnP_step rfl hi) i hi
            case measure => simp [intOf]; omega
          · have hkn : Hid (k = n) := (show k = n by omega)
            clear ho hi
            have HU : ∀ i, i < 7 * n → Is .f32 (r i) (tunV v y i) := fun i hi => by rw [hT]; have := HI.out i hi; rw [trnP_t (by rw [hkn.out]; exact hi)] at this; exact this
            clear hT
            go_wp2_with fail
            refine (sGive g n _ r (tunV v y) _ hn HO.out HU).mono ?_
            rintro _ W5 ⟨⟨vv, rfl, ht, hf⟩, bl5⟩
            go_wp2_with fail
            refine bodyPost_ret (v := .tuple #[vv, .bool (areB (tunV v y) n)]) (by simp [results, Try.results5, go_sem]) rfl ⟨⟨_, rfl, ?_⟩, hbel.trans (bl5.mono hbel.size)⟩
            cases hu : areB (tunV v y) n with
            | true => exact .inr ⟨g, _, r, ht hu, hgw, Nat.lt_of_lt_of_le HO.out.1 bl5.size, by simpa using HO.out.step bl5, by rw [if_pos rfl]; exact HU⟩
            | false => exact .inl ⟨by simp, _, _, hf hu⟩
end Go.Proofs.Ytfcfejniodbbdaa
