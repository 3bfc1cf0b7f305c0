/-
  Mirrored bodies, of the model. No condition.
-/
import Derived.Test.YtfojkanfffdokaaMir
import Derived.Test.YtfojkanfffdokaaOwnC
namespace Go.Proofs.Ytfojkanfffdokaa
open Go.RowKit

set_option maxHeartbeats 1600000 in
theorem specMir (b off n cap : Nat) (f : Nat → Nat) (v : Nat → Option Nat) (w : World) (hn : n ≤ 1048576) (hb : b < w.heap.size) (hr : ∀ i, i < 7 * n → w.cell? ⟨b, off + i, none⟩ = some (.float .f32 (f i))) (hv : ∀ i, i < 7 * n → Is .f32 (f i) (v i)) :
    Calls Try.prog 14 #[.slice (some ⟨b, off, none⟩) n cap] w (RetList (mirV v) n (areB v n) w) := by
  have hst := run_store_float Try.prog
  have HA := sAre b off n cap f v w hn hb hr hv
  have HR := Lib.hid hr
  have HV := Lib.hid hv
  clear hr hv
  cases ha : areB v n with
  | false =>
    rw [ha] at HA
    go_enter Try.func14, Try.ntmps14
    go_wp2_with (go_at_call 21; refine (HA).mono ?_; rintro _ W1 ⟨rfl, b1⟩)
    go_ret2
    exact RetList.no b1
  | true =>
    rw [ha] at HA
    rcases Nat.eq_zero_or_pos n with rfl | h0
    · go_enter Try.func14, Try.ntmps14
      go_wp2_with (first | (go_at_call 21; refine (HA).mono ?_; rintro _ W1 ⟨rfl, b1⟩) | (go_at_call 22; refine (sOwn0 b off cap _).mono ?_; rintro _ W2 ⟨⟨a2, c2, rfl⟩, b2⟩))
      go_loopw [5] (fun i wr => i = .int .i64 0 ∧ wr = W2) (fun i _ => 0)
      case atStart => exact ⟨rfl, rfl⟩
      case round =>
        obtain ⟨rfl, rfl⟩ := hrel
        go_wp2
        go_ret2
        exact ⟨⟨_, rfl, .inl ⟨rfl, _, _, rfl⟩⟩, bt b1 b2⟩
    · go_enter Try.func14, Try.ntmps14
      go_wp2_with (first | (go_at_call 21; refine (HA).mono ?_; rintro _ W1 ⟨rfl, b1⟩) | (go_at_call 22; refine (sOwn b off n cap f _ h0 hn (Nat.lt_of_lt_of_le hb b1.size) (fun i hi => (b1.cell (p := ⟨b, off + i, none⟩) hb).trans (HR.out i hi))).mono ?_; rintro _ W2 ⟨⟨g, c, rfl, hg, ho⟩, b2⟩))
      go_loopw [5] (fun i wr => ∃ (k : Nat) (r : Nat → Nat), k ≤ n ∧ i = .int .i64 k ∧ Own wr g (7 * n) (wordV r) ∧ (∀ i, i < 7 * n → Is .f32 (r i) (if i < 7 * k then mirV v i else v i)) ∧ Below w.heap.size w wr) (fun i _ => n - (intOf i).toNat)
      case atStart => exact ⟨0, f, Nat.zero_le _, rfl, ho, fun i hi => by rw [if_neg (by omega)]; exact HV.out i hi, bt b1 b2⟩
      case round =>
        obtain ⟨k, r, hk, rfl, ho, hi, hbel⟩ := hrel
        have HO := Lib.hid ho
        have HI := Lib.hid hi
        have hgw : w.heap.size ≤ g := Nat.le_trans b1.size hg
        by_cases hlt : k < n
        · obtain ⟨c0, c1, c2, c3, c4, c5, c6⟩ := own7 ho hlt
          have fz : ∀ o, wr.frozen? ⟨g, o, none⟩ = false := ho.2.2
          have hgl := ho.1
          have i2 : Is .f32 (r (7 * k + 2)) (v (7 * k + 2)) := by have := hi (7 * k + 2) (by omega); rw [if_neg (by omega)] at this; exact this
          have i5 : Is .f32 (r (7 * k + 5)) (v (7 * k + 5)) := by have := hi (7 * k + 5) (by omega); rw [if_neg (by omega)] at this; exact this
          clear ho hi
          have hst := run_store_float Try.prog
          go_wp2_with (apply wpList_neg; rfl; rfl; (first | assumption | exact is_lit64 _ (by decide) | exact is_lit32 _ (by decide)); intro Kq hKq rq hq; go_simp)
          rename_i rq0 hq0
          go_roundw
          case rel =>
            refine ⟨k + 1, fun j => if j = 7 * k + 2 then rq0 else if j = 7 * k + 5 then rq else r j, by omega, by go_num, ?_, ?_, ?_⟩
            · refine ((HO.out.set (i := k * 7 + 2) (by omega) _).set (i := k * 7 + 3 + 2) (by omega) _).congr fun j hj => ?_
              by_cases e3 : j = 7 * k + 2
              · subst e3
                rw [if_neg (by omega), if_pos (by omega)]
                simp
              · by_cases e5 : j = 7 * k + 5
                · subst e5
                  rw [if_pos (by omega)]
                  simp
                · rw [if_neg (by omega), if_neg (by omega)]
                  simp [e3, e5]
            · intro i hi
              by_cases e3 : i = 7 * k + 2
              · subst e3; rw [if_pos (by omega), mirV_2]; simpa using hq0
              · by_cases e5 : i = 7 * k + 5
                · subst e5; rw [if_pos (by omega), mirV_5]; simpa using hq
                · simp only [e3, e5, if_false]
                  have h := HI.out i hi
                  by_cases hl : i < 7 * k
                  · rw [if_pos hl] at h; rw [if_pos (by omega)]; exact h
                  · rw [if_neg hl] at h
                    by_cases hl2 : i < 7 * (k + 1)
                    · rw [if_pos hl2]
                      have hc : mirV v i = v i := by unfold mirV; rw [if_neg (by omega)]
                      rw [hc]; exact h
                    · rw [if_neg hl2]; exact h
            · exact (hbel.setCell (by simpa using hgw) _).setCell (by simpa using hgw) _
          case measure => simp [intOf]; omega
        · have hkn : Hid (k = n) := (show k = n by omega)
          clear ho hi
          go_wp2
          go_ret2
          exact ⟨⟨_, rfl, .inr ⟨g, c, r, rfl, hgw, HO.out.1, HO.out, fun i hi => by have := HI.out i hi; rw [if_pos (by rw [hkn.out]; exact hi)] at this; exact this⟩⟩, hbel⟩
end Go.Proofs.Ytfojkanfffdokaa
