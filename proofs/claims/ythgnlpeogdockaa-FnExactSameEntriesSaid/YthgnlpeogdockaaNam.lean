/-
  Whether a text is the name of an entry, of the program and of the model. No condition.
-/
import Derived.Test.YthgnlpeogdockaaBase
import Derived.Lib.Hide
namespace Go.Proofs.Ythgnlpeogdockaa
open Go.RowKit

theorem take_snoc (s : ByteArray) (k : Nat) (h : k < s.size) : s.data.toList.take (k + 1) = s.data.toList.take k ++ [s[k]] := by
  rw [List.take_succ_eq_append_getElem (by simpa using h)]; rfl

def lowB (c : UInt8) : Bool := decide (97 ≤ (c.toNat : Int)) && decide ((c.toNat : Int) ≤ 122)
def nameB (s : ByteArray) : Bool := s.data.toList.all lowB && (decide (1 ≤ s.size) && decide (s.size ≤ 8))

theorem low_of {c : UInt8} (h1 : ¬ (c.toNat : Int) < 97) (h2 : ¬ (122 < (c.toNat : Int))) : lowB c = true := by
  simp only [lowB, Bool.and_eq_true, decide_eq_true_eq]; omega
theorem name_bad (s : ByteArray) (k : Nat) (hk : k < s.size) (h : lowB s[k] = false) : nameB s = false := by
  unfold nameB
  have : s.data.toList.all lowB = false := by
    rw [List.all_eq_false]
    refine ⟨s[k], ?_, by simp [h]⟩
    show s.data[k] ∈ _
    simp
  rw [this]; rfl
theorem bad_low {c : UInt8} (h1 : (c.toNat : Int) < 97) : lowB c = false := by
  simp only [lowB, Bool.and_eq_false_iff, decide_eq_false_iff_not]; left; omega
theorem bad_high {c : UInt8} (h1 : 122 < (c.toNat : Int)) : lowB c = false := by
  simp only [lowB, Bool.and_eq_false_iff, decide_eq_false_iff_not]; right; omega

set_option maxHeartbeats 800000 in
theorem specName (s : ByteArray) (w : World) (hs : s.size ≤ maxLen) : Calls Try.prog 65 #[.string s] w (RetV (.bool (nameB s)) w) := by
  unfold maxLen at hs
  go_enter Try.func65, Try.ntmps65
  go_wp2
  go_loop [3] (fun i => ∃ k : Nat, k ≤ s.size ∧ i = .int .i64 k ∧ (s.data.toList.take k).all lowB = true) (fun i => s.size - (intOf i).toNat)
  case atStart => exact ⟨0, Nat.zero_le _, rfl, rfl⟩
  case round =>
    obtain ⟨k, hk, rfl, hr⟩ := hrel
    have HR := Lib.hid hr
    clear hr
    by_cases hlt : k < s.size
    · by_cases h1 : (s[k].toNat : Int) < 97
      · have HB := Lib.hid (name_bad s k hlt (bad_low h1))
        go_wp2
        go_ret
        exact RetV.eq 0 (by rw [HB.out]; rfl)
      · by_cases h2 : 122 < (s[k].toNat : Int)
        · have HB := Lib.hid (name_bad s k hlt (bad_high h2))
          go_wp2
          go_ret
          exact RetV.eq 0 (by rw [HB.out]; rfl)
        · have HB := Lib.hid (low_of h1 h2)
          have HT := Lib.hid (take_snoc s k hlt)
          go_wp2
          go_round
          case rel => exact ⟨k + 1, by omega, by go_num, by rw [HT.out, List.all_append, HR.out]; simp [HB.out]⟩
          case measure => simp [intOf]; omega
    · have HA : Hid (s.data.toList.all lowB = true) := Lib.hid (by have := HR.out; rwa [List.take_of_length_le (by simp; omega)] at this)
      by_cases c1 : 1 ≤ s.size
      · by_cases c2 : s.size ≤ 8
        · have HN := Lib.hid (show nameB s = true by unfold nameB; rw [HA.out]; simp [c1, c2])
          go_wp2
          go_ret
          exact RetV.eq 0 (by rw [HN.out]; first | rfl | (simp; done) | (simp; omega))
        · have HN := Lib.hid (show nameB s = false by unfold nameB; rw [HA.out]; simp [c2])
          go_wp2
          go_ret
          exact RetV.eq 0 (by rw [HN.out]; first | rfl | (simp; done) | (simp; omega))
      · have HN := Lib.hid (show nameB s = false by unfold nameB; rw [HA.out]; simp [c1])
        go_wp2
        go_ret
        exact RetV.eq 0 (by rw [HN.out]; first | rfl | (simp; done) | (simp; omega))

set_option maxHeartbeats 800000 in
theorem implName (s : ByteArray) (w : World) (hs : s.size ≤ maxLen) : Calls Try.prog 44 #[.string s] w (RetV (.bool (nameB s)) w) := by
  unfold maxLen at hs
  by_cases c1 : s.size < 1
  · have HN := Lib.hid (show nameB s = false by unfold nameB; simp; intros; omega)
    have c1' : ((s.size : Nat) : Int) < 1 := by omega
    go_enter Try.func44, Try.ntmps44
    go_wp2
    go_ret
    exact RetV.eq 0 (by rw [HN.out]; rfl)
  · by_cases c2 : 8 < s.size
    · have HN := Lib.hid (show nameB s = false by unfold nameB; simp; intros; omega)
      have c1' : ¬ ((s.size : Nat) : Int) < 1 := by omega
      have c2' : 8 < ((s.size : Nat) : Int) := by omega
      go_enter Try.func44, Try.ntmps44
      go_wp2
      go_ret
      exact RetV.eq 0 (by rw [HN.out]; rfl)
    · have c1' : decide (((s.size : Nat) : Int) < 1) = false := by simp; omega
      have c2' : decide (8 < ((s.size : Nat) : Int)) = false := by simp; omega
      go_enter Try.func44, Try.ntmps44
      go_wp2
      go_loop [14] (fun i => ∃ k : Nat, k ≤ s.size ∧ i = .int .i64 k ∧ (s.data.toList.take k).all lowB = true) (fun i => s.size - (intOf i).toNat)
      case atStart => exact ⟨0, Nat.zero_le _, rfl, rfl⟩
      case round =>
        obtain ⟨k, hk, rfl, hr⟩ := hrel
        have HR := Lib.hid hr
        clear hr
        by_cases hlt : k < s.size
        · by_cases h1 : (s[k].toNat : Int) < 97
          · have HB := Lib.hid (name_bad s k hlt (bad_low h1))
            go_wp2
            go_ret
            exact RetV.eq 0 (by rw [HB.out]; rfl)
          · by_cases h2 : 122 < (s[k].toNat : Int)
            · have HB := Lib.hid (name_bad s k hlt (bad_high h2))
              go_wp2
              go_ret
              exact RetV.eq 0 (by rw [HB.out]; rfl)
            · have HB := Lib.hid (low_of h1 h2)
              have HT := Lib.hid (take_snoc s k hlt)
              go_wp2
              go_round
              case rel => exact ⟨k + 1, by omega, by go_num, by rw [HT.out, List.all_append, HR.out]; simp [HB.out]⟩
              case measure => simp [intOf]; omega
        · have HA : Hid (s.data.toList.all lowB = true) := Lib.hid (by have := HR.out; rwa [List.take_of_length_le (by simp; omega)] at this)
          have HN := Lib.hid (show nameB s = true by unfold nameB; rw [HA.out]; simp; omega)
          go_wp2
          go_ret
          exact RetV.eq 0 (by rw [HN.out]; rfl)
end Go.Proofs.Ythgnlpeogdockaa
