/-
  Whether a text is a name, and the check number of a text, of the program and of the model. No condition.
-/
import Derived.Test.YtbpgemdchpgjiacBase
import Derived.Lib.Hide
namespace Go.Proofs.Ytbpgemdchpgjiac
open Go.RowKit

theorem ret_bool {a b : Bool} (h : a = b) : Ending.returned (.bool a) = .returned (.bool b) := by rw [h]

theorem take_snoc (s : ByteArray) (k : Nat) (h : k < s.size) : s.data.toList.take (k + 1) = s.data.toList.take k ++ [s[k]] := by
  rw [List.take_succ_eq_append_getElem (by simpa using h)]; rfl

def lowB (c : UInt8) : Bool := decide (97 ≤ (c.toNat : Int)) && decide ((c.toNat : Int) ≤ 122)
def nameB (s : ByteArray) : Bool := s.data.toList.all lowB && (decide (1 ≤ s.size) && decide (s.size ≤ 8))

theorem low_of {c : UInt8} (h1 : ¬ (c.toNat : Int) < 97) (h2 : ¬ (122 < (c.toNat : Int))) : lowB c = true := by
  simp only [lowB, Bool.and_eq_true, decide_eq_true_eq]; omega
theorem name_bad (s : ByteArray) (k : Nat) (hk : k < s.size) (h : lowB s[k] = false) : nameB s = false := by
  unfold nameB
  have : s.data.toList.all lowB = false := by
    rw [List.all_eq_false]
    refine ⟨s[k], ?_, by simp [h]⟩
    show s.data[k] ∈ _
    simp
  rw [this]; rfl
theorem bad_low {c : UInt8} (h1 : (c.toNat : Int) < 97) : lowB c = false := by
  simp only [lowB, Bool.and_eq_false_iff, decide_eq_false_iff_not]; left; omega
theorem bad_high {c : UInt8} (h1 : 122 < (c.toNat : Int)) : lowB c = false := by
  simp only [lowB, Bool.and_eq_false_iff, decide_eq_false_iff_not]; right; omega

set_option maxHeartbeats 800000 in
theorem specName (s : ByteArray) (w : World) (hs : s.size ≤ maxLen) : Calls Try.prog 29 #[.string s] w (RetV (.bool (nameB s)) w) := by
  unfold maxLen at hs
  go_enter Try.func29, Try.ntmps29
  go_wp2
  go_loop [3] (fun i => ∃ k : Nat, k ≤ s.size ∧ i = .int .i64 k ∧ (s.data.toList.take k).all lowB = true) (fun i => s.size - (intOf i).toNat)
  case atStart => exact ⟨0, Nat.zero_le _, rfl, rfl⟩
  case round =>
    obtain ⟨k, hk, rfl, hr⟩ := hrel
    have HR := Lib.hid hr
    clear hr
    by_cases hlt : k < s.size
    · by_cases h1 : (s[k].toNat : Int) < 97
      · have HB := Lib.hid (name_bad s k hlt (bad_low h1))
        go_wp2
        go_ret
        exact RetV.eq 0 (by rw [HB.out]; rfl)
      · by_cases h2 : 122 < (s[k].toNat : Int)
        · have HB := Lib.hid (name_bad s k hlt (bad_high h2))
          go_wp2
          go_ret
          exact RetV.eq 0 (by rw [HB.out]; rfl)
        · have HB := Lib.hid (low_of h1 h2)
          have HT := Lib.hid (take_snoc s k hlt)
          go_wp2
          go_round
          case rel => exact ⟨k + 1, by omega, by go_num, by rw [HT.out, List.all_append, HR.out]; simp [HB.out]⟩
          case measure => simp [intOf]; omega
    · have HA : Hid (s.data.toList.all lowB = true) := Lib.hid (by have := HR.out; rwa [List.take_of_length_le (by simp; omega)] at this)
      by_cases c1 : 1 ≤ s.size
      · by_cases c2 : s.size ≤ 8
        · have HN := Lib.hid (show nameB s = true by unfold nameB; rw [HA.out]; simp [c1, c2])
          go_wp2
          go_ret
          exact RetV.eq 0 (by rw [HN.out]; first | rfl | (simp; done) | (simp; omega))
        · have HN := Lib.hid (show nameB s = false by unfold nameB; rw [HA.out]; simp [c2])
          go_wp2
          go_ret
          exact RetV.eq 0 (by rw [HN.out]; first | rfl | (simp; done) | (simp; omega))
      · have HN := Lib.hid (show nameB s = false by unfold nameB; rw [HA.out]; simp [c1])
        go_wp2
        go_ret
        exact RetV.eq 0 (by rw [HN.out]; first | rfl | (simp; done) | (simp; omega))

set_option maxHeartbeats 800000 in
theorem implName (s : ByteArray) (w : World) (hs : s.size ≤ maxLen) : Calls Try.prog 30 #[.string s] w (RetV (.bool (nameB s)) w) := by
  unfold maxLen at hs
  by_cases c1 : s.size < 1
  · have HN := Lib.hid (show nameB s = false by unfold nameB; simp; intros; omega)
    have c1' : ((s.size : Nat) : Int) < 1 := by omega
    go_enter Try.func30, Try.ntmps30
    go_wp2
    go_ret
    exact RetV.eq 0 (by rw [HN.out]; rfl)
  · by_cases c2 : 8 < s.size
    · have HN := Lib.hid (show nameB s = false by unfold nameB; simp; intros; omega)
      have c1' : ¬ ((s.size : Nat) : Int) < 1 := by omega
      have c2' : 8 < ((s.size : Nat) : Int) := by omega
      go_enter Try.func30, Try.ntmps30
      go_wp2
      go_ret
      exact RetV.eq 0 (by rw [HN.out]; rfl)
    · have c1' : decide (((s.size : Nat) : Int) < 1) = false := by simp; omega
      have c2' : decide (8 < ((s.size : Nat) : Int)) = false := by simp; omega
      go_enter Try.func30, Try.ntmps30
      go_wp2
      go_loop [14] (fun i => ∃ k : Nat, k ≤ s.size ∧ i = .int .i64 k ∧ (s.data.toList.take k).all lowB = true) (fun i => s.size - (intOf i).toNat)
      case atStart => exact ⟨0, Nat.zero_le _, rfl, rfl⟩
      case round =>
        obtain ⟨k, hk, rfl, hr⟩ := hrel
        have HR := Lib.hid hr
        clear hr
        by_cases hlt : k < s.size
        · by_cases h1 : (s[k].toNat : Int) < 97
          · have HB := Lib.hid (name_bad s k hlt (bad_low h1))
            go_wp2
            go_ret
            exact RetV.eq 0 (by rw [HB.out]; rfl)
          · by_cases h2 : 122 < (s[k].toNat : Int)
            · have HB := Lib.hid (name_bad s k hlt (bad_high h2))
              go_wp2
              go_ret
              exact RetV.eq 0 (by rw [HB.out]; rfl)
            · have HB := Lib.hid (low_of h1 h2)
              have HT := Lib.hid (take_snoc s k hlt)
              go_wp2
              go_round
              case rel => exact ⟨k + 1, by omega, by go_num, by rw [HT.out, List.all_append, HR.out]; simp [HB.out]⟩
              case measure => simp [intOf]; omega
        · have HA : Hid (s.data.toList.all lowB = true) := Lib.hid (by have := HR.out; rwa [List.take_of_length_le (by simp; omega)] at this)
          have HN := Lib.hid (show nameB s = true by unfold nameB; rw [HA.out]; simp; omega)
          go_wp2
          go_ret
          exact RetV.eq 0 (by rw [HN.out]; rfl)

theorem walk_FnExactIsName (s : ByteArray) (w : World) (hs : s.size ≤ maxLen) :
    Calls Try.prog 10 #[.string s] w fun e w' => e = .returned (.bool true) ∧ Below w.heap.size w w' := by
  by_cases hb : s.size ≤ 1048576
  · have hb' : decide (1048576 < ((s.size : Nat) : Int)) = false := by simp; omega
    go_enter Try.func10, Try.ntmps10
    go_wp2_with (first | (go_at_call 29; refine (specName s _ hs).mono ?_; rintro eq wq ⟨nq, rfl, rfl⟩) | (go_at_call 30; refine (implName s _ hs).mono ?_; rintro eq wq ⟨nq, rfl, rfl⟩))
    go_ret
    exact ⟨rfl, below_drewN (Below.refl _ _) _⟩
  · have hb' : decide (1048576 < ((s.size : Nat) : Int)) = true := by simp; omega
    go_enter Try.func10, Try.ntmps10
    go_wp2_with fail
    go_ret
    exact ⟨rfl, Below.refl _ _⟩

def ckF (n : Int) (l : List UInt8) : Int := l.foldl (fun n c => (809 * n + (c.toNat : Int) + 103) % 65003) n
theorem ck_snoc (n : Int) (l : List UInt8) (c : UInt8) : ckF n (l ++ [c]) = (809 * ckF n l + (c.toNat : Int) + 103) % 65003 := by
  unfold ckF; rw [List.foldl_append]; rfl
theorem byte_lt (c : UInt8) : (c.toNat : Int) < 256 := by have := c.toNat_lt; omega

theorem specCheck (s : ByteArray) (n : Int) (w : World) (hs : s.size ≤ maxLen) (h1 : 0 ≤ n) (h2 : n < 65003) :
    Calls Try.prog 51 #[.int .i64 n, .string s] w (RetV (.int .i64 (ckF n s.data.toList)) w) := by
  unfold maxLen at hs
  go_enter Try.func51, Try.ntmps51
  go_wp2
  go_loop [0, 5] (fun a i => ∃ (k : Nat) (m : Int), k ≤ s.size ∧ i = .int .i64 k ∧ a = .int .i64 m ∧ 0 ≤ m ∧ m < 65003 ∧ Hid (m = ckF n (s.data.toList.take k))) (fun _ i => s.size - (intOf i).toNat)
  case atStart => exact ⟨0, n, Nat.zero_le _, rfl, rfl, h1, h2, rfl⟩
  case round =>
    obtain ⟨k, m, hk, rfl, rfl, hm1, hm2, HM⟩ := hrel
    by_cases hlt : k < s.size
    · have hb := byte_lt s[k]
      have HT := Lib.hid (take_snoc s k hlt)
      go_wp2
      go_round
      case rel => exact ⟨k + 1, _, by omega, by go_num, rfl, by omega, by omega, by show _ = _; rw [HT.out, ck_snoc, ← HM.out]⟩
      case measure => simp [intOf]; omega
    · have HA : Hid (m = ckF n s.data.toList) := by have := HM.out; rwa [List.take_of_length_le (by simp; omega)] at this
      go_wp2
      go_ret
      exact RetV.eq 0 (by rw [← HA.out]; rfl)

theorem specCheckOf_in (s : ByteArray) (n : Int) (w : World) (hs : s.size ≤ maxLen) (h1 : 0 ≤ n) (h2 : n < 65003) :
    Calls Try.prog 31 #[.int .i64 n, .string s] w (RetV (.tuple #[.int .i64 (ckF n s.data.toList), .bool true]) w) := by
  have hd : decide (n ≤ 65002) = true := by simp; omega
  go_enter Try.func31, Try.ntmps31
  go_wp2_with (first | (go_at_call 51; refine (specCheck s n _ hs h1 h2).mono ?_; rintro eq wq ⟨nq, rfl, rfl⟩) | go_in)
  go_ret2
  exact ⟨_, rfl, rfl⟩

theorem implCheck_in (s : ByteArray) (n : Int) (w : World) (hs : s.size ≤ maxLen) (h1 : 0 ≤ n) (h2 : n < 65003) :
    Calls Try.prog 32 #[.int .i64 n, .string s] w (RetV (.tuple #[.int .i64 (ckF n s.data.toList), .bool true]) w) := by
  unfold maxLen at hs
  have d1 : decide (n < 0) = false := by simp; omega
  have d2 : decide (65003 ≤ n) = false := by simp; omega
  go_enter Try.func32, Try.ntmps32
  go_wp2
  go_loop [6, 17] (fun a i => ∃ (k : Nat) (m : Int), k ≤ s.size ∧ i = .int .i64 k ∧ a = .int .i64 m ∧ 0 ≤ m ∧ m < 65003 ∧ Hid (m = ckF n (s.data.toList.take k))) (fun _ i => s.size - (intOf i).toNat)
  case atStart => exact ⟨0, n, Nat.zero_le _, rfl, rfl, h1, h2, rfl⟩
  case round =>
    obtain ⟨k, m, hk, rfl, rfl, hm1, hm2, HM⟩ := hrel
    by_cases hlt : k < s.size
    · have hb := byte_lt s[k]
      have HT := Lib.hid (take_snoc s k hlt)
      go_wp2
      go_round
      case rel => exact ⟨k + 1, _, by omega, by go_num, rfl, by omega, by omega, by show _ = _; rw [HT.out, ck_snoc, ← HM.out]⟩
      case measure => simp [intOf]; omega
    · have HA : Hid (m = ckF n s.data.toList) := by have := HM.out; rwa [List.take_of_length_le (by simp; omega)] at this
      go_wp2
      go_ret2
      exact RetV.eq 0 (by rw [← HA.out]; rfl)

theorem specCheckOf_out (s : ByteArray) (n : Int) (w : World) (h : n < 0 ∨ 65003 ≤ n) :
    Calls Try.prog 31 #[.int .i64 n, .string s] w (RetV (.tuple #[.int .i64 0, .bool false]) w) := by
  rcases h with h | h
  · go_enter Try.func31, Try.ntmps31
    go_wp2
    go_ret2
    exact RetV.mk0
  · have h0 : 0 ≤ n := by omega
    have hd : decide (n ≤ 65002) = false := by simp; omega
    go_enter Try.func31, Try.ntmps31
    go_wp2
    go_ret2
    exact RetV.mk0

theorem implCheck_out (s : ByteArray) (n : Int) (w : World) (h : n < 0 ∨ 65003 ≤ n) :
    Calls Try.prog 32 #[.int .i64 n, .string s] w (RetV (.tuple #[.int .i64 0, .bool false]) w) := by
  rcases h with h | h
  · go_enter Try.func32, Try.ntmps32
    go_wp2
    go_ret2
    exact RetV.mk0
  · have d1 : decide (n < 0) = false := by simp; omega
    go_enter Try.func32, Try.ntmps32
    go_wp2
    go_ret2
    exact RetV.mk0

theorem walk_FnExactCheckOf (n : Int) (s : ByteArray) (w : World) (_hn : (Lit.int .i64 n).wf = true) (hs : s.size ≤ maxLen) :
    Calls Try.prog 11 #[.int .i64 n, .string s] w fun e w' => e = .returned (.bool true) ∧ Below w.heap.size w w' := by
  by_cases hb : s.size ≤ 1048576
  · have hb' : decide (1048576 < ((s.size : Nat) : Int)) = false := by simp; omega
    by_cases h : 0 ≤ n ∧ n < 65003
    · obtain ⟨h1, h2⟩ := h
      go_enter Try.func11, Try.ntmps11
      go_wp2_with (first | (go_at_call 31; refine (specCheckOf_in s n _ hs h1 h2).mono ?_; rintro eq wq ⟨nq, rfl, rfl⟩) | (go_at_call 32; refine (implCheck_in s n _ hs h1 h2).mono ?_; rintro eq wq ⟨nq, rfl, rfl⟩))
      go_ret
      exact ⟨rfl, below_drewN (Below.refl _ _) _⟩
    · have h' : n < 0 ∨ 65003 ≤ n := by omega
      go_enter Try.func11, Try.ntmps11
      go_wp2_with (first | (go_at_call 31; refine (specCheckOf_out s n _ h').mono ?_; rintro eq wq ⟨nq, rfl, rfl⟩) | (go_at_call 32; refine (implCheck_out s n _ h').mono ?_; rintro eq wq ⟨nq, rfl, rfl⟩))
      go_ret
      exact ⟨rfl, below_drewN (Below.refl _ _) _⟩
  · have hb' : decide (1048576 < ((s.size : Nat) : Int)) = true := by simp; omega
    go_enter Try.func11, Try.ntmps11
    go_wp2_with fail
    go_ret
    exact ⟨rfl, Below.refl _ _⟩
end Go.Proofs.Ytbpgemdchpgjiac
