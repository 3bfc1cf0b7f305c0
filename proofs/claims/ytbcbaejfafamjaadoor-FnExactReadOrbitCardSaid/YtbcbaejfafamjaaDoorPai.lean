/-
  A number out of hexadecimal digits, with a sign or without, of the library (base 16), for any text. Conditions: what the library's two errors hold.
-/
import Derived.Test.YtbcbaejfafamjaaDoorPar
namespace Go.Proofs.YtbcbaejfafamjaaDoor
open Go.RowKit

theorem err21 (W : World) : (binOp .neq 64 (.iface 94 (.int .i64 2)) (.iface 94 (.int .i64 1))).run Tryd.prog W = .ok (.bool true) W := by kernel_rfl
theorem err11 (W : World) : (binOp .neq 64 (.iface 94 (.int .i64 1)) (.iface 94 (.int .i64 1))).run Tryd.prog W = .ok (.bool false) W := by kernel_rfl

def RetQ (s : ByteArray) (w : World) (e : Ending) (w' : World) : Prop :=
  ∃ (n : Int) (ev : Value), e = .returned (.tuple #[.int .i64 n, ev]) ∧ -9223372036854775808 ≤ n ∧ n < 9223372036854775808 ∧ (ev = .nilIface ∨ ev = .iface 94 (.int .i64 2) ∨ ev = .iface 94 (.int .i64 1)) ∧ (okH s → ev = .nilIface ∧ n = (spH s.data.toList : Nat)) ∧ Below w.heap.size w w'

set_option maxHeartbeats 8000000 in
set_option maxRecDepth 100000 in
theorem pi16 (s : ByteArray) (hs : s.size ≤ 1048576) (w : World) :
    Calls Tryd.prog 63 #[.string s, .int .i64 16, .int .i64 64] w (RetQ s w) := by
  have hE2 := err21
  have hE1 := err11
  by_cases h0 : s.size = 0
  · have HN := Lib.hid (show okH s → False from fun h => by have := h.1; omega)
    have hq : s.toList.isEmpty = true := by rw [emp_eq]; simp [h0]
    go_enter Tryd.func63, Tryd.ntmps63
    go_wp2
    go_ret2
    exact ⟨0, _, rfl, by decide, by decide, .inr (.inl rfl), fun h => (HN.out h).elim, Below.refl _ _⟩
  · have hq : s.toList.isEmpty = false := by rw [emp_eq]; simp [h0]
    have hl0 : 0 < s.size := by omega
    by_cases c43 : (s[0].toNat : Int) = 43
    · have HN := Lib.hid (show okH s → False from fun h => by have := h.2 0 hl0; unfold isH at this; simp at this; omega)
      go_enter Tryd.func63, Tryd.ntmps63
      go_wp2_with (go_at_call 80; refine (pu16 _ (by first | omega | (rw [ByteArray.size_extract]; omega)) _).mono ?_; rintro eq wq ⟨u, ev, rfl, u0, u1, hev, hok, hb⟩; have HB := Lib.hid hb; have HK := Lib.hid hok; have HV := Lib.hid hev; clear hb hok hev)
      rcases HV.out with rfl | rfl | rfl
      all_goals
        clear HV HK
        by_cases hu : 9223372036854775808 ≤ u
      all_goals (go_simp; go_wp2)
      all_goals go_ret2
      all_goals
        first
          | exact ⟨_, _, rfl, by first | decide | omega | (unfold wrap64; omega), by first | decide | omega | (unfold wrap64; omega), .inr (.inl rfl), fun h => (HN.out h).elim, HB.out⟩
          | exact ⟨_, _, rfl, by first | decide | omega | (unfold wrap64; omega), by first | decide | omega | (unfold wrap64; omega), .inr (.inr rfl), fun h => (HN.out h).elim, HB.out⟩
          | exact ⟨_, _, rfl, by first | decide | omega | (unfold wrap64; omega), by first | decide | omega | (unfold wrap64; omega), .inl rfl, fun h => (HN.out h).elim, HB.out⟩
    · by_cases c45 : (s[0].toNat : Int) = 45
      · have HN := Lib.hid (show okH s → False from fun h => by have := h.2 0 hl0; unfold isH at this; simp at this; omega)
        go_enter Tryd.func63, Tryd.ntmps63
        go_wp2_with (go_at_call 80; refine (pu16 _ (by first | omega | (rw [ByteArray.size_extract]; omega)) _).mono ?_; rintro eq wq ⟨u, ev, rfl, u0, u1, hev, hok, hb⟩; have HB := Lib.hid hb; have HK := Lib.hid hok; have HV := Lib.hid hev; clear hb hok hev)
        rcases HV.out with rfl | rfl | rfl
        all_goals
          clear HV HK
          by_cases hu : 9223372036854775808 < u
        all_goals (go_simp; go_wp2)
        all_goals go_ret2
        all_goals
          first
            | exact ⟨_, _, rfl, by first | decide | omega | (unfold wrap64; omega), by first | decide | omega | (unfold wrap64; omega), .inr (.inl rfl), fun h => (HN.out h).elim, HB.out⟩
            | exact ⟨_, _, rfl, by first | decide | omega | (unfold wrap64; omega), by first | decide | omega | (unfold wrap64; omega), .inr (.inr rfl), fun h => (HN.out h).elim, HB.out⟩
            | exact ⟨_, _, rfl, by first | decide | omega | (unfold wrap64; omega), by first | decide | omega | (unfold wrap64; omega), .inl rfl, fun h => (HN.out h).elim, HB.out⟩
      · have hb43 : ((s[0].toNat : Int) == 43) = false := by simpa using c43
        have hb45 : ((s[0].toNat : Int) == 45) = false := by simpa using c45
        have HS := Lib.hid (fun h : okH s => spH_lt s h 8 (Nat.le_refl _))
        go_enter Tryd.func63, Tryd.ntmps63
        go_wp2_with (go_at_call 80; refine (pu16 _ (by first | omega | (rw [ByteArray.size_extract]; omega)) _).mono ?_; rintro eq wq ⟨u, ev, rfl, u0, u1, hev, hok, hb⟩; have HB := Lib.hid hb; have HK := Lib.hid hok; have HV := Lib.hid hev; clear hb hok hev)
        have HU := Lib.hid (show okH s → ev = .nilIface ∧ u = (spH s.data.toList : Nat) ∧ u < 4294967296 from fun h => by
          obtain ⟨a, b⟩ := HK.out h
          have c := HS.out h
          rw [List.take_of_length_le (by have := h.1; simp; omega)] at c
          have h4 : (16 : Nat) ^ 8 = 4294967296 := by decide
          exact ⟨a, b, by omega⟩)
        clear HK HS
        rcases HV.out with rfl | rfl | rfl
        all_goals
          clear HV
          by_cases hu : 9223372036854775808 ≤ u
        all_goals (go_simp; go_wp2)
        all_goals go_ret2
        all_goals
          first
          | exact ⟨_, _, rfl, by first | decide | omega | (unfold wrap64; omega), by first | decide | omega | (unfold wrap64; omega), .inr (.inl rfl), fun h => (by have := (HU.out h).1; first | cases this | (have := (HU.out h).2.2; omega)), HB.out⟩
          | exact ⟨_, _, rfl, by first | decide | omega | (unfold wrap64; omega), by first | decide | omega | (unfold wrap64; omega), .inr (.inr rfl), fun h => (by have := (HU.out h).2.2; omega), HB.out⟩
          | exact ⟨_, _, rfl, by first | decide | omega | (unfold wrap64; omega), by first | decide | omega | (unfold wrap64; omega), .inl rfl, fun h => ⟨rfl, by have := (HU.out h).2; first | omega | (unfold wrap64; omega)⟩, HB.out⟩
end Go.Proofs.YtbcbaejfafamjaaDoor
