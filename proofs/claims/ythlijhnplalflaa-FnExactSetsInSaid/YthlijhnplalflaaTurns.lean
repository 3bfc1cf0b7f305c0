/-
  The indices at which a list of yes and no turns, of the program and of the model. No condition.
-/
import Derived.Test.YthlijhnplalflaaIntL
import Derived.Test.YthlijhnplalflaaLstT
import Derived.Test.YthlijhnplalflaaApp
namespace Go.Proofs.Ythlijhnplalflaa
open Go.RowKit

/-- Whether the value at an index from 1 on is as told, and the former one not. -/
def turnAt (f : Nat → Bool) (to : Bool) (k : Nat) : Bool := f k == to && f (k - 1) != to
/-- The indices from 1 on and less than k at which the values turn. -/
def turnsL (f : Nat → Bool) (to : Bool) : Nat → List Int
  | 0 => []
  | k + 1 => if 1 ≤ k ∧ turnAt f to k = true then turnsL f to k ++ [(k : Int)] else turnsL f to k

theorem turns_len (f : Nat → Bool) (to : Bool) : ∀ k, (turnsL f to k).length ≤ k
  | 0 => Nat.zero_le _
  | k + 1 => by
    unfold turnsL
    split
    · rw [List.length_append]; have := turns_len f to k; simp; omega
    · have := turns_len f to k; omega
theorem turns_one (f : Nat → Bool) (to : Bool) : turnsL f to 1 = [] := by unfold turnsL; rw [if_neg (fun h => absurd h.1 (by decide))]; rfl
theorem turns_yes {f : Nat → Bool} {to : Bool} {k : Nat} (h : turnAt f to (k + 1) = true) : turnsL f to (k + 2) = turnsL f to (k + 1) ++ [((k + 1 : Nat) : Int)] := by
  rw [turnsL, if_pos ⟨by omega, h⟩]
theorem turns_no {f : Nat → Bool} {to : Bool} {k : Nat} (h : turnAt f to (k + 1) = false) : turnsL f to (k + 2) = turnsL f to (k + 1) := by
  rw [turnsL, if_neg (by rw [h]; simp)]

/-- A list of integers of its own is handed back; nothing that was there is written. -/
def RetI (xs : List Int) (w : World) (e : Ending) (w' : World) : Prop :=
  ∃ v, e = .returned v ∧ w'.ownsRow w.heap.size 2 1 v xs.length (xs.map (Value.int .i64)) ∧ Below w.heap.size w w'

set_option maxHeartbeats 1600000 in
theorem sTurnsY (b n cap : Nat) (f : Nat → Bool) (w : World) (hn : n ≤ 64) (hb : b < w.heap.size) (hr : ∀ i, i < n → w.cell? ⟨b, i, none⟩ = some (.bool (f i))) :
    Calls Try.prog 59 #[.slice (some ⟨b, 0, none⟩) n cap, .bool true] w (RetI (turnsL f true n) w) := by
  have hd : decide (64 < ((n : Nat) : Int)) = false := by simp; omega
  obtain ⟨i0, hi, hz0, hz1, hz2⟩ := info_parts infoQ
  have HR := Lib.hid hr
  clear hr
  go_enter Try.func59, Try.ntmps59
  go_wp2
  go_loopw [5, 6] (fun o i wr => ∃ k : Nat, (k + 1 ≤ n ∨ k = 0) ∧ i = .int .i64 ((k + 1 : Nat) : Int) ∧ wr.ownsRow w.heap.size 2 1 o (turnsL f true (k + 1)).length ((turnsL f true (k + 1)).map (Value.int .i64)) ∧ Below w.heap.size w wr) (fun _ i _ => n - (intOf i).toNat)
  case atStart =>
    refine ⟨0, .inr rfl, rfl, ?_, (Below.refl _ _).alloc (Nat.le_refl _) _⟩
    rw [turns_one]
    exact ownsRow_zeroQ w _ _ (Nat.le_refl _)
  case round =>
    obtain ⟨k, hk, rfl, hrow, hbw⟩ := hrel
    have HO := Lib.hid hrow
    have HB := Lib.hid hbw
    clear hrow hbw
    by_cases hlt : k + 1 < n
    · have hc1 := (HB.out.cell (p := ⟨b, k + 1, none⟩) hb).trans (HR.out (k + 1) hlt)
      have hc0 := (HB.out.cell (p := ⟨b, k, none⟩) hb).trans (HR.out k (by omega))
      have hw1 : wrap64 (((k + 1 : Nat) : Int) - 1) = ((k : Nat) : Int) := by unfold wrap64; omega
      have hlen := turns_len f true (k + 1)
      cases h1 : f (k + 1) <;> cases h0 : f k <;> rw [h1] at hc1 <;> rw [h0] at hc0
      · have HT := Lib.hid (turns_no (show turnAt f true (k + 1) = false by simp [turnAt, h1, h0]))
        clear h1 h0
        go_wp2
        go_roundw
        case rel => exact ⟨k + 1, .inl (by omega), by go_num, by rw [HT.out]; exact HO.out, HB.out⟩
        case measure => simp [intOf]; omega
      · have HT := Lib.hid (turns_no (show turnAt f true (k + 1) = false by simp [turnAt, h1, h0]))
        clear h1 h0
        go_wp2
        go_roundw
        case rel => exact ⟨k + 1, .inl (by omega), by go_num, by rw [HT.out]; exact HO.out, HB.out⟩
        case measure => simp [intOf]; omega
      · have hA : turnAt f true (k + 1) = true := by simp [turnAt, h1, h0]
        have HT := Lib.hid (show (turnsL f true (k + 1 + 1)).map (Value.int .i64) = (turnsL f true (k + 1)).map (Value.int .i64) ++ [.int .i64 ((k + 1 : Nat) : Int)] by rw [turns_yes hA, List.map_append]; rfl)
        have HL := Lib.hid (show (turnsL f true (k + 1 + 1)).length = (turnsL f true (k + 1)).length + 1 by rw [turns_yes hA, List.length_append]; rfl)
        clear hA h1 h0
        generalize turnsL f true (k + 1) = xs at HO HT HL hlen
        go_wp2_with (at_builtin; go_loud (refine wpList_append_form (by rfl) (.tmp 29) (.tmp 31) 47 (by rfl) w.heap.size 2 i0 (.int .i64 0) 1 8 Try.underlying47 hi hz0 hz1 hz2 rfl (by decide) _ xs.length _ (by rfl) (HO.out.alloc _) ⟨wr.heap.size, 0, none⟩ 1 1 [_] (by rfl) rfl (new1 _ _ _) (fun v h => by rw [List.mem_singleton.1 h]; rfl) (by unfold maxLen; omega) (by omega) (by have := HB.out.size; simp; omega) (by omega) ?_); intro g' cap' w3 hown' hgrow)
        go_roundw
        case rel => exact ⟨k + 1, .inl (by omega), by go_num, by rw [HT.out, HL.out]; exact hown', Below.grown (HB.out.alloc HB.out.size _) hgrow (by have := HB.out.size; simp; omega) (fun i hi => (HO.out.lt i hi).1)⟩
        case measure => simp [intOf]; omega
      · have HT := Lib.hid (turns_no (show turnAt f true (k + 1) = false by simp [turnAt, h1, h0]))
        clear h1 h0
        go_wp2
        go_roundw
        case rel => exact ⟨k + 1, .inl (by omega), by go_num, by rw [HT.out]; exact HO.out, HB.out⟩
        case measure => simp [intOf]; omega
    · have hkn : Hid (turnsL f true (k + 1) = turnsL f true n) := (show turnsL f true (k + 1) = turnsL f true n by
        rcases hk with hk | hk
        · rw [show k + 1 = n by omega]
        · subst hk
          have : n = 0 ∨ n = 1 := by omega
          rcases this with h | h
          · rw [h, turns_one]; rfl
          · rw [h])
      go_wp2
      go_ret
      exact ⟨_, rfl, by rw [← hkn.out]; exact HO.out, HB.out⟩

set_option maxHeartbeats 1600000 in
theorem sTurnsN (b n cap : Nat) (f : Nat → Bool) (w : World) (hn : n ≤ 64) (hb : b < w.heap.size) (hr : ∀ i, i < n → w.cell? ⟨b, i, none⟩ = some (.bool (f i))) :
    Calls Try.prog 59 #[.slice (some ⟨b, 0, none⟩) n cap, .bool false] w (RetI (turnsL f false n) w) := by
  have hd : decide (64 < ((n : Nat) : Int)) = false := by simp; omega
  obtain ⟨i0, hi, hz0, hz1, hz2⟩ := info_parts infoQ
  have HR := Lib.hid hr
  clear hr
  go_enter Try.func59, Try.ntmps59
  go_wp2
  go_loopw [5, 6] (fun o i wr => ∃ k : Nat, (k + 1 ≤ n ∨ k = 0) ∧ i = .int .i64 ((k + 1 : Nat) : Int) ∧ wr.ownsRow w.heap.size 2 1 o (turnsL f false (k + 1)).length ((turnsL f false (k + 1)).map (Value.int .i64)) ∧ Below w.heap.size w wr) (fun _ i _ => n - (intOf i).toNat)
  case atStart =>
    refine ⟨0, .inr rfl, rfl, ?_, (Below.refl _ _).alloc (Nat.le_refl _) _⟩
    rw [turns_one]
    exact ownsRow_zeroQ w _ _ (Nat.le_refl _)
  case round =>
    obtain ⟨k, hk, rfl, hrow, hbw⟩ := hrel
    have HO := Lib.hid hrow
    have HB := Lib.hid hbw
    clear hrow hbw
    by_cases hlt : k + 1 < n
    · have hc1 := (HB.out.cell (p := ⟨b, k + 1, none⟩) hb).trans (HR.out (k + 1) hlt)
      have hc0 := (HB.out.cell (p := ⟨b, k, none⟩) hb).trans (HR.out k (by omega))
      have hw1 : wrap64 (((k + 1 : Nat) : Int) - 1) = ((k : Nat) : Int) := by unfold wrap64; omega
      have hlen := turns_len f false (k + 1)
      cases h1 : f (k + 1) <;> cases h0 : f k <;> rw [h1] at hc1 <;> rw [h0] at hc0
      · have HT := Lib.hid (turns_no (show turnAt f false (k + 1) = false by simp [turnAt, h1, h0]))
        clear h1 h0
        go_wp2
        go_roundw
        case rel => exact ⟨k + 1, .inl (by omega), by go_num, by rw [HT.out]; exact HO.out, HB.out⟩
        case measure => simp [intOf]; omega
      · have hA : turnAt f false (k + 1) = true := by simp [turnAt, h1, h0]
        have HT := Lib.hid (show (turnsL f false (k + 1 + 1)).map (Value.int .i64) = (turnsL f false (k + 1)).map (Value.int .i64) ++ [.int .i64 ((k + 1 : Nat) : Int)] by rw [turns_yes hA, List.map_append]; rfl)
        have HL := Lib.hid (show (turnsL f false (k + 1 + 1)).length = (turnsL f false (k + 1)).length + 1 by rw [turns_yes hA, List.length_append]; rfl)
        clear hA h1 h0
        generalize turnsL f false (k + 1) = xs at HO HT HL hlen
        go_wp2_with (at_builtin; go_loud (refine wpList_append_form (by rfl) (.tmp 29) (.tmp 31) 47 (by rfl) w.heap.size 2 i0 (.int .i64 0) 1 8 Try.underlying47 hi hz0 hz1 hz2 rfl (by decide) _ xs.length _ (by rfl) (HO.out.alloc _) ⟨wr.heap.size, 0, none⟩ 1 1 [_] (by rfl) rfl (new1 _ _ _) (fun v h => by rw [List.mem_singleton.1 h]; rfl) (by unfold maxLen; omega) (by omega) (by have := HB.out.size; simp; omega) (by omega) ?_); intro g' cap' w3 hown' hgrow)
        go_roundw
        case rel => exact ⟨k + 1, .inl (by omega), by go_num, by rw [HT.out, HL.out]; exact hown', Below.grown (HB.out.alloc HB.out.size _) hgrow (by have := HB.out.size; simp; omega) (fun i hi => (HO.out.lt i hi).1)⟩
        case measure => simp [intOf]; omega
      · have HT := Lib.hid (turns_no (show turnAt f false (k + 1) = false by simp [turnAt, h1, h0]))
        clear h1 h0
        go_wp2
        go_roundw
        case rel => exact ⟨k + 1, .inl (by omega), by go_num, by rw [HT.out]; exact HO.out, HB.out⟩
        case measure => simp [intOf]; omega
      · have HT := Lib.hid (turns_no (show turnAt f false (k + 1) = false by simp [turnAt, h1, h0]))
        clear h1 h0
        go_wp2
        go_roundw
        case rel => exact ⟨k + 1, .inl (by omega), by go_num, by rw [HT.out]; exact HO.out, HB.out⟩
        case measure => simp [intOf]; omega
    · have hkn : Hid (turnsL f false (k + 1) = turnsL f false n) := (show turnsL f false (k + 1) = turnsL f false n by
        rcases hk with hk | hk
        · rw [show k + 1 = n by omega]
        · subst hk
          have : n = 0 ∨ n = 1 := by omega
          rcases this with h | h
          · rw [h, turns_one]; rfl
          · rw [h])
      go_wp2
      go_ret
      exact ⟨_, rfl, by rw [← hkn.out]; exact HO.out, HB.out⟩

set_option maxHeartbeats 1600000 in
theorem iTurnsY (b n cap : Nat) (f : Nat → Bool) (w : World) (hn : n ≤ 64) (hb : b < w.heap.size) (hr : ∀ i, i < n → w.cell? ⟨b, i, none⟩ = some (.bool (f i))) :
    Calls Try.prog 60 #[.bool true, .slice (some ⟨b, 0, none⟩) n cap] w (RetL (turnsL f true n) true w) := by
  have hd : decide (64 < ((n : Nat) : Int)) = false := by simp; omega
  obtain ⟨i0, hi, hz0, hz1, hz2⟩ := info_parts infoQ
  have HR := Lib.hid hr
  clear hr
  go_enter Try.func60, Try.ntmps60
  go_wp2
  go_loopw [6, 7] (fun o i wr => ∃ k : Nat, (k + 1 ≤ n ∨ k = 0) ∧ i = .int .i64 ((k + 1 : Nat) : Int) ∧ wr.ownsRow w.heap.size 2 1 o (turnsL f true (k + 1)).length ((turnsL f true (k + 1)).map (Value.int .i64)) ∧ Below w.heap.size w wr) (fun _ i _ => n - (intOf i).toNat)
  case atStart =>
    refine ⟨0, .inr rfl, rfl, ?_, Below.refl _ _⟩
    rw [turns_one]
    exact World.ownsRow_nil _ _ _ _
  case round =>
    obtain ⟨k, hk, rfl, hrow, hbw⟩ := hrel
    have HO := Lib.hid hrow
    have HB := Lib.hid hbw
    clear hrow hbw
    by_cases hlt : k + 1 < n
    · have hc1 := (HB.out.cell (p := ⟨b, k + 1, none⟩) hb).trans (HR.out (k + 1) hlt)
      have hc0 := (HB.out.cell (p := ⟨b, k, none⟩) hb).trans (HR.out k (by omega))
      have hw1 : wrap64 (((k + 1 : Nat) : Int) - 1) = ((k : Nat) : Int) := by unfold wrap64; omega
      have hlen := turns_len f true (k + 1)
      cases h1 : f (k + 1) <;> cases h0 : f k <;> rw [h1] at hc1 <;> rw [h0] at hc0
      · have HT := Lib.hid (turns_no (show turnAt f true (k + 1) = false by simp [turnAt, h1, h0]))
        clear h1 h0
        go_wp2
        go_roundw
        case rel => exact ⟨k + 1, .inl (by omega), by go_num, by rw [HT.out]; exact HO.out, HB.out⟩
        case measure => simp [intOf]; omega
      · have HT := Lib.hid (turns_no (show turnAt f true (k + 1) = false by simp [turnAt, h1, h0]))
        clear h1 h0
        go_wp2
        go_roundw
        case rel => exact ⟨k + 1, .inl (by omega), by go_num, by rw [HT.out]; exact HO.out, HB.out⟩
        case measure => simp [intOf]; omega
      · have hA : turnAt f true (k + 1) = true := by simp [turnAt, h1, h0]
        have HT := Lib.hid (show (turnsL f true (k + 1 + 1)).map (Value.int .i64) = (turnsL f true (k + 1)).map (Value.int .i64) ++ [.int .i64 ((k + 1 : Nat) : Int)] by rw [turns_yes hA, List.map_append]; rfl)
        have HL := Lib.hid (show (turnsL f true (k + 1 + 1)).length = (turnsL f true (k + 1)).length + 1 by rw [turns_yes hA, List.length_append]; rfl)
        clear hA h1 h0
        generalize turnsL f true (k + 1) = xs at HO HT HL hlen
        go_wp2_with (at_builtin; go_loud (refine wpList_append_form (by rfl) (.tmp 32) (.tmp 34) 47 (by rfl) w.heap.size 2 i0 (.int .i64 0) 1 8 Try.underlying47 hi hz0 hz1 hz2 rfl (by decide) _ xs.length _ (by rfl) (HO.out.alloc _) ⟨wr.heap.size, 0, none⟩ 1 1 [_] (by rfl) rfl (new1 _ _ _) (fun v h => by rw [List.mem_singleton.1 h]; rfl) (by unfold maxLen; omega) (by omega) (by have := HB.out.size; simp; omega) (by omega) ?_); intro g' cap' w3 hown' hgrow)
        go_roundw
        case rel => exact ⟨k + 1, .inl (by omega), by go_num, by rw [HT.out, HL.out]; exact hown', Below.grown (HB.out.alloc HB.out.size _) hgrow (by have := HB.out.size; simp; omega) (fun i hi => (HO.out.lt i hi).1)⟩
        case measure => simp [intOf]; omega
      · have HT := Lib.hid (turns_no (show turnAt f true (k + 1) = false by simp [turnAt, h1, h0]))
        clear h1 h0
        go_wp2
        go_roundw
        case rel => exact ⟨k + 1, .inl (by omega), by go_num, by rw [HT.out]; exact HO.out, HB.out⟩
        case measure => simp [intOf]; omega
    · have hkn : Hid (turnsL f true (k + 1) = turnsL f true n) := (show turnsL f true (k + 1) = turnsL f true n by
        rcases hk with hk | hk
        · rw [show k + 1 = n by omega]
        · subst hk
          have : n = 0 ∨ n = 1 := by omega
          rcases this with h | h
          · rw [h, turns_one]; rfl
          · rw [h])
      go_wp2
      go_ret2
      exact ⟨_, rfl, by rw [← hkn.out]; exact HO.out, HB.out⟩

set_option maxHeartbeats 1600000 in
theorem iTurnsN (b n cap : Nat) (f : Nat → Bool) (w : World) (hn : n ≤ 64) (hb : b < w.heap.size) (hr : ∀ i, i < n → w.cell? ⟨b, i, none⟩ = some (.bool (f i))) :
    Calls Try.prog 60 #[.bool false, .slice (some ⟨b, 0, none⟩) n cap] w (RetL (turnsL f false n) true w) := by
  have hd : decide (64 < ((n : Nat) : Int)) = false := by simp; omega
  obtain ⟨i0, hi, hz0, hz1, hz2⟩ := info_parts infoQ
  have HR := Lib.hid hr
  clear hr
  go_enter Try.func60, Try.ntmps60
  go_wp2
  go_loopw [6, 7] (fun o i wr => ∃ k : Nat, (k + 1 ≤ n ∨ k = 0) ∧ i = .int .i64 ((k + 1 : Nat) : Int) ∧ wr.ownsRow w.heap.size 2 1 o (turnsL f false (k + 1)).length ((turnsL f false (k + 1)).map (Value.int .i64)) ∧ Below w.heap.size w wr) (fun _ i _ => n - (intOf i).toNat)
  case atStart =>
    refine ⟨0, .inr rfl, rfl, ?_, Below.refl _ _⟩
    rw [turns_one]
    exact World.ownsRow_nil _ _ _ _
  case round =>
    obtain ⟨k, hk, rfl, hrow, hbw⟩ := hrel
    have HO := Lib.hid hrow
    have HB := Lib.hid hbw
    clear hrow hbw
    by_cases hlt : k + 1 < n
    · have hc1 := (HB.out.cell (p := ⟨b, k + 1, none⟩) hb).trans (HR.out (k + 1) hlt)
      have hc0 := (HB.out.cell (p := ⟨b, k, none⟩) hb).trans (HR.out k (by omega))
      have hw1 : wrap64 (((k + 1 : Nat) : Int) - 1) = ((k : Nat) : Int) := by unfold wrap64; omega
      have hlen := turns_len f false (k + 1)
      cases h1 : f (k + 1) <;> cases h0 : f k <;> rw [h1] at hc1 <;> rw [h0] at hc0
      · have HT := Lib.hid (turns_no (show turnAt f false (k + 1) = false by simp [turnAt, h1, h0]))
        clear h1 h0
        go_wp2
        go_roundw
        case rel => exact ⟨k + 1, .inl (by omega), by go_num, by rw [HT.out]; exact HO.out, HB.out⟩
        case measure => simp [intOf]; omega
      · have hA : turnAt f false (k + 1) = true := by simp [turnAt, h1, h0]
        have HT := Lib.hid (show (turnsL f false (k + 1 + 1)).map (Value.int .i64) = (turnsL f false (k + 1)).map (Value.int .i64) ++ [.int .i64 ((k + 1 : Nat) : Int)] by rw [turns_yes hA, List.map_append]; rfl)
        have HL := Lib.hid (show (turnsL f false (k + 1 + 1)).length = (turnsL f false (k + 1)).length + 1 by rw [turns_yes hA, List.length_append]; rfl)
        clear hA h1 h0
        generalize turnsL f false (k + 1) = xs at HO HT HL hlen
        go_wp2_with (at_builtin; go_loud (refine wpList_append_form (by rfl) (.tmp 32) (.tmp 34) 47 (by rfl) w.heap.size 2 i0 (.int .i64 0) 1 8 Try.underlying47 hi hz0 hz1 hz2 rfl (by decide) _ xs.length _ (by rfl) (HO.out.alloc _) ⟨wr.heap.size, 0, none⟩ 1 1 [_] (by rfl) rfl (new1 _ _ _) (fun v h => by rw [List.mem_singleton.1 h]; rfl) (by unfold maxLen; omega) (by omega) (by have := HB.out.size; simp; omega) (by omega) ?_); intro g' cap' w3 hown' hgrow)
        go_roundw
        case rel => exact ⟨k + 1, .inl (by omega), by go_num, by rw [HT.out, HL.out]; exact hown', Below.grown (HB.out.alloc HB.out.size _) hgrow (by have := HB.out.size; simp; omega) (fun i hi => (HO.out.lt i hi).1)⟩
        case measure => simp [intOf]; omega
      · have HT := Lib.hid (turns_no (show turnAt f false (k + 1) = false by simp [turnAt, h1, h0]))
        clear h1 h0
        go_wp2
        go_roundw
        case rel => exact ⟨k + 1, .inl (by omega), by go_num, by rw [HT.out]; exact HO.out, HB.out⟩
        case measure => simp [intOf]; omega
      · have HT := Lib.hid (turns_no (show turnAt f false (k + 1) = false by simp [turnAt, h1, h0]))
        clear h1 h0
        go_wp2
        go_roundw
        case rel => exact ⟨k + 1, .inl (by omega), by go_num, by rw [HT.out]; exact HO.out, HB.out⟩
        case measure => simp [intOf]; omega
    · have hkn : Hid (turnsL f false (k + 1) = turnsL f false n) := (show turnsL f false (k + 1) = turnsL f false n by
        rcases hk with hk | hk
        · rw [show k + 1 = n by omega]
        · subst hk
          have : n = 0 ∨ n = 1 := by omega
          rcases this with h | h
          · rw [h, turns_one]; rfl
          · rw [h])
      go_wp2
      go_ret2
      exact ⟨_, rfl, by rw [← hkn.out]; exact HO.out, HB.out⟩

theorem iTurns_out (a : Option Addr) (n cap : Nat) (to : Bool) (w : World) (hn : 64 < n) :
    Calls Try.prog 60 #[.bool to, .slice a n cap] w (RetL [] false w) := by
  have hd : decide (64 < ((n : Nat) : Int)) = true := by simp; omega
  go_enter Try.func60, Try.ntmps60
  go_wp2
  go_ret2
  exact RetL.bad (Below.refl _ _)

/-- The indices, where the list is not too long. -/
def riseL (f : Nat → Bool) (to : Bool) (n : Nat) : List Int := if n ≤ 64 then turnsL f to n else []
theorem rise_len (f : Nat → Bool) (to : Bool) (n : Nat) : (riseL f to n).length ≤ 64 := by
  unfold riseL
  split
  · have := turns_len f to n; omega
  · simp
end Go.Proofs.Ythlijhnplalflaa
