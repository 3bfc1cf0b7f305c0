/-
  Lists of integers that the call owns: found equal, marked, and asked for their marks. No condition.
-/
import Derived.Test.YthlijhnplalflaaOwnR
import Derived.Deep.RegionHeld3
import Derived.Deep.RegionWith
namespace Go.Proofs.Ythlijhnplalflaa
open Go.RowKit

theorem infoQ : (Try.prog.info? 2).map (fun i => (i.zero, i.size, i.bytes)) = some (some (.int .i64 0), 1, 8) := by kernel_rfl
/-- A list of its own is handed back, and a yes or no; nothing that was there is written. -/
def RetL (xs : List Int) (ok : Bool) (w : World) (e : Ending) (w' : World) : Prop :=
  ∃ v, e = .returned (.tuple #[v, .bool ok]) ∧ w'.ownsRow w.heap.size 2 1 v xs.length (xs.map (Value.int .i64)) ∧ Below w.heap.size w w'
theorem RetL.bad {w w' : World} (hb : Below w.heap.size w w') : RetL [] false w (.returned (.tuple #[.slice none 0 0, .bool false])) w' := ⟨_, rfl, World.ownsRow_nil _ _ _ _, hb⟩

set_option maxHeartbeats 1600000 in
theorem eqI (b1 o1 c1 b2 o2 c2 n : Nat) (f : Nat → Int) (w : World) (hn : n ≤ 1048576)
    (hr1 : ∀ i, i < n → w.cell? ⟨b1, o1 + i, none⟩ = some (.int .i64 (f i))) (hr2 : ∀ i, i < n → w.cell? ⟨b2, o2 + i, none⟩ = some (.int .i64 (f i))) :
    Calls Try.prog 30 #[.slice (some ⟨b1, o1, none⟩) n c1, .slice (some ⟨b2, o2, none⟩) n c2] w (RetV (.bool true) w) := by
  have HR1 := Lib.hid hr1
  have HR2 := Lib.hid hr2
  clear hr1 hr2
  go_enter Try.func30, Try.ntmps30
  go_wp2
  go_loopw [5] (fun i wr => ∃ k m : Nat, k ≤ n ∧ i = .int .i64 k ∧ wr = w.drewN m) (fun i _ => n - (intOf i).toNat)
  case atStart => exact ⟨0, 0, Nat.zero_le _, rfl, rfl⟩
  case round =>
    obtain ⟨k, m, hk, rfl, rfl⟩ := hrel
    by_cases hlt : k < n
    · have hc1 := HR1.out k hlt
      have hc2 := HR2.out k hlt
      have hlt' : ((k : Nat) : Int) < (n : Int) := by omega
      have hk0 : (0 : Int) ≤ (k : Int) := by omega
      go_wp2_with fail
      go_region
      all_goals
        go_wp2
        go_roundw
        case rel => exact ⟨k + 1, _, by omega, by go_num, rfl⟩
        case measure => simp [intOf]; omega
    · go_wp2
      go_ret
      exact RetV.mk _

theorem eqI0 (a1 a2 : Option Addr) (c1 c2 : Nat) (w : World) :
    Calls Try.prog 30 #[.slice a1 0 c1, .slice a2 0 c2] w (RetV (.bool true) w) := by
  go_enter Try.func30, Try.ntmps30
  go_wp2
  go_loopw [5] (fun i wr => i = .int .i64 0 ∧ wr = w) (fun i _ => 0)
  case atStart => exact ⟨rfl, rfl⟩
  case round =>
    obtain ⟨rfl, rfl⟩ := hrel
    go_wp2
    go_ret
    exact RetV.mk0

theorem row_int {w : World} {b g cap : Nat} {xs : List Int} (h : w.ownsRow b 2 1 (.slice (some ⟨g, 0, none⟩) xs.length cap) xs.length (xs.map (Value.int .i64))) (i : Nat) (hi : i < xs.length) : w.cell? ⟨g, i, none⟩ = some (.int .i64 (xs.getD i 0)) :=
  row_cell h (by rw [List.getElem?_map, List.getElem?_eq_getElem hi]; simp [hi])

/-- Two rows of the same numbers are found equal. -/
theorem eqO {w : World} {b1 b2 : Nat} {v1 v2 : Value} {xs : List Int} (hn : xs.length ≤ 1048576) (h1 : w.ownsRow b1 2 1 v1 xs.length (xs.map (Value.int .i64))) (h2 : w.ownsRow b2 2 1 v2 xs.length (xs.map (Value.int .i64))) :
    Calls Try.prog 30 #[v1, v2] w (RetV (.bool true) w) := by
  rcases Nat.eq_zero_or_pos xs.length with h0 | h0
  · rw [h0] at h1 h2
    obtain ⟨a1, c1, rfl⟩ := row_zero h1
    obtain ⟨a2, c2, rfl⟩ := row_zero h2
    exact eqI0 a1 a2 c1 c2 w
  · obtain ⟨g1, c1, rfl, _⟩ := h1.form h0
    obtain ⟨g2, c2, rfl, _⟩ := h2.form h0
    exact eqI g1 0 c1 g2 0 c2 xs.length (fun i => xs.getD i 0) w hn (fun i hi => by rw [Nat.zero_add]; exact row_int h1 i hi) (fun i hi => by rw [Nat.zero_add]; exact row_int h2 i hi)

/-- The marks: the first k of the numbers are marked. -/
def marks (xs : List Int) (k : Nat) : List Value := (List.range xs.length).map fun i => Value.int .i64 (if i < k then 1 + (i : Int) else xs.getD i 0)
theorem marks_zero (xs : List Int) : xs.map (Value.int .i64) = marks xs 0 := by
  unfold marks
  apply List.ext_getElem
  · simp
  · intro i h1 h2
    simp at h1
    simp [h1]
theorem marks_set (xs : List Int) (k : Nat) : (marks xs k).set k (.int .i64 (1 + (k : Int))) = marks xs (k + 1) := by
  unfold marks
  apply List.ext_getElem
  · simp
  · intro i h1 h2
    simp at h1
    simp only [List.getElem_set, List.getElem_map, List.getElem_range]
    by_cases e : k = i
    · subst e; simp
    · have : (i < k + 1) ↔ (i < k) := by omega
      simp [e, this]
theorem marks_get (xs : List Int) (k i : Nat) (h : i < xs.length) : (marks xs k)[i]? = some (.int .i64 (if i < k then 1 + (i : Int) else xs.getD i 0)) := by
  unfold marks; rw [List.getElem?_map, List.getElem?_range h]; rfl

theorem markO {w : World} {b : Nat} {v : Value} {xs : List Int} (hn : xs.length ≤ 1048576) (hb : b ≤ w.heap.size) (h : w.ownsRow b 2 1 v xs.length (xs.map (Value.int .i64))) :
    Calls Try.prog 33 #[v, .int .i64 1] w fun e w' => e = .returned (.int .i64 (1 + (xs.length : Int))) ∧ w'.ownsRow b 2 1 v xs.length (marks xs xs.length) ∧ Below b w w' := by
  rcases Nat.eq_zero_or_pos xs.length with h0 | h0
  · obtain rfl : xs = [] := List.length_eq_zero_iff.1 h0
    obtain ⟨a, c, rfl⟩ := row_zero h
    have HR := Lib.hid h
    clear h
    go_enter Try.func33, Try.ntmps33
    go_wp2
    go_loopw [1, 5] (fun q i wr => q = .int .i64 1 ∧ i = .int .i64 0 ∧ wr = w) (fun _ i _ => 0)
    case atStart => exact ⟨rfl, rfl, rfl⟩
    case round =>
      obtain ⟨rfl, rfl, rfl⟩ := hrel
      go_wp2
      go_ret
      exact ⟨rfl, HR.out, Below.refl _ _⟩
  · obtain ⟨g, cap, rfl, hg, hgl⟩ := h.form h0
    rw [marks_zero] at h
    have HR := Lib.hid h
    clear h
    go_enter Try.func33, Try.ntmps33
    go_wp2
    go_loopw [1, 5] (fun q i wr => ∃ k : Nat, k ≤ xs.length ∧ q = .int .i64 (1 + (k : Int)) ∧ i = .int .i64 (k : Nat) ∧ wr.ownsRow b 2 1 (.slice (some ⟨g, 0, none⟩) xs.length cap) xs.length (marks xs k) ∧ Below b w wr) (fun _ i _ => xs.length - (intOf i).toNat)
    case atStart => exact ⟨0, Nat.zero_le _, rfl, rfl, HR.out, Below.refl _ _⟩
    case round =>
      obtain ⟨k, hk, rfl, rfl, hrow, hbw⟩ := hrel
      have HO := Lib.hid hrow
      have HB := Lib.hid hbw
      by_cases hlt : k < xs.length
      · have hc := row_cell hrow (marks_get xs k k hlt)
        have hf := hrow.frozenAt k
        have hgk : g < wr.heap.size := World.block_lt_of_cell? _ _ hc
        have hw1 : wrap64 (1 + (k : Int) + 1) = 1 + ((k + 1 : Nat) : Int) := by unfold wrap64; omega
        have HW := Lib.hid hw1
        clear hrow hbw hw1
        go_wp2
        go_roundw
        case rel => exact ⟨k + 1, by omega, by go_num, by go_num, by rw [← marks_set xs k]; exact (HO.out.stored k _).1, HB.out.setCell hg _⟩
        case measure => simp [intOf]; omega
      · have hkn : k = xs.length := by omega
        subst hkn
        clear hrow hbw
        go_wp2
        go_ret
        exact ⟨rfl, HO.out, HB.out⟩

theorem heldO {w : World} {b : Nat} {v : Value} {xs : List Int} (hn : xs.length ≤ 1048576) (h : w.ownsRow b 2 1 v xs.length (marks xs xs.length)) :
    Calls Try.prog 34 #[v, .int .i64 1] w (RetV (.int .i64 (1 + (xs.length : Int))) w) := by
  rcases Nat.eq_zero_or_pos xs.length with h0 | h0
  · obtain rfl : xs = [] := List.length_eq_zero_iff.1 h0
    obtain ⟨a, c, rfl⟩ := row_zero h
    clear h
    go_enter Try.func34, Try.ntmps34
    go_wp2
    go_loopw [1, 5] (fun q i wr => q = .int .i64 1 ∧ i = .int .i64 0 ∧ wr = w) (fun _ i _ => 0)
    case atStart => exact ⟨rfl, rfl, rfl⟩
    case round =>
      obtain ⟨rfl, rfl, rfl⟩ := hrel
      go_wp2
      go_ret
      exact RetV.mk0
  · obtain ⟨g, cap, rfl, _, _⟩ := h.form h0
    have HO := Lib.hid h
    clear h
    go_enter Try.func34, Try.ntmps34
    go_wp2
    go_loopw [1, 5] (fun q i wr => ∃ k : Nat, k ≤ xs.length ∧ q = .int .i64 (1 + (k : Int)) ∧ i = .int .i64 (k : Nat) ∧ wr = w) (fun _ i _ => xs.length - (intOf i).toNat)
    case atStart => exact ⟨0, Nat.zero_le _, rfl, rfl, rfl⟩
    case round =>
      obtain ⟨k, hk, rfl, rfl, rfl⟩ := hrel
      by_cases hlt : k < xs.length
      · have hc := row_cell HO.out (marks_get xs xs.length k hlt)
        rw [if_pos hlt] at hc
        go_wp2
        go_roundw
        case rel => exact ⟨k + 1, by omega, by go_num, by go_num, trivial⟩
        case measure => simp [intOf]; omega
      · have hkn : k = xs.length := by omega
        subst hkn
        go_wp2
        go_ret
        exact RetV.mk0

end Go.Proofs.Ythlijhnplalflaa
