/-
  Lists of integers: copies, and their comparison. No condition.
-/
import Derived.Test.YtmegolkpnmpbiaaDoorBase
import Derived.Lib.Hide
import Derived.WalkKit
import Derived.Deep.RegionHeld3
import Derived.Deep.RegionWith
namespace Go.Proofs.YtmegolkpnmpbiaaDoor
open Go.RowKit

theorem infoI : (Tryd.prog.info? 2).map (fun i => (i.zero, i.size, i.bytes)) = some (some (.int .i64 0), 1, 8) := by kernel_rfl

/-- A row of n integers, of which the first k are those of f, the rest zeros. -/
def arrI (f : Nat → Int) (k n : Nat) : Array Value := ((List.range n).map fun i => Value.int .i64 (if i < k then f i else 0)).toArray

theorem arrI_get (f : Nat → Int) (k n i : Nat) (h : i < n) : (arrI f k n)[i]? = some (.int .i64 (if i < k then f i else 0)) := by
  simp [arrI, h]
theorem arrI_set (f : Nat → Int) (k n : Nat) : (arrI f k n).setIfInBounds k (.int .i64 (f k)) = arrI f (k + 1) n := by
  apply Array.ext
  · simp [arrI]
  · intro i h1 h2
    simp only [arrI, Array.size_setIfInBounds, List.size_toArray, List.length_map, List.length_range] at h1 h2
    simp only [arrI, Array.getElem_setIfInBounds, List.size_toArray, List.length_map, List.length_range, h1, List.getElem_toArray, List.getElem_map, List.getElem_range]
    by_cases e : k = i
    · subst e; simp
    · have : (i < k + 1) ↔ (i < k) := by omega
      simp [e, this]

theorem mk_runI (n : Nat) (hn : n ≤ 1048576) (w : World) : (Instr.makeSlice 22 (.int .i64 (n : Int)) (.int .i64 (n : Int))).run Tryd.prog w = .ok (.slice (some ⟨w.heap.size, 0, none⟩) n n) (w.alloc (.cells (arrI (fun _ => 0) 0 n) 2)) := by
  obtain ⟨i0, hi, hz0, hz1, hz2⟩ := info_parts infoI
  rw [run_make w 22 2 i0 (.int .i64 0) Tryd.underlying22 hi hz0 .i64 .i64 n n (by omega) (by omega) (by rw [hz2]; omega) (by omega)]
  have : madeCells (Value.int .i64 0).cells (n * 1) = arrI (fun _ => 0) 0 n := by
    have h := toList_madeCells_one (Value.int .i64 0) n
    rw [Nat.mul_one]
    show madeCells #[Value.int .i64 0] n = _
    rw [← Array.toList_inj, h]
    simp [arrI, List.map_const']
  rw [hz1, Int.toNat_natCast, this]

theorem arrI_zero (f : Nat → Int) (n : Nat) : arrI (fun _ => 0) 0 n = arrI f 0 n := by simp [arrI]

set_option maxHeartbeats 800000 in
theorem toI (b off n cap : Nat) (f : Nat → Int) (w : World) (hn : n ≤ 1048576) (hb : b < w.heap.size) (hr : ∀ i, i < n → w.cell? ⟨b, off + i, none⟩ = some (.int .i64 (f i))) :
    Calls Tryd.prog 9 #[.slice (some ⟨b, off, none⟩) n cap] w fun e w' => e = .returned (.slice (some ⟨w.heap.size, 0, none⟩) n n) ∧ w' = w.alloc (.cells (arrI f n n) 2) := by
  have hmk := mk_runI n hn
  have HR := Lib.hid hr
  clear hr
  go_enter Tryd.func9, Tryd.ntmps9
  go_wp2
  go_loopw [4] (fun i wr => ∃ k : Nat, k ≤ n ∧ i = .int .i64 k ∧ wr = w.alloc (.cells (arrI f k n) 2)) (fun i _ => n - (intOf i).toNat)
  case atStart => exact ⟨0, Nat.zero_le _, rfl, by rw [arrI_zero f]⟩
  case round =>
    obtain ⟨k, hk, rfl, rfl⟩ := hrel
    by_cases hlt : k < n
    · have hc := HR.out k hlt
      have hg := arrI_get f k n k hlt
      have HS := Lib.hid (arrI_set f k n)
      go_wp2
      go_roundw
      case rel => exact ⟨k + 1, by omega, by go_num, by rw [← HS.out]⟩
      case measure => simp [intOf]; omega
    · have hkn : Hid (k = n) := (show k = n by omega)
      go_wp2
      go_ret
      exact ⟨rfl, by rw [hkn.out]⟩

theorem toI0 (a : Option Addr) (cap : Nat) (f : Nat → Int) (w : World) :
    Calls Tryd.prog 9 #[.slice a 0 cap] w fun e w' => e = .returned (.slice (some ⟨w.heap.size, 0, none⟩) 0 0) ∧ w' = w.alloc (.cells (arrI f 0 0) 2) := by
  have hmk : ∀ w : World, (Instr.makeSlice 22 (.int .i64 0) (.int .i64 0)).run Tryd.prog w = .ok (.slice (some ⟨w.heap.size, 0, none⟩) 0 0) (w.alloc (.cells (arrI (fun _ => 0) 0 0) 2)) := mk_runI 0 (by decide)
  go_enter Tryd.func9, Tryd.ntmps9
  go_wp2
  go_loopw [4] (fun i wr => i = .int .i64 0 ∧ wr = w.alloc (.cells (arrI f 0 0) 2)) (fun i _ => 0)
  case atStart => exact ⟨rfl, by rw [arrI_zero f]⟩
  case round =>
    obtain ⟨rfl, rfl⟩ := hrel
    go_wp2
    go_ret
    exact ⟨rfl, rfl⟩

/-- The cells of a slice: nothing is asked of an empty one. -/
def RowI (w : World) (a : Option Addr) (n : Nat) (f : Nat → Int) : Prop := (n = 0) ∨ ∃ b off, a = some ⟨b, off, none⟩ ∧ b < w.heap.size ∧ ∀ i, i < n → w.cell? ⟨b, off + i, none⟩ = some (.int .i64 (f i))

theorem toI_any {a : Option Addr} {n : Nat} (cap : Nat) {f : Nat → Int} {w : World} (hn : n ≤ 1048576) (h : RowI w a n f) :
    Calls Tryd.prog 9 #[.slice a n cap] w fun e w' => e = .returned (.slice (some ⟨w.heap.size, 0, none⟩) n n) ∧ w' = w.alloc (.cells (arrI f n n) 2) := by
  rcases h with rfl | ⟨b, off, rfl, hb, hr⟩
  · exact toI0 a cap f w
  · exact toI b off n cap f w hn hb hr

theorem RowI.below {w W : World} {a : Option Addr} {n : Nat} {f : Nat → Int} (h : RowI w a n f) (hb : Below w.heap.size w W) : RowI W a n f := by
  rcases h with h | ⟨b, off, rfl, hlt, hr⟩
  · exact .inl h
  · exact .inr ⟨b, off, rfl, Nat.lt_of_lt_of_le hlt hb.size, fun i hi => (hb.cell (p := ⟨b, off + i, none⟩) hlt).trans (hr i hi)⟩
theorem arrI_row (f : Nat → Int) (n i : Nat) (h : i < n) : (arrI f n n)[i]? = some (.int .i64 (f i)) := by rw [arrI_get f n n i h, if_pos h]

set_option maxHeartbeats 1600000 in
theorem eqI (b1 o1 c1 b2 o2 c2 n : Nat) (f : Nat → Int) (w : World) (hn : n ≤ 1048576)
    (hr1 : ∀ i, i < n → w.cell? ⟨b1, o1 + i, none⟩ = some (.int .i64 (f i))) (hr2 : ∀ i, i < n → w.cell? ⟨b2, o2 + i, none⟩ = some (.int .i64 (f i))) :
    Calls Tryd.prog 11 #[.slice (some ⟨b1, o1, none⟩) n c1, .slice (some ⟨b2, o2, none⟩) n c2] w (RetV (.bool true) w) := by
  have HR1 := Lib.hid hr1
  have HR2 := Lib.hid hr2
  clear hr1 hr2
  go_enter Tryd.func11, Tryd.ntmps11
  go_wp2
  go_loopw [5] (fun i wr => ∃ k m : Nat, k ≤ n ∧ i = .int .i64 k ∧ wr = w.drewN m) (fun i _ => n - (intOf i).toNat)
  case atStart => exact ⟨0, 0, Nat.zero_le _, rfl, rfl⟩
  case round =>
    obtain ⟨k, m, hk, rfl, rfl⟩ := hrel
    by_cases hlt : k < n
    · have hc1 := HR1.out k hlt
      have hc2 := HR2.out k hlt
      have hlt' : ((k : Nat) : Int) < (n : Int) := by omega
      have hk0 : (0 : Int) ≤ (k : Int) := by omega
      go_wp2_with fail
      go_region
      all_goals
        go_wp2
        go_roundw
        case rel => exact ⟨k + 1, _, by omega, by go_num, rfl⟩
        case measure => simp [intOf]; omega
    · go_wp2
      go_ret
      exact RetV.mk _
end Go.Proofs.YtmegolkpnmpbiaaDoor
