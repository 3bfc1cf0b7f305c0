/-
  Lists of yes and no: copies, their comparison, and their marks. No condition.
-/
import Derived.Test.YthlijhnplalflaaOwnR
import Derived.Lib.Hide
import Derived.WalkKit
import Derived.Deep.RegionHeld3
import Derived.Deep.RegionWith
namespace Go.Proofs.Ythlijhnplalflaa
open Go.RowKit

theorem infoBl : (Try.prog.info? 4).map (fun i => (i.zero, i.size, i.bytes)) = some (some (.bool false), 1, 1) := by kernel_rfl

/-- A row of n integers, of which the first k are those of f, the rest zeros. -/
def arrT (f : Nat → Bool) (k n : Nat) : Array Value := ((List.range n).map fun i => Value.bool (if i < k then f i else false)).toArray

theorem arrT_get (f : Nat → Bool) (k n i : Nat) (h : i < n) : (arrT f k n)[i]? = some (.bool (if i < k then f i else false)) := by
  simp [arrT, h]
theorem arrT_set (f : Nat → Bool) (k n : Nat) : (arrT f k n).setIfInBounds k (.bool (f k)) = arrT f (k + 1) n := by
  apply Array.ext
  · simp [arrT]
  · intro i h1 h2
    simp only [arrT, Array.size_setIfInBounds, List.size_toArray, List.length_map, List.length_range] at h1 h2
    simp only [arrT, Array.getElem_setIfInBounds, List.size_toArray, List.length_map, List.length_range, h1, List.getElem_toArray, List.getElem_map, List.getElem_range]
    by_cases e : k = i
    · subst e; simp
    · have : (i < k + 1) ↔ (i < k) := by omega
      simp [e, this]

theorem mk_runT (n : Nat) (hn : n ≤ 1048576) (w : World) : (Instr.makeSlice 46 (.int .i64 (n : Int)) (.int .i64 (n : Int))).run Try.prog w = .ok (.slice (some ⟨w.heap.size, 0, none⟩) n n) (w.alloc (.cells (arrT (fun _ => false) 0 n) 4)) := by
  obtain ⟨i0, hi, hz0, hz1, hz2⟩ := info_parts infoBl
  rw [run_make w 46 4 i0 (.bool false) Try.underlying46 hi hz0 .i64 .i64 n n (by omega) (by omega) (by rw [hz2]; omega) (by omega)]
  have : madeCells (Value.bool false).cells (n * 1) = arrT (fun _ => false) 0 n := by
    have h := toList_madeCells_one (Value.bool false) n
    rw [Nat.mul_one]
    show madeCells #[Value.bool false] n = _
    rw [← Array.toList_inj, h]
    simp [arrT, List.map_const']
  rw [hz1, Int.toNat_natCast, this]

theorem arrT_zero (f : Nat → Bool) (n : Nat) : arrT (fun _ => false) 0 n = arrT f 0 n := by simp [arrT]

set_option maxHeartbeats 800000 in
theorem toT (b off n cap : Nat) (f : Nat → Bool) (w : World) (hn : n ≤ 1048576) (hb : b < w.heap.size) (hr : ∀ i, i < n → w.cell? ⟨b, off + i, none⟩ = some (.bool (f i))) :
    Calls Try.prog 28 #[.slice (some ⟨b, off, none⟩) n cap] w fun e w' => e = .returned (.slice (some ⟨w.heap.size, 0, none⟩) n n) ∧ w' = w.alloc (.cells (arrT f n n) 4) := by
  have hmk := mk_runT n hn
  have HR := Lib.hid hr
  clear hr
  go_enter Try.func28, Try.ntmps28
  go_wp2
  go_loopw [4] (fun i wr => ∃ k : Nat, k ≤ n ∧ i = .int .i64 k ∧ wr = w.alloc (.cells (arrT f k n) 4)) (fun i _ => n - (intOf i).toNat)
  case atStart => exact ⟨0, Nat.zero_le _, rfl, by rw [arrT_zero f]⟩
  case round =>
    obtain ⟨k, hk, rfl, rfl⟩ := hrel
    by_cases hlt : k < n
    · have hc := HR.out k hlt
      have hg := arrT_get f k n k hlt
      have HS := Lib.hid (arrT_set f k n)
      go_wp2
      go_roundw
      case rel => exact ⟨k + 1, by omega, by go_num, by rw [← HS.out]⟩
      case measure => simp [intOf]; omega
    · have hkn : Hid (k = n) := (show k = n by omega)
      go_wp2
      go_ret
      exact ⟨rfl, by rw [hkn.out]⟩

theorem toT0 (a : Option Addr) (cap : Nat) (f : Nat → Bool) (w : World) :
    Calls Try.prog 28 #[.slice a 0 cap] w fun e w' => e = .returned (.slice (some ⟨w.heap.size, 0, none⟩) 0 0) ∧ w' = w.alloc (.cells (arrT f 0 0) 4) := by
  have hmk : ∀ w : World, (Instr.makeSlice 46 (.int .i64 0) (.int .i64 0)).run Try.prog w = .ok (.slice (some ⟨w.heap.size, 0, none⟩) 0 0) (w.alloc (.cells (arrT (fun _ => false) 0 0) 4)) := mk_runT 0 (by decide)
  go_enter Try.func28, Try.ntmps28
  go_wp2
  go_loopw [4] (fun i wr => i = .int .i64 0 ∧ wr = w.alloc (.cells (arrT f 0 0) 4)) (fun i _ => 0)
  case atStart => exact ⟨rfl, by rw [arrT_zero f]⟩
  case round =>
    obtain ⟨rfl, rfl⟩ := hrel
    go_wp2
    go_ret
    exact ⟨rfl, rfl⟩

/-- The cells of a slice: nothing is asked of an empty one. -/
def RowT (w : World) (a : Option Addr) (n : Nat) (f : Nat → Bool) : Prop := (n = 0) ∨ ∃ b off, a = some ⟨b, off, none⟩ ∧ b < w.heap.size ∧ ∀ i, i < n → w.cell? ⟨b, off + i, none⟩ = some (.bool (f i))

theorem toT_any {a : Option Addr} {n : Nat} (cap : Nat) {f : Nat → Bool} {w : World} (hn : n ≤ 1048576) (h : RowT w a n f) :
    Calls Try.prog 28 #[.slice a n cap] w fun e w' => e = .returned (.slice (some ⟨w.heap.size, 0, none⟩) n n) ∧ w' = w.alloc (.cells (arrT f n n) 4) := by
  rcases h with rfl | ⟨b, off, rfl, hb, hr⟩
  · exact toT0 a cap f w
  · exact toT b off n cap f w hn hb hr

theorem RowT.below {w W : World} {a : Option Addr} {n : Nat} {f : Nat → Bool} (h : RowT w a n f) (hb : Below w.heap.size w W) : RowT W a n f := by
  rcases h with h | ⟨b, off, rfl, hlt, hr⟩
  · exact .inl h
  · exact .inr ⟨b, off, rfl, Nat.lt_of_lt_of_le hlt hb.size, fun i hi => (hb.cell (p := ⟨b, off + i, none⟩) hlt).trans (hr i hi)⟩
theorem arrT_row (f : Nat → Bool) (n i : Nat) (h : i < n) : (arrT f n n)[i]? = some (.bool (f i)) := by rw [arrT_get f n n i h, if_pos h]

set_option maxHeartbeats 1600000 in
theorem eqT (b1 o1 c1 b2 o2 c2 n : Nat) (f : Nat → Bool) (w : World) (hn : n ≤ 1048576)
    (hr1 : ∀ i, i < n → w.cell? ⟨b1, o1 + i, none⟩ = some (.bool (f i))) (hr2 : ∀ i, i < n → w.cell? ⟨b2, o2 + i, none⟩ = some (.bool (f i))) :
    Calls Try.prog 31 #[.slice (some ⟨b1, o1, none⟩) n c1, .slice (some ⟨b2, o2, none⟩) n c2] w (RetV (.bool true) w) := by
  have HR1 := Lib.hid hr1
  have HR2 := Lib.hid hr2
  clear hr1 hr2
  go_enter Try.func31, Try.ntmps31
  go_wp2
  go_loopw [5] (fun i wr => ∃ k m : Nat, k ≤ n ∧ i = .int .i64 k ∧ wr = w.drewN m) (fun i _ => n - (intOf i).toNat)
  case atStart => exact ⟨0, 0, Nat.zero_le _, rfl, rfl⟩
  case round =>
    obtain ⟨k, m, hk, rfl, rfl⟩ := hrel
    by_cases hlt : k < n
    · have hc1 := HR1.out k hlt
      have hc2 := HR2.out k hlt
      have hlt' : ((k : Nat) : Int) < (n : Int) := by omega
      have hk0 : (0 : Int) ≤ (k : Int) := by omega
      go_wp2_with fail
      go_region
      all_goals
        go_wp2
        go_roundw
        case rel => exact ⟨k + 1, _, by omega, by go_num, rfl⟩
        case measure => simp [intOf]; omega
    · go_wp2
      go_ret
      exact RetV.mk _
theorem eqT0 (a1 a2 : Option Addr) (c1 c2 : Nat) (w : World) :
    Calls Try.prog 31 #[.slice a1 0 c1, .slice a2 0 c2] w (RetV (.bool true) w) := by
  go_enter Try.func31, Try.ntmps31
  go_wp2
  go_loopw [5] (fun i wr => i = .int .i64 0 ∧ wr = w) (fun i _ => 0)
  case atStart => exact ⟨rfl, rfl⟩
  case round =>
    obtain ⟨rfl, rfl⟩ := hrel
    go_wp2
    go_ret
    exact RetV.mk0

/-- The cells of a block are yes or no, and nothing of it is frozen. -/
def YesNo (w : World) (b n : Nat) : Prop := b < w.heap.size ∧ (∀ i, i < n → ∃ y, w.cell? ⟨b, i, none⟩ = some (.bool y)) ∧ ∀ i, w.frozen? ⟨b, i, none⟩ = false
theorem YesNo.set {w : World} {b n : Nat} (h : YesNo w b n) (k : Nat) (y : Bool) : YesNo (w.setCell ⟨b, k, none⟩ (.bool y)) b n := by
  refine ⟨by simpa using h.1, fun i hi => ?_, fun i => by rw [World.frozen?_setCell]; exact h.2.2 i⟩
  obtain ⟨z, hz⟩ := h.2.1 i hi
  by_cases e : k = i
  · subst e
    exact ⟨y, World.cell?_setCell_same _ _ _ hz⟩
  · exact ⟨z, by rw [World.cell?_setCell_other _ _ _ _ (by intro q; cases q; exact e rfl)]; exact hz⟩
theorem YesNo.touch {w w' : World} {b n : Nat} (h : YesNo w b n) (hb : Below (b + 1) w w') : YesNo w' b n :=
  ⟨Nat.lt_of_lt_of_le h.1 hb.size, fun i hi => by obtain ⟨y, hy⟩ := h.2.1 i hi; exact ⟨y, (hb.cell (p := ⟨b, i, none⟩) (Nat.lt_succ_self b)).trans hy⟩, fun i => (hb.frozen (p := ⟨b, i, none⟩) (Nat.lt_succ_self b)).trans (h.2.2 i)⟩

set_option maxHeartbeats 1600000 in
theorem markT (b n cap : Nat) (w : World) (hn : n ≤ 1048576) (h : YesNo w b n) :
    Calls Try.prog 32 #[.slice (some ⟨b, 0, none⟩) n cap, .int .i64 1] w fun e w' => e = .returned (.int .i64 (1 + (n : Int))) ∧ Touch b w w' := by
  have HO := Lib.hid h
  clear h
  go_enter Try.func32, Try.ntmps32
  go_wp2
  go_loopw [1, 5] (fun q i wr => ∃ k : Nat, k ≤ n ∧ q = .int .i64 (1 + (k : Int)) ∧ i = .int .i64 (k : Nat) ∧ YesNo wr b n ∧ Touch b w wr) (fun _ i _ => n - (intOf i).toNat)
  case atStart => exact ⟨0, Nat.zero_le _, rfl, rfl, HO.out, Touch.refl _ _⟩
  case round =>
    obtain ⟨k, hk, rfl, rfl, hrow, ht⟩ := hrel
    by_cases hlt : k < n
    · obtain ⟨y, hc⟩ := hrow.2.1 k hlt
      have hf := hrow.2.2 k
      have HROW := Lib.hid hrow
      have HT := Lib.hid ht
      have hw1 : wrap64 (1 + (k : Int) + 1) = 1 + ((k + 1 : Nat) : Int) := by unfold wrap64; omega
      have HW := Lib.hid hw1
      clear hrow ht hw1
      go_wp2
      go_roundw
      case rel => exact ⟨k + 1, by omega, by go_num, by go_num, HROW.out.set k _, HT.out.setCell _ _⟩
      case measure => simp [intOf]; omega
    · have hkn : k = n := by omega
      subst hkn
      have HT := Lib.hid ht
      clear hrow ht
      go_wp2
      go_ret
      exact ⟨rfl, HT.out⟩
end Go.Proofs.Ythlijhnplalflaa
