/-
  Lists of numbers: copies, and their comparison. No condition.
-/
import Derived.Test.YtmegolkpnmpbiaaDoorSame
import Derived.Lib.Hide
import Derived.WalkKit
import Derived.Deep.RegionHeld3
import Derived.Deep.RegionWith
namespace Go.Proofs.YtmegolkpnmpbiaaDoor
open Go.RowKit

theorem infoF : (Tryd.prog.info? 33).map (fun i => (i.zero, i.size, i.bytes)) = some (some (.float .f32 0), 1, 4) := by kernel_rfl

/-- A row of n words, of which the first k are those of f, the rest zeros. -/
def arrK (f : Nat → Nat) (k n : Nat) : Array Value := ((List.range n).map fun i => Value.float .f32 (if i < k then f i else 0)).toArray

theorem arrK_get (f : Nat → Nat) (k n i : Nat) (h : i < n) : (arrK f k n)[i]? = some (.float .f32 (if i < k then f i else 0)) := by
  simp [arrK, h]
theorem arrK_set (f : Nat → Nat) (k n : Nat) : (arrK f k n).setIfInBounds k (.float .f32 (f k)) = arrK f (k + 1) n := by
  apply Array.ext
  · simp [arrK]
  · intro i h1 h2
    simp only [arrK, Array.size_setIfInBounds, List.size_toArray, List.length_map, List.length_range] at h1 h2
    simp only [arrK, Array.getElem_setIfInBounds, List.size_toArray, List.length_map, List.length_range, h1, List.getElem_toArray, List.getElem_map, List.getElem_range]
    by_cases e : k = i
    · subst e; simp
    · have : (i < k + 1) ↔ (i < k) := by omega
      simp [e, this]

theorem mk_run (n : Nat) (hn : n ≤ 1048576) (w : World) : (Instr.makeSlice 28 (.int .i64 (n : Int)) (.int .i64 (n : Int))).run Tryd.prog w = .ok (.slice (some ⟨w.heap.size, 0, none⟩) n n) (w.alloc (.cells (arrK (fun _ => 0) 0 n) 33)) := by
  obtain ⟨i0, hi, hz0, hz1, hz2⟩ := info_parts infoF
  rw [run_make w 28 33 i0 (.float .f32 0) Tryd.underlying28 hi hz0 .i64 .i64 n n (by omega) (by omega) (by rw [hz2]; omega) (by omega)]
  have : madeCells (Value.float .f32 0).cells (n * 1) = arrK (fun _ => 0) 0 n := by
    have h := toList_madeCells_one (Value.float .f32 0) n
    rw [Nat.mul_one]
    show madeCells #[Value.float .f32 0] n = _
    rw [← Array.toList_inj, h]
    simp [arrK, List.map_const']
  rw [hz1, Int.toNat_natCast, this]

theorem arrK_zero (f : Nat → Nat) (n : Nat) : arrK (fun _ => 0) 0 n = arrK f 0 n := by simp [arrK]

set_option maxHeartbeats 800000 in
theorem toF (b off n cap : Nat) (f : Nat → Nat) (w : World) (hn : n ≤ 1048576) (hb : b < w.heap.size) (hr : ∀ i, i < n → w.cell? ⟨b, off + i, none⟩ = some (.float .f32 (f i))) :
    Calls Tryd.prog 13 #[.slice (some ⟨b, off, none⟩) n cap] w fun e w' => e = .returned (.slice (some ⟨w.heap.size, 0, none⟩) n n) ∧ w' = w.alloc (.cells (arrK f n n) 33) := by
  have hmk := mk_run n hn
  have hst := run_store_float Tryd.prog
  have HR := Lib.hid hr
  clear hr
  go_enter Tryd.func13, Tryd.ntmps13
  go_wp2
  go_loopw [4] (fun i wr => ∃ k : Nat, k ≤ n ∧ i = .int .i64 k ∧ wr = w.alloc (.cells (arrK f k n) 33)) (fun i _ => n - (intOf i).toNat)
  case atStart => exact ⟨0, Nat.zero_le _, rfl, by rw [arrK_zero f]⟩
  case round =>
    obtain ⟨k, hk, rfl, rfl⟩ := hrel
    by_cases hlt : k < n
    · have hc := HR.out k hlt
      have hg := arrK_get f k n k hlt
      have HS := Lib.hid (arrK_set f k n)
      go_wp2
      go_roundw
      case rel => exact ⟨k + 1, by omega, by go_num, by rw [← HS.out]⟩
      case measure => simp [intOf]; omega
    · have hkn : Hid (k = n) := (show k = n by omega)
      go_wp2
      go_ret
      exact ⟨rfl, by rw [hkn.out]⟩

theorem toF0 (a : Option Addr) (cap : Nat) (f : Nat → Nat) (w : World) :
    Calls Tryd.prog 13 #[.slice a 0 cap] w fun e w' => e = .returned (.slice (some ⟨w.heap.size, 0, none⟩) 0 0) ∧ w' = w.alloc (.cells (arrK f 0 0) 33) := by
  have hmk : ∀ w : World, (Instr.makeSlice 28 (.int .i64 0) (.int .i64 0)).run Tryd.prog w = .ok (.slice (some ⟨w.heap.size, 0, none⟩) 0 0) (w.alloc (.cells (arrK (fun _ => 0) 0 0) 33)) := mk_run 0 (by decide)
  go_enter Tryd.func13, Tryd.ntmps13
  go_wp2
  go_loopw [4] (fun i wr => i = .int .i64 0 ∧ wr = w.alloc (.cells (arrK f 0 0) 33)) (fun i _ => 0)
  case atStart => exact ⟨rfl, by rw [arrK_zero f]⟩
  case round =>
    obtain ⟨rfl, rfl⟩ := hrel
    go_wp2
    go_ret
    exact ⟨rfl, rfl⟩

/-- The cells of a slice: nothing is asked of an empty one. -/
def RowF (w : World) (a : Option Addr) (n : Nat) (f : Nat → Nat) : Prop := (n = 0) ∨ ∃ b off, a = some ⟨b, off, none⟩ ∧ b < w.heap.size ∧ ∀ i, i < n → w.cell? ⟨b, off + i, none⟩ = some (.float .f32 (f i))

theorem toF_any {a : Option Addr} {n : Nat} (cap : Nat) {f : Nat → Nat} {w : World} (hn : n ≤ 1048576) (h : RowF w a n f) :
    Calls Tryd.prog 13 #[.slice a n cap] w fun e w' => e = .returned (.slice (some ⟨w.heap.size, 0, none⟩) n n) ∧ w' = w.alloc (.cells (arrK f n n) 33) := by
  rcases h with rfl | ⟨b, off, rfl, hb, hr⟩
  · exact toF0 a cap f w
  · exact toF b off n cap f w hn hb hr

/-- The word that the conversion of a NaN draws. -/
def nw (x : Nat) (w : World) : Nat := (Question.nanConv .f64 x).cut (w.tape w.drawn (.nanConv .f64 x))
theorem is_nw (x : Nat) (w : World) : Is .f64 (nw x w) none := is_nanConv ..

theorem conv_nan {x : Nat} (h : nrm .f32 x = none) (w : World) : (convert 33 60 (.float .f32 x)).run Tryd.prog w = .ok (.float .f64 (nw x w)) (w.drewN 1) := by
  have hn : (FloatKind.f32.decode x).isNaN = true := by
    unfold nrm at h; split at h
    · assumption
    · cases h
  obtain ⟨sg, f, hd'⟩ := nan_cases hn
  have hs' := Tryd.underlying33
  have hd := Tryd.underlying60
  simp [convert, run_underlying hs', run_underlying hd, Conv.floatToFloat, hd', Question.forced, World.drew_is_drewN, nw]

theorem conv_num {x y : Nat} (hx : x < 2 ^ 32) (h : nrm .f32 x = some y) : ∃ z, (∀ w : World, (convert 33 60 (.float .f32 x)).run Tryd.prog w = .ok (.float .f64 z) w) ∧ Is .f64 z (cv .f32 .f64 (nrm .f32 x)) := by
  have ix : Is .f32 x (some y) := ⟨h, hx⟩
  have hf := fit_widen ix
  obtain rfl := ix.notNaN
  obtain ⟨r, hr⟩ := Option.isSome_iff_exists.1 (hf x rfl)
  exact ⟨r, fun w => run_convert_float_float w 33 60 .f32 .f64 x r und32 Tryd.underlying60 hr, by rw [h]; unfold cv; simp only [Option.bind_some, hr]; exact cv_notNaN (by decide) hr⟩

set_option maxHeartbeats 1600000 in
theorem eqF (b1 o1 c1 b2 o2 c2 n : Nat) (f : Nat → Nat) (w : World) (hn : n ≤ 1048576) (hw : ∀ i, i < n → f i < 2 ^ 32)
    (hr1 : ∀ i, i < n → w.cell? ⟨b1, o1 + i, none⟩ = some (.float .f32 (f i))) (hr2 : ∀ i, i < n → w.cell? ⟨b2, o2 + i, none⟩ = some (.float .f32 (f i))) :
    Calls Tryd.prog 15 #[.slice (some ⟨b1, o1, none⟩) n c1, .slice (some ⟨b2, o2, none⟩) n c2] w (RetV (.bool true) w) := by
  have HR1 := Lib.hid hr1
  have HR2 := Lib.hid hr2
  have HW := Lib.hid hw
  clear hr1 hr2 hw
  go_enter Tryd.func15, Tryd.ntmps15
  go_wp2
  go_loopw [5] (fun i wr => ∃ k m : Nat, k ≤ n ∧ i = .int .i64 k ∧ wr = w.drewN m) (fun i _ => n - (intOf i).toNat)
  case atStart => exact ⟨0, 0, Nat.zero_le _, rfl, rfl⟩
  case round =>
    obtain ⟨k, m, hk, rfl, rfl⟩ := hrel
    by_cases hlt : k < n
    · have hc1 := HR1.out k hlt
      have hc2 := HR2.out k hlt
      have hi : Is .f32 (f k) (nrm .f32 (f k)) := Is.self (HW.out k hlt)
      have hlt' : ((k : Nat) : Int) < (n : Int) := by omega
      have hk0 : (0 : Int) ≤ (k : Int) := by omega
      cases hv : nrm .f32 (f k) with
      | some y =>
        obtain ⟨z, hcv, hz⟩ := conv_num (HW.out k hlt) hv
        clear hv hi
        go_wp2_with fail
        go_region_with (go_at_call 34; refine (sameFloat_any hz hz _).mono ?_; rintro eq wq ⟨nq, rfl, rfl⟩)
        all_goals
          go_wp2
          go_roundw
          case rel => exact ⟨k + 1, _, by omega, by go_num, rfl⟩
          case measure => simp [intOf]; omega
      | none =>
        have hcv := conv_nan hv
        clear hv hi
        go_wp2_with fail
        go_region_with (go_at_call 34; refine (sameFloat_any (is_nw _ _) (is_nw _ _) _).mono ?_; rintro eq wq ⟨nq, rfl, rfl⟩)
        all_goals
          go_wp2
          go_roundw
          case rel => exact ⟨k + 1, _, by omega, by go_num, rfl⟩
          case measure => simp [intOf]; omega
    · go_wp2
      go_ret
      exact RetV.mk _
theorem RowF.below {w W : World} {a : Option Addr} {n : Nat} {f : Nat → Nat} (h : RowF w a n f) (hb : Below w.heap.size w W) : RowF W a n f := by
  rcases h with h | ⟨b, off, rfl, hlt, hr⟩
  · exact .inl h
  · exact .inr ⟨b, off, rfl, Nat.lt_of_lt_of_le hlt hb.size, fun i hi => (hb.cell (p := ⟨b, off + i, none⟩) hlt).trans (hr i hi)⟩

theorem arrK_row (f : Nat → Nat) (n i : Nat) (h : i < n) : (arrK f n n)[i]? = some (.float .f32 (f i)) := by rw [arrK_get f n n i h, if_pos h]
end Go.Proofs.YtmegolkpnmpbiaaDoor
