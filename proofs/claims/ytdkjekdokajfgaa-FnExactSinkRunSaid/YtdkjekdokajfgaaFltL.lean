/-
  Lists of 32-bit numbers that the call owns: found equal, marked, and asked for their marks. No condition.
-/
import Derived.Test.YtdkjekdokajfgaaOwnR
import Derived.Test.YtdkjekdokajfgaaSame
import Derived.Deep.RegionHeld3
import Derived.Deep.RegionWith
namespace Go.Proofs.Ytdkjekdokajfgaa
open Go.RowKit

theorem infoF : (Try.prog.info? 22).map (fun i => (i.zero, i.size, i.bytes)) = some (some (.float .f32 0), 1, 4) := by kernel_rfl
/-- A list of its own is handed back, and two times a yes or no; nothing that was there is written. -/
def RetF2 (xs : List Nat) (b ok : Bool) (w : World) (e : Ending) (w' : World) : Prop :=
  ∃ v, e = .returned (.tuple #[v, .bool b, .bool ok]) ∧ w'.ownsRow w.heap.size 22 1 v xs.length (xs.map (Value.float .f32)) ∧ Below w.heap.size w w'
theorem RetF2.bad {w w' : World} (hb : Below w.heap.size w w') : RetF2 [] false false w (.returned (.tuple #[.slice none 0 0, .bool false, .bool false])) w' := ⟨_, rfl, World.ownsRow_nil _ _ _ _, hb⟩

/-- The word that the conversion of a NaN draws. -/
def nw (x : Nat) (w : World) : Nat := (Question.nanConv .f64 x).cut (w.tape w.drawn (.nanConv .f64 x))
theorem is_nw (x : Nat) (w : World) : Is .f64 (nw x w) none := is_nanConv ..

theorem conv_nan {x : Nat} (h : nrm .f32 x = none) (w : World) : (convert 22 42 (.float .f32 x)).run Try.prog w = .ok (.float .f64 (nw x w)) (w.drewN 1) := by
  have hn : (FloatKind.f32.decode x).isNaN = true := by
    unfold nrm at h; split at h
    · assumption
    · cases h
  obtain ⟨sg, f, hd'⟩ := nan_cases hn
  have hs' := Try.underlying22
  have hd := Try.underlying42
  simp [convert, run_underlying hs', run_underlying hd, Conv.floatToFloat, hd', Question.forced, World.drew_is_drewN, nw]

theorem conv_num {x y : Nat} (hx : x < 2 ^ 32) (h : nrm .f32 x = some y) : ∃ z, (∀ w : World, (convert 22 42 (.float .f32 x)).run Try.prog w = .ok (.float .f64 z) w) ∧ Is .f64 z (cv .f32 .f64 (nrm .f32 x)) := by
  have ix : Is .f32 x (some y) := ⟨h, hx⟩
  have hf := fit_widen ix
  obtain rfl := ix.notNaN
  obtain ⟨r, hr⟩ := Option.isSome_iff_exists.1 (hf x rfl)
  exact ⟨r, fun w => run_convert_float_float w 22 42 .f32 .f64 x r und32 Try.underlying42 hr, by rw [h]; unfold cv; simp only [Option.bind_some, hr]; exact cv_notNaN (by decide) hr⟩

set_option maxHeartbeats 1600000 in
theorem eqF (b1 o1 c1 b2 o2 c2 n : Nat) (f : Nat → Nat) (w : World) (hn : n ≤ 1048576) (hw : ∀ i, i < n → f i < 2 ^ 32)
    (hr1 : ∀ i, i < n → w.cell? ⟨b1, o1 + i, none⟩ = some (.float .f32 (f i))) (hr2 : ∀ i, i < n → w.cell? ⟨b2, o2 + i, none⟩ = some (.float .f32 (f i))) :
    Calls Try.prog 7 #[.slice (some ⟨b1, o1, none⟩) n c1, .slice (some ⟨b2, o2, none⟩) n c2] w (RetV (.bool true) w) := by
  have HR1 := Lib.hid hr1
  have HR2 := Lib.hid hr2
  have HW := Lib.hid hw
  clear hr1 hr2 hw
  go_enter Try.func7, Try.ntmps7
  go_wp2
  go_loopw [5] (fun i wr => ∃ k m : Nat, k ≤ n ∧ i = .int .i64 k ∧ wr = w.drewN m) (fun i _ => n - (intOf i).toNat)
  case atStart => exact ⟨0, 0, Nat.zero_le _, rfl, rfl⟩
  case round =>
    obtain ⟨k, m, hk, rfl, rfl⟩ := hrel
    by_cases hlt : k < n
    · have hc1 := HR1.out k hlt
      have hc2 := HR2.out k hlt
      have hi : Is .f32 (f k) (nrm .f32 (f k)) := Is.self (HW.out k hlt)
      have hlt' : ((k : Nat) : Int) < (n : Int) := by omega
      have hk0 : (0 : Int) ≤ (k : Int) := by omega
      cases hv : nrm .f32 (f k) with
      | some y =>
        obtain ⟨z, hcv, hz⟩ := conv_num (HW.out k hlt) hv
        clear hv hi
        go_wp2_with fail
        go_region_with (go_at_call 16; refine (sameFloat_any hz hz _).mono ?_; rintro eq wq ⟨nq, rfl, rfl⟩)
        all_goals
          go_wp2
          go_roundw
          case rel => exact ⟨k + 1, _, by omega, by go_num, rfl⟩
          case measure => simp [intOf]; omega
      | none =>
        have hcv := conv_nan hv
        clear hv hi
        go_wp2_with fail
        go_region_with (go_at_call 16; refine (sameFloat_any (is_nw _ _) (is_nw _ _) _).mono ?_; rintro eq wq ⟨nq, rfl, rfl⟩)
        all_goals
          go_wp2
          go_roundw
          case rel => exact ⟨k + 1, _, by omega, by go_num, rfl⟩
          case measure => simp [intOf]; omega
    · go_wp2
      go_ret
      exact RetV.mk _

def ifS (n : Int) : Option Nat := some (FloatKind.f32.nearest n)
theorem is_ifS (n : Int) : Is .f32 (FloatKind.f32.nearest n) (ifS n) := by
  refine ⟨?_, (show FloatKind.f32.format.write (.number (n < 0) n.natAbs 0) < _ from Ieee.Format.write_lt _ _)⟩
  have := write_notNaN .f32 (.number (n < 0) n.natAbs 0) rfl
  unfold nrm FloatKind.nearest ifS
  rw [if_neg (by rw [this]; decide)]
  rfl

theorem eqI0 (a1 a2 : Option Addr) (c1 c2 : Nat) (w : World) :
    Calls Try.prog 7 #[.slice a1 0 c1, .slice a2 0 c2] w (RetV (.bool true) w) := by
  go_enter Try.func7, Try.ntmps7
  go_wp2
  go_loopw [5] (fun i wr => i = .int .i64 0 ∧ wr = w) (fun i _ => 0)
  case atStart => exact ⟨rfl, rfl⟩
  case round =>
    obtain ⟨rfl, rfl⟩ := hrel
    go_wp2
    go_ret
    exact RetV.mk0

theorem row_int {w : World} {b g cap : Nat} {xs : List Nat} (h : w.ownsRow b 22 1 (.slice (some ⟨g, 0, none⟩) xs.length cap) xs.length (xs.map (Value.float .f32))) (i : Nat) (hi : i < xs.length) : w.cell? ⟨g, i, none⟩ = some (.float .f32 (xs.getD i 0)) :=
  row_cell h (by rw [List.getElem?_map, List.getElem?_eq_getElem hi]; simp [hi])

/-- Two rows of the same numbers are found equal. -/
theorem eqO {w : World} {b1 b2 : Nat} {v1 v2 : Value} {xs : List Nat} (hn : xs.length ≤ 1048576) (hx : ∀ x ∈ xs, x < 4294967296) (h1 : w.ownsRow b1 22 1 v1 xs.length (xs.map (Value.float .f32))) (h2 : w.ownsRow b2 22 1 v2 xs.length (xs.map (Value.float .f32))) :
    Calls Try.prog 7 #[v1, v2] w (RetV (.bool true) w) := by
  rcases Nat.eq_zero_or_pos xs.length with h0 | h0
  · rw [h0] at h1 h2
    obtain ⟨a1, c1, rfl⟩ := row_zero h1
    obtain ⟨a2, c2, rfl⟩ := row_zero h2
    exact eqI0 a1 a2 c1 c2 w
  · obtain ⟨g1, c1, rfl, _⟩ := h1.form h0
    obtain ⟨g2, c2, rfl, _⟩ := h2.form h0
    exact eqF g1 0 c1 g2 0 c2 xs.length (fun i => xs.getD i 0) w hn (fun i hi => by rw [List.getD_eq_getElem?_getD, List.getElem?_eq_getElem hi]; exact hx _ (List.getElem_mem hi)) (fun i hi => by rw [Nat.zero_add]; exact row_int h1 i hi) (fun i hi => by rw [Nat.zero_add]; exact row_int h2 i hi)

/-- The word of a mark. -/
def mw (i : Nat) : Nat := floatOfInt .f32 (1 + (i : Int))
/-- The marks: the first k of the numbers are marked. -/
def marks (xs : List Nat) (k : Nat) : List Value := (List.range xs.length).map fun i => Value.float .f32 (if i < k then mw i else xs.getD i 0)
theorem marks_zero (xs : List Nat) : xs.map (Value.float .f32) = marks xs 0 := by
  unfold marks
  apply List.ext_getElem
  · simp
  · intro i h1 h2
    simp at h1
    simp [h1]
theorem marks_set (xs : List Nat) (k : Nat) : (marks xs k).set k (.float .f32 (mw k)) = marks xs (k + 1) := by
  unfold marks
  apply List.ext_getElem
  · simp
  · intro i h1 h2
    simp at h1
    simp only [List.getElem_set, List.getElem_map, List.getElem_range]
    by_cases e : k = i
    · subst e; simp
    · have : (i < k + 1) ↔ (i < k) := by omega
      simp [e, this]
theorem marks_get (xs : List Nat) (k i : Nat) (h : i < xs.length) : (marks xs k)[i]? = some (.float .f32 (if i < k then mw i else xs.getD i 0)) := by
  unfold marks; rw [List.getElem?_map, List.getElem?_range h]; rfl

theorem markO {w : World} {b : Nat} {v : Value} {xs : List Nat} (hn : xs.length ≤ 1048576) (hb : b ≤ w.heap.size) (h : w.ownsRow b 22 1 v xs.length (xs.map (Value.float .f32))) :
    Calls Try.prog 8 #[v, .int .i64 1] w fun e w' => e = .returned (.int .i64 (1 + (xs.length : Int))) ∧ w'.ownsRow b 22 1 v xs.length (marks xs xs.length) ∧ Below b w w' := by
  rcases Nat.eq_zero_or_pos xs.length with h0 | h0
  · obtain rfl : xs = [] := List.length_eq_zero_iff.1 h0
    obtain ⟨a, c, rfl⟩ := row_zero h
    have HR := Lib.hid h
    clear h
    go_enter Try.func8, Try.ntmps8
    go_wp2
    go_loopw [1, 5] (fun q i wr => q = .int .i64 1 ∧ i = .int .i64 0 ∧ wr = w) (fun _ i _ => 0)
    case atStart => exact ⟨rfl, rfl, rfl⟩
    case round =>
      obtain ⟨rfl, rfl, rfl⟩ := hrel
      go_wp2
      go_ret
      exact ⟨rfl, HR.out, Below.refl _ _⟩
  · obtain ⟨g, cap, rfl, hg, hgl⟩ := h.form h0
    rw [marks_zero] at h
    have HR := Lib.hid h
    clear h
    go_enter Try.func8, Try.ntmps8
    go_wp2
    go_loopw [1, 5] (fun q i wr => ∃ k : Nat, k ≤ xs.length ∧ q = .int .i64 (1 + (k : Int)) ∧ i = .int .i64 (k : Nat) ∧ wr.ownsRow b 22 1 (.slice (some ⟨g, 0, none⟩) xs.length cap) xs.length (marks xs k) ∧ Below b w wr) (fun _ i _ => xs.length - (intOf i).toNat)
    case atStart => exact ⟨0, Nat.zero_le _, rfl, rfl, HR.out, Below.refl _ _⟩
    case round =>
      obtain ⟨k, hk, rfl, rfl, hrow, hbw⟩ := hrel
      have HO := Lib.hid hrow
      have HB := Lib.hid hbw
      by_cases hlt : k < xs.length
      · have hc := row_cell hrow (marks_get xs k k hlt)
        have hf := hrow.frozenAt k
        have hgk : g < wr.heap.size := World.block_lt_of_cell? _ _ hc
        have hst := run_store_float Try.prog
        have hmw := Lib.hid (show floatOfInt .f32 (1 + (k : Int)) = mw k from rfl)
        have hw1 : wrap64 (1 + (k : Int) + 1) = 1 + ((k + 1 : Nat) : Int) := by unfold wrap64; omega
        have HW := Lib.hid hw1
        clear hrow hbw hw1
        go_wp2
        go_roundw
        case rel => exact ⟨k + 1, by omega, by go_num, by go_num, by rw [← marks_set xs k, ← hmw.out]; exact (HO.out.stored k _).1, HB.out.setCell hg _⟩
        case measure => simp [intOf]; omega
      · have hkn : k = xs.length := by omega
        subst hkn
        clear hrow hbw
        go_wp2
        go_ret
        exact ⟨rfl, HO.out, HB.out⟩

theorem heldO {w : World} {b : Nat} {v : Value} {xs : List Nat} (hn : xs.length ≤ 1048576) (h : w.ownsRow b 22 1 v xs.length (marks xs xs.length)) :
    Calls Try.prog 9 #[v, .int .i64 1] w (RetV (.int .i64 (1 + (xs.length : Int))) w) := by
  rcases Nat.eq_zero_or_pos xs.length with h0 | h0
  · obtain rfl : xs = [] := List.length_eq_zero_iff.1 h0
    obtain ⟨a, c, rfl⟩ := row_zero h
    clear h
    go_enter Try.func9, Try.ntmps9
    go_wp2
    go_loopw [1, 5] (fun q i wr => q = .int .i64 1 ∧ i = .int .i64 0 ∧ wr = w) (fun _ i _ => 0)
    case atStart => exact ⟨rfl, rfl, rfl⟩
    case round =>
      obtain ⟨rfl, rfl, rfl⟩ := hrel
      go_wp2
      go_ret
      exact RetV.mk0
  · obtain ⟨g, cap, rfl, _, _⟩ := h.form h0
    have HO := Lib.hid h
    clear h
    go_enter Try.func9, Try.ntmps9
    go_wp2
    go_loopw [1, 5] (fun q i wr => ∃ k : Nat, k ≤ xs.length ∧ q = .int .i64 (1 + (k : Int)) ∧ i = .int .i64 (k : Nat) ∧ wr = w) (fun _ i _ => xs.length - (intOf i).toNat)
    case atStart => exact ⟨0, Nat.zero_le _, rfl, rfl, rfl⟩
    case round =>
      obtain ⟨k, hk, rfl, rfl, rfl⟩ := hrel
      by_cases hlt : k < xs.length
      · have hc := row_cell HO.out (marks_get xs xs.length k hlt)
        rw [if_pos hlt] at hc
        have ix : Is .f32 (floatOfInt .f32 (1 + (k : Int))) (ifS (1 + (k : Int))) := is_ifS _
        have hcmp := neq_of ix
        have hsome : (ifS (1 + (k : Int))).isNone = false := rfl
        unfold mw at hc
        go_wp2_with (apply wpList_cmp; rfl; simp [Cmp]; rfl; rfl; (first | assumption | exact is_lit64 _ (by decide) | exact is_lit32 _ (by decide)); (first | assumption | exact is_lit64 _ (by decide) | exact is_lit32 _ (by decide)); intro Kq hKq; go_simp)
        go_roundw
        case rel => exact ⟨k + 1, by omega, by go_num, by go_num, trivial⟩
        case measure => simp [intOf]; omega
      · have hkn : k = xs.length := by omega
        subst hkn
        go_wp2
        go_ret
        exact RetV.mk0
end Go.Proofs.Ytdkjekdokajfgaa
