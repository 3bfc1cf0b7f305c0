/-
  Sums of lists of numbers, of the program and of the model. No condition.
-/
import Derived.Test.YtbpgemdchpgjiadSame
import Derived.Test.YtbpgemdchpgjiadMem
import Derived.Lib.Hide
namespace Go.Proofs.Ytbpgemdchpgjiad
open Go.RowKit

theorem infoF : (Try.prog.info? 23).map (fun i => (i.zero, i.size, i.bytes)) = some (some (.float .f32 0), 1, 4) := by kernel_rfl

/-- A row of n words, of which the first k are those of f, the rest zeros. -/
def arrK (f : Nat → Nat) (k n : Nat) : Array Value := ((List.range n).map fun i => Value.float .f32 (if i < k then f i else 0)).toArray

theorem arrK_get (f : Nat → Nat) (k n i : Nat) (h : i < n) : (arrK f k n)[i]? = some (.float .f32 (if i < k then f i else 0)) := by
  simp [arrK, h]
theorem arrK_set (f : Nat → Nat) (k n : Nat) : (arrK f k n).setIfInBounds k (.float .f32 (f k)) = arrK f (k + 1) n := by
  apply Array.ext
  · simp [arrK]
  · intro i h1 h2
    simp only [arrK, Array.size_setIfInBounds, List.size_toArray, List.length_map, List.length_range] at h1 h2
    simp only [arrK, Array.getElem_setIfInBounds, List.size_toArray, List.length_map, List.length_range, h1, List.getElem_toArray, List.getElem_map, List.getElem_range]
    by_cases e : k = i
    · subst e; simp
    · have : (i < k + 1) ↔ (i < k) := by omega
      simp [e, this]

theorem mk_run (n : Nat) (hn : n ≤ 1048576) (w : World) : (Instr.makeSlice 22 (.int .i64 (n : Int)) (.int .i64 (n : Int))).run Try.prog w = .ok (.slice (some ⟨w.heap.size, 0, none⟩) n n) (w.alloc (.cells (arrK (fun _ => 0) 0 n) 23)) := by
  obtain ⟨i0, hi, hz0, hz1, hz2⟩ := info_parts infoF
  rw [run_make w 22 23 i0 (.float .f32 0) Try.underlying22 hi hz0 .i64 .i64 n n (by omega) (by omega) (by rw [hz2]; omega) (by omega)]
  have : madeCells (Value.float .f32 0).cells (n * 1) = arrK (fun _ => 0) 0 n := by
    have h := toList_madeCells_one (Value.float .f32 0) n
    rw [Nat.mul_one]
    show madeCells #[Value.float .f32 0] n = _
    rw [← Array.toList_inj, h]
    simp [arrK, List.map_const']
  rw [hz1, Int.toNat_natCast, this]

theorem arrK_zero (f : Nat → Nat) (n : Nat) : arrK (fun _ => 0) 0 n = arrK f 0 n := by simp [arrK]

set_option maxHeartbeats 800000 in
theorem toF (b off n cap : Nat) (f : Nat → Nat) (w : World) (hn : n ≤ 1048576) (hb : b < w.heap.size) (hr : ∀ i, i < n → w.cell? ⟨b, off + i, none⟩ = some (.float .f32 (f i))) :
    Calls Try.prog 6 #[.slice (some ⟨b, off, none⟩) n cap] w fun e w' => e = .returned (.slice (some ⟨w.heap.size, 0, none⟩) n n) ∧ w' = w.alloc (.cells (arrK f n n) 23) := by
  have hmk := mk_run n hn
  have hst := run_store_float Try.prog
  have HR := Lib.hid hr
  clear hr
  go_enter Try.func6, Try.ntmps6
  go_wp2
  go_loopw [4] (fun i wr => ∃ k : Nat, k ≤ n ∧ i = .int .i64 k ∧ wr = w.alloc (.cells (arrK f k n) 23)) (fun i _ => n - (intOf i).toNat)
  case atStart => exact ⟨0, Nat.zero_le _, rfl, by rw [arrK_zero f]⟩
  case round =>
    obtain ⟨k, hk, rfl, rfl⟩ := hrel
    by_cases hlt : k < n
    · have hc := HR.out k hlt
      have hg := arrK_get f k n k hlt
      have HS := Lib.hid (arrK_set f k n)
      go_wp2
      go_roundw
      case rel => exact ⟨k + 1, by omega, by go_num, by rw [← HS.out]⟩
      case measure => simp [intOf]; omega
    · have hkn : Hid (k = n) := (show k = n by omega)
      go_wp2
      go_ret
      exact ⟨rfl, by rw [hkn.out]⟩

theorem toF0 (a : Option Addr) (cap : Nat) (f : Nat → Nat) (w : World) :
    Calls Try.prog 6 #[.slice a 0 cap] w fun e w' => e = .returned (.slice (some ⟨w.heap.size, 0, none⟩) 0 0) ∧ w' = w.alloc (.cells (arrK f 0 0) 23) := by
  have hmk : ∀ w : World, (Instr.makeSlice 22 (.int .i64 0) (.int .i64 0)).run Try.prog w = .ok (.slice (some ⟨w.heap.size, 0, none⟩) 0 0) (w.alloc (.cells (arrK (fun _ => 0) 0 0) 23)) := mk_run 0 (by decide)
  go_enter Try.func6, Try.ntmps6
  go_wp2
  go_loopw [4] (fun i wr => i = .int .i64 0 ∧ wr = w.alloc (.cells (arrK f 0 0) 23)) (fun i _ => 0)
  case atStart => exact ⟨rfl, by rw [arrK_zero f]⟩
  case round =>
    obtain ⟨rfl, rfl⟩ := hrel
    go_wp2
    go_ret
    exact ⟨rfl, rfl⟩

/-- The cells of a slice: nothing is asked of an empty one. -/
def RowF (w : World) (a : Option Addr) (n : Nat) (f : Nat → Nat) : Prop := (n = 0) ∨ ∃ b off, a = some ⟨b, off, none⟩ ∧ b < w.heap.size ∧ ∀ i, i < n → w.cell? ⟨b, off + i, none⟩ = some (.float .f32 (f i))

theorem toF_any {a : Option Addr} {n : Nat} (cap : Nat) {f : Nat → Nat} {w : World} (hn : n ≤ 1048576) (h : RowF w a n f) :
    Calls Try.prog 6 #[.slice a n cap] w fun e w' => e = .returned (.slice (some ⟨w.heap.size, 0, none⟩) n n) ∧ w' = w.alloc (.cells (arrK f n n) 23) := by
  rcases h with rfl | ⟨b, off, rfl, hb, hr⟩
  · exact toF0 a cap f w
  · exact toF b off n cap f w hn hb hr

/-- The sum of the first k numbers, from left to right. -/
def sumO (f : Nat → Nat) : Nat → Option Nat
  | 0 => some 0
  | k + 1 => fo .add .f32 (sumO f k) (nrm .f32 (f k))

theorem zero32 : Is .f32 0 (some 0) := is_lit32 0 (by decide)

set_option maxHeartbeats 800000 in
theorem sSum (b off n cap : Nat) (f : Nat → Nat) (w : World) (hn : n ≤ 1048576) (hw : ∀ i, i < n → f i < 2 ^ 32) (hr : ∀ i, i < n → w.cell? ⟨b, off + i, none⟩ = some (.float .f32 (f i))) :
    Calls Try.prog 13 #[.slice (some ⟨b, off, none⟩) n cap] w (RetF .f32 (sumO f n) w) := by
  have HR := Lib.hid hr
  have HW := Lib.hid hw
  clear hr hw
  go_enter Try.func13, Try.ntmps13
  go_wp2
  go_loopw [3, 4] (fun s i wr => ∃ k r m : Nat, k ≤ n ∧ i = .int .i64 k ∧ s = .float .f32 r ∧ Is .f32 r (sumO f k) ∧ wr = w.drewN m) (fun _ i _ => n - (intOf i).toNat)
  case atStart => exact ⟨0, 0, 0, Nat.zero_le _, rfl, rfl, zero32, rfl⟩
  case round =>
    obtain ⟨k, r, m, hk, rfl, rfl, hs, rfl⟩ := hrel
    by_cases hlt : k < n
    · have hc := HR.out k hlt
      have hi : Is .f32 (f k) (nrm .f32 (f k)) := Is.self (HW.out k hlt)
      go_wp2_with (apply wpList_arith; rfl; simp [Arith]; rfl; rfl; (first | assumption | exact is_lit64 _ (by decide) | exact is_lit32 _ (by decide)); (first | assumption | exact is_lit64 _ (by decide) | exact is_lit32 _ (by decide)); intro Kq hKq rq nq hq; go_simp)
      go_roundw
      case rel => exact ⟨k + 1, _, _, by omega, by go_num, rfl, hq, rfl⟩
      case measure => simp [intOf]; omega
    · have hkn : Hid (k = n) := (show k = n by omega)
      go_wp2
      go_ret
      exact ⟨_, _, rfl, by rw [← hkn.out]; exact hs, rfl⟩

set_option maxHeartbeats 800000 in
theorem iSum (b off n cap : Nat) (f : Nat → Nat) (w : World) (hn : n ≤ 256) (hw : ∀ i, i < n → f i < 2 ^ 32) (hr : ∀ i, i < n → w.cell? ⟨b, off + i, none⟩ = some (.float .f32 (f i))) :
    Calls Try.prog 14 #[.slice (some ⟨b, off, none⟩) n cap] w fun e w' => ∃ r m, e = .returned (.tuple #[.float .f32 r, .bool true]) ∧ Is .f32 r (sumO f n) ∧ w' = w.drewN m := by
  have HR := Lib.hid hr
  have HW := Lib.hid hw
  clear hr hw
  have hd : decide (256 < ((n : Nat) : Int)) = false := by simp; omega
  go_enter Try.func14, Try.ntmps14
  go_wp2
  go_loopw [4, 12] (fun s i wr => ∃ k r m : Nat, k ≤ n ∧ i = .int .i64 k ∧ s = .float .f32 r ∧ Is .f32 r (sumO f k) ∧ wr = w.drewN m) (fun _ i _ => n - (intOf i).toNat)
  case atStart => exact ⟨0, 0, 0, Nat.zero_le _, rfl, rfl, zero32, rfl⟩
  case round =>
    obtain ⟨k, r, m, hk, rfl, rfl, hs, rfl⟩ := hrel
    by_cases hlt : k < n
    · have hc := HR.out k hlt
      have hi : Is .f32 (f k) (nrm .f32 (f k)) := Is.self (HW.out k hlt)
      go_wp2_with (apply wpList_arith; rfl; simp [Arith]; rfl; rfl; (first | assumption | exact is_lit64 _ (by decide) | exact is_lit32 _ (by decide)); (first | assumption | exact is_lit64 _ (by decide) | exact is_lit32 _ (by decide)); intro Kq hKq rq nq hq; go_simp)
      go_roundw
      case rel => exact ⟨k + 1, _, _, by omega, by go_num, rfl, hq, rfl⟩
      case measure => simp [intOf]; omega
    · have hkn : Hid (k = n) := (show k = n by omega)
      go_wp2
      go_ret2
      exact ⟨_, _, rfl, by rw [← hkn.out]; exact hs, rfl⟩

theorem specSumN (b off n cap : Nat) (f : Nat → Nat) (w : World) (hn : n ≤ 256) (hw : ∀ i, i < n → f i < 2 ^ 32) (hr : ∀ i, i < n → w.cell? ⟨b, off + i, none⟩ = some (.float .f32 (f i))) :
    Calls Try.prog 5 #[.slice (some ⟨b, off, none⟩) n cap] w fun e w' => ∃ r m, e = .returned (.tuple #[.float .f32 r, .bool true]) ∧ Is .f32 r (sumO f n) ∧ w' = w.drewN m := by
  have hd : decide (((n : Nat) : Int) ≤ 256) = true := by simp; omega
  have HC := sSum b off n cap f w (by omega) hw hr
  clear hr hw
  go_enter Try.func5, Try.ntmps5
  go_wp2_with (first | (go_at_call 13; refine HC.mono ?_; rintro eq wq ⟨rq, nq, rfl, hq, rfl⟩) | go_in)
  go_ret2
  exact ⟨_, _, rfl, hq, rfl⟩

theorem specSumN_out (b off n cap : Nat) (w : World) (hn : 256 < n) :
    Calls Try.prog 5 #[.slice (some ⟨b, off, none⟩) n cap] w fun e w' => e = .returned (.tuple #[.float .f32 0, .bool false]) ∧ w' = w := by
  have hd : decide (((n : Nat) : Int) ≤ 256) = false := by simp; omega
  go_enter Try.func5, Try.ntmps5
  go_wp2
  go_ret2
  exact ⟨rfl, rfl⟩

theorem implSumN (b off n cap : Nat) (f : Nat → Nat) (w : World) (hn : n ≤ 256) (hw : ∀ i, i < n → f i < 2 ^ 32) (hr : ∀ i, i < n → w.cell? ⟨b, off + i, none⟩ = some (.float .f32 (f i))) :
    Calls Try.prog 7 #[.slice (some ⟨b, off, none⟩) n cap] w fun e w' => ∃ r m, e = .returned (.tuple #[.float .f32 r, .bool true]) ∧ Is .f32 r (sumO f n) ∧ w' = w.drewN m := by
  have HC := iSum b off n cap f w hn hw hr
  clear hr hw
  go_enter Try.func7, Try.ntmps7
  go_wp2_with (go_at_call 14; refine HC.mono ?_; rintro eq wq ⟨rq, nq, rfl, hq, rfl⟩)
  go_ret2
  exact ⟨_, _, rfl, hq, rfl⟩

theorem implSumN_out (b off n cap : Nat) (w : World) (hn : 256 < n) :
    Calls Try.prog 7 #[.slice (some ⟨b, off, none⟩) n cap] w fun e w' => e = .returned (.tuple #[.float .f32 0, .bool false]) ∧ w' = w := by
  have hd : decide (256 < ((n : Nat) : Int)) = true := by simp; omega
  go_enter Try.func7, Try.ntmps7
  go_wp2
  go_ret2
  exact ⟨rfl, rfl⟩
end Go.Proofs.Ytbpgemdchpgjiad
