/-
  A number in hexadecimal digits, of the library (base 16). Conditions: the number is less than 2 ^ 32; what the library's table holds.
-/
import Derived.Test.YtbcbaejfafamjaaDoorBase
import Derived.Lib.Hide
import Derived.Lib.ItoaMem
import Derived.Laws.BytesArg
import Derived.Lib.Repeat
import Derived.WalkKit
namespace Go.Proofs.YtbcbaejfafamjaaDoor
open Go.RowKit

/-- The hexadecimal digit of x, as a byte's number. -/
def hxc (x : Nat) : Nat := if x < 10 then 48 + x else 87 + x
/-- The 65 places, of which the last k hold the last k digits of u. -/
def arrH (u k : Nat) : Array Value := ((List.range 65).map fun p => Value.int .u8 (if 65 - k ≤ p then (hxc (u / 16 ^ (64 - p) % 16) : Nat) else (0 : Int))).toArray
theorem arrH_size (u k : Nat) : (arrH u k).size = 65 := by simp [arrH]
theorem arrH_get (u k p : Nat) (hp : p < 65) : (arrH u k)[p]? = some (.int .u8 (if 65 - k ≤ p then (hxc (u / 16 ^ (64 - p) % 16) : Nat) else (0 : Int))) := by simp [arrH, hp]
theorem arrH_set (u k : Nat) (hk : k < 65) : (arrH u k).setIfInBounds (64 - k) (.int .u8 (hxc (u / 16 ^ k % 16) : Nat)) = arrH u (k + 1) := by
  apply Array.ext
  · simp [arrH]
  · intro i h1 h2
    simp only [arrH, Array.size_setIfInBounds, List.size_toArray, List.length_map, List.length_range] at h1 h2
    simp only [arrH, Array.getElem_setIfInBounds, List.size_toArray, List.length_map, List.length_range, h1, List.getElem_toArray, List.getElem_map, List.getElem_range]
    by_cases e : 64 - k = i
    · subst e
      rw [if_pos rfl, if_pos (by omega), show 64 - (64 - k) = k from by omega]
    · have : (65 - (k + 1) ≤ i) ↔ (65 - k ≤ i) := by omega
      rw [if_neg e]; simp only [this]
theorem arrH_zero (u : Nat) : Array.replicate 65 (Value.int .u8 0) = arrH u 0 := by
  apply Array.ext
  · simp [arrH]
  · intro i h1 h2
    simp only [Array.size_replicate] at h1
    simp only [arrH, Array.getElem_replicate, List.getElem_toArray, List.getElem_map, List.getElem_range]
    rw [if_neg (by omega)]
theorem zero65 (u : Nat) (w : World) : (zeroValue 140).run Tryd.prog w = .ok (.agg (arrH u 0)) w := by
  rw [← arrH_zero]
  kernel_rfl

theorem tz16 (w : World) (hz : w.cell? ⟨8, 15, none⟩ = some (.int .u8 4)) : Calls Tryd.prog 126 #[.int .u64 16] w fun e w' => e = .returned (.int .i64 4) ∧ w' = w := by
  have hm : bits .and .u64 16 (IntKind.u64.wrap (-16)) = 16 := by decide
  have hx : IntKind.u64.wrap (16 * 285870213051353865) = 4573923408821661840 := by decide
  go_enter Tryd.func126, Tryd.ntmps126
  go_wp2
  go_ret
  exact ⟨rfl, rfl⟩

theorem cell_at {w : World} {g k : Nat} {cs : Array Value} {e : TypeId} {v : Value} (h : w.heap[g]? = some (.cells cs e (0, 0))) (hk : cs[k]? = some v) : w.cell? ⟨g, k, none⟩ = some v := by
  simp [World.cell?, h, hk]
theorem frozen_at {w : World} {g k : Nat} {cs : Array Value} {e : TypeId} (h : w.heap[g]? = some (.cells cs e (0, 0))) : w.frozen? ⟨g, k, none⟩ = false := by
  simp [World.frozen?, h]
theorem more_hex (u k : Nat) : 16 ≤ u / 16 ^ k ↔ k < u.log2 / 4 := by
  rw [Nat.le_div_iff_mul_le (Nat.pow_pos (by decide))]
  have e : 16 * 16 ^ k = 2 ^ (4 * (k + 1)) := by rw [Nat.pow_mul, show (2 : Nat) ^ 4 = 16 from rfl, Nat.pow_succ, Nat.mul_comm]
  rw [e]
  by_cases h0 : u = 0
  · subst h0
    have := Nat.two_pow_pos (4 * (k + 1))
    constructor
    · intro h; omega
    · intro h; simp at h
  · rw [← Nat.le_log2 h0]; omega
theorem hexK_le {u : Nat} (hu : u < 4294967296) : u.log2 / 4 ≤ 7 := by
  by_cases h0 : u = 0
  · subst h0; decide
  · have := (Nat.log2_lt h0).2 (show u < 2 ^ 32 from hu); omega
theorem and15 (q : Nat) (h : q < 18446744073709551616) : bits .and .u64 (q : Int) 15 = ((q % 16 : Nat) : Int) := by
  rw [show (15 : Int) = ((15 : Nat) : Int) from rfl, u64_and_nat q 15 h (by decide), show (15 : Nat) = 2 ^ 4 - 1 from rfl, Nat.and_two_pow_sub_one_eq_mod]

theorem dig_at (x : Nat) (hx : x < 16) (h : x < (⟨#[48, 49, 50, 51, 52, 53, 54, 55, 56, 57, 97, 98, 99, 100, 101, 102, 103, 104, 105, 106, 107, 108, 109, 110, 111, 112, 113, 114, 115, 116, 117, 118, 119, 120, 121, 122]⟩ : ByteArray).size) :
    ((⟨#[48, 49, 50, 51, 52, 53, 54, 55, 56, 57, 97, 98, 99, 100, 101, 102, 103, 104, 105, 106, 107, 108, 109, 110, 111, 112, 113, 114, 115, 116, 117, 118, 119, 120, 121, 122]⟩ : ByteArray)[x]'h).toNat = hxc x := by
  have key : ∀ y : Fin 16, ((#[48, 49, 50, 51, 52, 53, 54, 55, 56, 57, 97, 98, 99, 100, 101, 102, 103, 104, 105, 106, 107, 108, 109, 110, 111, 112, 113, 114, 115, 116, 117, 118, 119, 120, 121, 122] : Array UInt8).getD y.val 0).toNat = hxc y.val := by decide
  have e := key ⟨x, hx⟩
  rw [Array.getD_eq_getD_getElem?, Array.getElem?_eq_getElem (show x < (#[48, 49, 50, 51, 52, 53, 54, 55, 56, 57, 97, 98, 99, 100, 101, 102, 103, 104, 105, 106, 107, 108, 109, 110, 111, 112, 113, 114, 115, 116, 117, 118, 119, 120, 121, 122] : Array UInt8).size from h)] at e
  exact e

/-- The last k + 1 digits. -/
def hxs (u k : Nat) : List Int := (List.range (k + 1)).map fun i => ((hxc (u / 16 ^ (k - i) % 16) : Nat) : Int)

set_option maxHeartbeats 1600000 in
theorem fmt16 (u : Nat) (hu : u < 4294967296) (w : World) (hz : w.cell? ⟨8, 15, none⟩ = some (.int .u8 4)) (hg : 8 < w.heap.size) :
    Calls Tryd.prog 111 #[.slice none 0 0, .int .u64 u, .int .i64 16, .bool false, .bool false] w fun e w' => e = .returned (.tuple #[.slice none 0 0, .string (strOfNums (hxs u (u.log2 / 4)))]) ∧ Below w.heap.size w w' := by
  go_enter Tryd.func111, Tryd.ntmps111
  have hz0 := zero65 u
  have HT := fun (o : Obj) => tz16 (w.alloc o) (by rw [← hz]; exact ((Below.refl w.heap.size w).alloc (Nat.le_refl _) o).cell (p := ⟨8, 15, none⟩) hg)
  have hp : bits .and .i64 16 15 = 0 := by decide
  clear hz
  go_wp2_with (first | (go_at_call 126; refine (HT _).mono ?_; rintro eq wq ⟨rfl, rfl⟩) | (go_at_call 125; go_in))
  go_loopw [1, 13] (fun q i wr => ∃ (k : Nat) (z : Int), k ≤ u.log2 / 4 ∧ q = .int .u64 z ∧ z = (u / 16 ^ k : Nat) ∧ i = .int .i64 (65 - (k : Int)) ∧ wr.heap[w.heap.size]? = some (.cells (arrH u k) 140 (0, 0)) ∧ Below w.heap.size w wr) (fun q i _ => (intOf i).toNat)
  case atStart => exact ⟨0, u, Nat.zero_le _, rfl, by simp, rfl, heap_alloc_new w _, (Below.refl _ _).alloc (Nat.le_refl _) _⟩
  case round =>
    obtain ⟨k, z, hk, rfl, hzk, rfl, hblk, hbw⟩ := hrel
    have hsz : w.heap.size < wr.heap.size := by
      rcases Nat.lt_or_ge w.heap.size wr.heap.size with h | h
      · exact h
      · rw [Array.getElem?_eq_none h] at hblk; cases hblk
    have hk7 := hexK_le hu
    have z0 : 0 ≤ z := by rw [hzk]; exact Int.natCast_nonneg _
    have hnx : z / 16 = (u / 16 ^ (k + 1) : Nat) := by rw [hzk, Nat.pow_succ, ← Nat.div_div_eq_div_mul]; exact (Int.natCast_ediv _ 16).symm
    obtain ⟨x, hx⟩ : ∃ x : Int, x = ((u / 16 ^ k % 16 : Nat) : Int) := ⟨_, rfl⟩
    have x0 : 0 ≤ x := by rw [hx]; exact Int.natCast_nonneg _
    have x15 : x < 16 := by rw [hx]; have := Nat.mod_lt (u / 16 ^ k) (show 16 > 0 by decide); exact Int.ofNat_lt.2 this
    have hand : bits .and .u64 z 15 = x := by
      rw [hzk, hx]; exact and15 _ (Nat.lt_of_le_of_lt (Nat.div_le_self _ _) (by omega))
    by_cases hlt : k < u.log2 / 4
    · have h16 : 16 ≤ z := by rw [hzk]; exact Int.ofNat_le.2 ((more_hex u k).2 hlt)
      have HN := Lib.hid hnx
      have HX := Lib.hid hx
      have HB := Lib.hid hbw
      have HK := Lib.hid hblk
      have hw1 : (0 : Int) ≤ 65 - (k : Int) - 1 := by omega
      have hw2 : 65 - (k : Int) - 1 < 65 := by omega
      have hc := cell_at (k := 65 - k - 1) hblk (arrH_get u k (65 - k - 1) (by omega))
      have hf := frozen_at (k := 65 - k - 1) hblk
      have HC := Lib.hid (dig_at x.toNat (by omega))
      have HX' := Lib.hid (show x.toNat = u / 16 ^ k % 16 from by rw [hx]; exact Int.toNat_natCast _)
      clear hnx hx hbw hblk hzk hk7
      go_wp2
      go_roundw
      case rel => exact ⟨k + 1, _, by omega, rfl, HN.out, by go_num, by rw [heap_setCell_same _ _ _ _ _ _ HK.out, HC.out, HX'.out, show 65 - k - 1 = 64 - k from by omega, arrH_set u k (by omega)], HB.out.setCell (Nat.le_refl _) _⟩
      case measure => simp [intOf]; omega
    · have h16 : ¬ 16 ≤ z := by rw [hzk]; intro h; exact hlt ((more_hex u k).1 (Int.ofNat_le.1 h))
      have HX' := Lib.hid (show z.toNat = u / 16 ^ k % 16 from by
        rw [hzk, Int.toNat_natCast]
        have := Nat.lt_of_not_le fun h => hlt ((more_hex u k).1 h)
        exact (Nat.mod_eq_of_lt this).symm)
      have hdig := dig_at z.toNat (by omega)
      have HB := Lib.hid hbw
      have z16 : z < 16 := by omega
      have hk64 : k < 64 := by omega
      have hblk2 : (wr.setCell ⟨w.heap.size, 65 - k - 1, none⟩ (.int .u8 (hxc z.toNat : Nat))).heap[w.heap.size]? = some (.cells (arrH u (k + 1)) 140 (0, 0)) := by
        rw [heap_setCell_same _ _ _ _ _ _ hblk, HX'.out, show 65 - k - 1 = 64 - k from by omega, arrH_set u k (by omega)]
      have hcv := run_convert_bytes_arg (P := Tryd.prog) (wr.setCell ⟨w.heap.size, 65 - k - 1, none⟩ (.int .u8 (hxc z.toNat : Nat))) 92 5 Tryd.underlying92 Tryd.underlying5 w.heap.size (65 - k - 1) (k + 1) (k + 1) (hxs u k) (by simp [hxs]) (fun i hi => by
        have := cell_at (k := 65 - k - 1 + i) hblk2 (arrH_get u (k + 1) _ (by omega))
        rw [this, if_pos (by omega), show 64 - (65 - k - 1 + i) = k - i from by omega]
        simp [hxs, hi]) 9 Tryd.underlying9
      have hsl : ∀ W, (Instr.sliceAt 140 (.pointer (some ⟨w.heap.size, 0, none⟩)) (some (.int .i64 (65 - (k : Int) - 1))) none none).run Tryd.prog W = .ok (.slice (some ⟨w.heap.size, 65 - k - 1, none⟩) (k + 1) (k + 1)) W := fun W => by
        rw [run_sliceAt_array_l W 140 ⟨w.heap.size, 0, none⟩ (by simp [Program.arrayLen, Program.elem, Tryd.underlying140]) .i64 (65 - (k : Int) - 1) (by omega) (by rw [show Tryd.prog.arrayLen 140 = 65 from by simp [Program.arrayLen, Tryd.underlying140]]; omega)]
        rw [show Tryd.prog.arrayLen 140 = 65 from by simp [Program.arrayLen, Tryd.underlying140]]
        rw [show (sizeOf (Tryd.prog.elem 140)).run Tryd.prog W = .ok 1 W from by kernel_rfl]
        have e1 : (65 - (k : Int) - 1).toNat = 65 - k - 1 := by omega
        have e2 : 65 - (65 - k - 1) = k + 1 := by omega
        simp only [Result.andThen, slicedAt, e1, Nat.mul_one, Addr.add, e2, Nat.zero_add]
        rw [if_neg (by omega), if_neg (by omega)]
      have hw1 : (0 : Int) ≤ 65 - (k : Int) - 1 := by omega
      have hw2 : 65 - (k : Int) - 1 < 65 := by omega
      have hc := cell_at (k := 65 - k - 1) hblk (arrH_get u k (65 - k - 1) (by omega))
      have hf := frozen_at (k := 65 - k - 1) hblk
      clear hbw hblk hblk2 hzk hand hx
      go_wp2
      go_ret2
      have hkn : k = u.log2 / 4 := by omega
      exact ⟨by rw [hkn]; rfl, HB.out.setCell (Nat.le_refl _) _⟩

/-- The hexadecimal numeral. -/
def hexB (u : Nat) : ByteArray := strOfNums (hxs u (u.log2 / 4))
theorem hexB_size {u : Nat} (hu : u < 4294967296) : (hexB u).size = u.log2 / 4 + 1 ∧ u.log2 / 4 ≤ 7 := by
  refine ⟨?_, hexK_le hu⟩
  unfold hexB
  rw [strOfNums_size]
  simp [hxs]

theorem fmtI16 (u : Nat) (hu : u < 4294967296) (w : World) (hz : w.cell? ⟨8, 15, none⟩ = some (.int .u8 4)) (hg : 8 < w.heap.size) :
    Calls Tryd.prog 65 #[.int .i64 u, .int .i64 16] w fun e w' => e = .returned (.string (hexB u)) ∧ Below w.heap.size w w' := by
  have HC := fmt16 u hu w hz hg
  have hw : IntKind.u64.wrap (u : Int) = u := by rw [IntKind.wrap_u64]; omega
  have hn : decide ((u : Int) < 0) = false := by simp
  have hB : strOfNums (hxs u (u.log2 / 4)) = hexB u := rfl
  rw [hB] at HC
  clear hz hg hu hB
  go_enter Tryd.func65, Tryd.ntmps65
  go_wp2_with (first | (go_at_call 85; go_in) | (go_at_call 111; refine HC.mono ?_; rintro eq wq ⟨rfl, hb⟩))
  go_ret
  exact ⟨rfl, hb⟩

/-- The eight hexadecimal digits. -/
def hex8 (u : Nat) : List UInt8 := (List.range 8).map fun t => UInt8.ofNat (hxc (u / 16 ^ (7 - t) % 16))
theorem hex8_length (u : Nat) : (hex8 u).length = 8 := by simp [hex8]

theorem small_hex {u k : Nat} (h : u.log2 / 4 < k) : u / 16 ^ k = 0 := by
  obtain ⟨j, rfl⟩ : ∃ j, k = j + 1 := ⟨k - 1, by omega⟩
  have h1 := Nat.lt_of_not_le fun h' => (show ¬ j < u.log2 / 4 by omega) ((more_hex u j).1 h')
  rw [Nat.pow_succ, ← Nat.div_div_eq_div_mul]
  exact Nat.div_eq_of_lt h1

theorem hex8_eq {u : Nat} (hu : u < 4294967296) : Lib.repeatL [48] (8 - (hexB u).size) ++ (hexB u).data.toList = hex8 u := by
  obtain ⟨hs, hk⟩ := hexB_size hu
  rw [hs]
  generalize hK : u.log2 / 4 = K at hs hk
  have hd : (hexB u).data.toList = (List.range (K + 1)).map fun i => UInt8.ofNat (hxc (u / 16 ^ (K - i) % 16)) := by
    unfold hexB
    rw [strOfNums_data, hK]
    simp [hxs, List.map_map, Function.comp]
  have hr : ∀ c, Lib.repeatL [48] c = List.replicate c 48 := by
    intro c
    induction c with
    | zero => rfl
    | succ c ih => show [48] ++ Lib.repeatL [48] c = _; rw [ih]; rfl
  rw [hd, hr]
  unfold hex8
  apply List.ext_getElem
  · simp; omega
  · intro i h1 h2
    simp only [List.length_map, List.length_range] at h2
    simp only [List.getElem_map, List.getElem_range, List.getElem_append, List.getElem_replicate, List.length_replicate]
    split
    · rename_i hi
      rw [small_hex (k := 7 - i) (by omega)]
      rfl
    · rename_i hi
      rw [show K - (i - (8 - (K + 1))) = 7 - i from by omega]
end Go.Proofs.YtbcbaejfafamjaaDoor
