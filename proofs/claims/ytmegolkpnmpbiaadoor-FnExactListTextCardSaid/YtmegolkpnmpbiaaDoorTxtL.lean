/-
  The text of a list of integers: for every list the law's text returns true, and writes nothing that was there. What the library's table holds is the only condition.
-/
import Derived.Test.YtmegolkpnmpbiaaDoorTxt
import Derived.Test.YtmegolkpnmpbiaaDoorRows
namespace Go.Proofs.YtmegolkpnmpbiaaDoor
open Go.RowKit

def noneT : List UInt8 := [110, 111, 110, 101]
def resT (f : Nat → Int) (n : Nat) : List UInt8 := if listOK f n && decide (n ≤ 64) then (if n = 0 then noneT else txtL f n) else []
/-- A text and a yes or no are handed back. -/
def RetTx (l : List UInt8) (ok : Bool) (w : World) (e : Ending) (w' : World) : Prop := e = .returned (.tuple #[.string ⟨l.toArray⟩, .bool ok]) ∧ Below w.heap.size w w'

set_option maxHeartbeats 800000 in
theorem specTx (b off n cap : Nat) (f : Nat → Int) (w : World) (hn : n ≤ 1048576) (hb : b < w.heap.size) (hf : ∀ i, -9223372036854775808 ≤ f i ∧ f i ≤ 9223372036854775807)
    (hr : ∀ i, i < n → w.cell? ⟨b, off + i, none⟩ = some (.int .i64 (f i))) :
    Calls Tryd.prog 8 #[.slice (some ⟨b, off, none⟩) n cap] w (RetTx (resT f n) (listOK f n && decide (n ≤ 64)) w) := by
  have HC := specListOK b off n cap f w hn hr
  unfold resT
  cases hok : listOK f n && decide (n ≤ 64) with
  | false =>
    rw [hok] at HC
    rw [if_neg (by decide)]
    clear hr hf hok
    go_enter Tryd.func8, Tryd.ntmps8
    go_wp2_with (go_at_call 25; refine HC.mono ?_; rintro eq wq ⟨nq, rfl, rfl⟩)
    go_ret2
    exact ⟨rfl, below_drewN (Below.refl _ _) _⟩
  | true =>
    rw [hok] at HC
    rw [if_pos rfl]
    have h64 : n ≤ 64 := by simp at hok; exact hok.2
    rcases Nat.eq_zero_or_pos n with rfl | h0
    · rw [if_pos rfl]
      clear hr hf hok
      go_enter Tryd.func8, Tryd.ntmps8
      go_wp2_with (first | (go_at_call 25; refine HC.mono ?_; rintro eq wq ⟨nq, rfl, rfl⟩) | (go_at_call 26; go_in))
      go_ret2
      exact ⟨rfl, below_drewN (Below.refl _ _) _⟩
    · rw [if_neg (by omega)]
      have HT := fun (w' : World) (hb' : Below w.heap.size w w') => specTextI b off n cap f w' h0 h64 (Nat.lt_of_lt_of_le hb hb'.size) hf (fun i hi => (hb'.cell (p := ⟨b, off + i, none⟩) hb).trans (hr i hi))
      clear hr hf hok
      go_enter Tryd.func8, Tryd.ntmps8
      go_wp2_with (first | (go_at_call 25; refine HC.mono ?_; rintro eq wq ⟨nq, rfl, rfl⟩) | (go_at_call 26; refine (HT _ (below_drewN (Below.refl _ _) _)).mono ?_; rintro eq w2 ⟨rfl, hb2⟩))
      go_ret2
      exact ⟨rfl, (below_drewN (Below.refl _ _) _).trans hb2⟩

set_option maxHeartbeats 1600000 in
theorem implTx (b off n cap : Nat) (f : Nat → Int) (w : World) (hb : b < w.heap.size) (hf : ∀ i, -9223372036854775808 ≤ f i ∧ f i ≤ 9223372036854775807)
    (hr : ∀ i, i < n → w.cell? ⟨b, off + i, none⟩ = some (.int .i64 (f i))) (htab : Lib.TabIs Tryd.prog w "internal/strconv.uint64pow10" .u64 Lib.pow10Tab) :
    Calls Tryd.prog 10 #[.slice (some ⟨b, off, none⟩) n cap] w (RetTx (resT f n) (listOK f n && decide (n ≤ 64)) w) := by
  obtain ⟨L, hL⟩ : ∃ L, L = resT f n := ⟨_, rfl⟩
  obtain ⟨ok, hok⟩ : ∃ ok, ok = (listOK f n && decide (n ≤ 64)) := ⟨_, rfl⟩
  rw [← hL, ← hok]
  have HL := Lib.hid hL
  have HK := Lib.hid hok
  clear hL hok
  by_cases h64 : n ≤ 64
  · have hd : decide (64 < ((n : Nat) : Int)) = false := by simp; omega
    have H64 := Lib.hid (show decide (n ≤ 64) = true from decide_eq_true h64)
    have HR := Lib.hid hr
    have HJ := Lib.hid (fun (h0 : 0 < n) => joinI b off n cap f w h0 h64 hb hf hr htab)
    clear hr hf htab
    go_enter Tryd.func10, Tryd.ntmps10
    go_wp2
    go_loopw [11] (fun i wr => ∃ k : Nat, k ≤ n ∧ i = .int .i64 (k : Nat) ∧ listOK f k = true ∧ wr = w) (fun i _ => n - (intOf i).toNat)
    case atStart => exact ⟨0, Nat.zero_le _, rfl, rfl, rfl⟩
    case round =>
      obtain ⟨k, hk, rfl, ho, rfl⟩ := hrel
      by_cases hlt : k < n
      · have hc := HR.out k hlt
        by_cases m1 : -1000000000000000 ≤ f k
        · by_cases m2 : f k ≤ 1000000000000000
          · have HO := Lib.hid (show listOK f (k + 1) = true by unfold listOK at ho ⊢; rw [List.range_succ, List.all_append, ho]; simp [okI, m1, m2])
            clear ho
            generalize f k = v at hc m1 m2
            go_wp2_with (go_at_call 27; go_in)
            go_roundw
            case rel => exact ⟨k + 1, by omega, by go_num, HO.out, trivial⟩
            case measure => simp [intOf]; omega
          · have HO := Lib.hid (show listOK f n = false by
              unfold listOK; rw [List.all_eq_false]; exact ⟨k, List.mem_range.2 hlt, by simp [okI, m2]⟩)
            clear ho
            generalize f k = v at hc m1 m2
            go_wp2_with (go_at_call 27; go_in)
            go_ret2
            exact ⟨by rw [HL.out, HK.out]; unfold resT; rw [HO.out, H64.out]; rfl, Below.refl _ _⟩
        · have HO := Lib.hid (show listOK f n = false by
            unfold listOK; rw [List.all_eq_false]; exact ⟨k, List.mem_range.2 hlt, by simp [okI, m1]⟩)
          clear ho
          generalize f k = v at hc m1
          go_wp2_with (go_at_call 27; go_in)
          go_ret2
          exact ⟨by rw [HL.out, HK.out]; unfold resT; rw [HO.out, H64.out]; rfl, Below.refl _ _⟩
      · have hkn : k = n := by omega
        have HO := Lib.hid (hkn ▸ ho)
        clear ho
        rcases Nat.eq_zero_or_pos n with rfl | h0
        · go_wp2_with (go_at_call 28; go_in)
          go_ret2
          exact ⟨by rw [HL.out, HK.out]; unfold resT; rw [HO.out, H64.out]; rfl, Below.refl _ _⟩
        · have HJ' := HJ.out h0
          have hne : ¬ n = 0 := by omega
          clear HJ
          go_wp2_with (go_at_call 28; refine HJ'.mono ?_; rintro eq w2 ⟨rfl, hb2⟩)
          go_ret2
          exact ⟨by rw [HL.out, HK.out]; unfold resT; rw [HO.out, H64.out, Bool.and_true, if_pos rfl, if_neg hne]; rfl, hb2⟩
  · have hd : decide (64 < ((n : Nat) : Int)) = true := by simp; omega
    have H64 := Lib.hid (show decide (n ≤ 64) = false from decide_eq_false h64)
    go_enter Tryd.func10, Tryd.ntmps10
    go_wp2
    go_ret2
    exact ⟨by rw [HL.out, HK.out]; unfold resT; rw [H64.out, Bool.and_false, if_neg (by decide)]; rfl, Below.refl _ _⟩

theorem size_alloc1 (w : World) (o : Obj) : (w.alloc o).heap.size = w.heap.size + 1 := by simp
theorem chain1 {B : Nat} {w a b : World} {o : Obj} (h : Below B w a) (hB : B ≤ a.heap.size) (hb : Below (a.alloc o).heap.size (a.alloc o) b) : Below B w b :=
  (h.alloc hB o).trans (hb.mono (by rw [size_alloc1]; omega))
theorem cellA {w : World} {f : Nat → Int} {n : Nat} : ∀ i, i < n → (w.alloc (.cells (arrI f n n) 2)).cell? ⟨w.heap.size, 0 + i, none⟩ = some (.int .i64 (f i)) := fun i hi => by
  rw [Nat.zero_add]
  exact cell_of_block (heap_alloc_new w _) (arrI_row f n i hi)
theorem cellB {w b : World} {f : Nat → Int} {n : Nat} (hb : Below (w.alloc (.cells (arrI f n n) 2)).heap.size (w.alloc (.cells (arrI f n n) 2)) b) : ∀ i, i < n → b.cell? ⟨w.heap.size, 0 + i, none⟩ = some (.int .i64 (f i)) := fun i hi =>
  (hb.cell (p := ⟨w.heap.size, 0 + i, none⟩) (by rw [size_alloc1]; exact Nat.lt_succ_self _)).trans (cellA i hi)
theorem cellC {b : World} {o : Obj} {B : Nat} {f : Nat → Int} {n : Nat} (hB : B < b.heap.size) (h : ∀ i, i < n → b.cell? ⟨B, 0 + i, none⟩ = some (.int .i64 (f i))) : ∀ i, i < n → (b.alloc o).cell? ⟨B, 0 + i, none⟩ = some (.int .i64 (f i)) := fun i hi => by
  rw [← h i hi]
  exact ((Below.refl b.heap.size b).alloc (Nat.le_refl _) o).cell (p := ⟨B, 0 + i, none⟩) hB

set_option maxHeartbeats 1600000 in
theorem walk_txt (a : Option Addr) (n cap : Nat) (f : Nat → Int) (w : World) (hf : ∀ i, -9223372036854775808 ≤ f i ∧ f i ≤ 9223372036854775807) (h : RowI w a n f) (htab : Lib.TabIs Tryd.prog w "internal/strconv.uint64pow10" .u64 Lib.pow10Tab) :
    Calls Tryd.prog 3 #[.slice a n cap] w fun e w' => e = .returned (.bool true) ∧ Below w.heap.size w w' := by
  by_cases hn : n ≤ 1048576
  · have hn' : decide (1048576 < ((n : Nat) : Int)) = false := by simp; omega
    have hrow := arrI_row f n
    have HS := fun (b cap : Nat) (W : World) (hb : b < W.heap.size) (hr : ∀ i, i < n → W.cell? ⟨b, 0 + i, none⟩ = some (.int .i64 (f i))) => specTx b 0 n cap f W hn hb hf hr
    have HI := fun (b cap : Nat) (W : World) (hb : b < W.heap.size) (hw : Below w.heap.size w W) (hr : ∀ i, i < n → W.cell? ⟨b, 0 + i, none⟩ = some (.int .i64 (f i))) => implTx b 0 n cap f W hb hf hr (Joins.tab_stays gPow htab hw (Nat.le_refl _))
    have HF := Lib.hid hf
    generalize resT f n = L at HS HI
    generalize (listOK f n && decide (n ≤ 64)) = ok at HS HI
    clear hf htab
    go_enter Tryd.func3, Tryd.ntmps3
    go_wp2_with (first | (go_at_call 9; refine Calls.mono (toI_any cap hn (h.below (by first | exact Below.refl _ _ | exact hw4.out | exact hw2.out))) ?_; rintro eq wq ⟨rfl, rfl⟩) | (go_at_call 8; refine Calls.mono (HS _ _ _ (by rw [size_alloc1]; exact Nat.lt_succ_self _) cellA) ?_; rintro eq w2 ⟨rfl, hb2⟩; have hw2 := Lib.hid (chain1 (Below.refl _ _) (Nat.le_refl _) hb2); clear hb2) | (go_at_call 10; refine Calls.mono (HI _ _ _ (by rw [size_alloc1]; exact Nat.lt_succ_self _) (hw2.out.alloc hw2.out.size _) cellA) ?_; rintro eq w4 ⟨rfl, hb4⟩; have hx4 := Lib.hid (cellB hb4); have hs4 := Lib.hid (show w2.heap.size < w4.heap.size from Nat.lt_of_lt_of_le (by rw [size_alloc1]; exact Nat.lt_succ_self _) hb4.size); have hw4 := Lib.hid (chain1 hw2.out hw2.out.size hb4); clear hb4) | (go_at_call 11; refine Calls.mono (eqI _ 0 _ _ 0 _ n f _ hn (cellC hs4.out hx4.out) cellA) ?_; rintro eq w5 ⟨nq, rfl, rfl⟩))
    go_ret
    exact ⟨rfl, below_drewN (hw4.out.alloc hw4.out.size _) _⟩
  · have hn' : decide (1048576 < ((n : Nat) : Int)) = true := by simp; omega
    go_enter Tryd.func3, Tryd.ntmps3
    go_wp2_with fail
    go_ret
    exact ⟨rfl, Below.refl _ _⟩

theorem walk_FnExactListText (a : Option Addr) (n cap : Nat) (f : Nat → Int) (W : World) (hf : ∀ i, -9223372036854775808 ≤ f i ∧ f i ≤ 9223372036854775807) (h : RowI W a n f) (hL : laidMetH Tryd.prog Rows.fnExactListTextRow.laid W) :
    Calls Tryd.prog 3 #[.slice a n cap] W fun e w' => e = .returned (.bool true) ∧ Below W.heap.size W w' := by
  refine walk_txt a n cap f W hf h (pow_of_laid (a := ("math/bits.deBruijn32tab", Rows.laid_math_bits_deBruijn32tab)) (b := ("math/bits.deBruijn64tab", Rows.laid_math_bits_deBruijn64tab)) (rest := []) ?_ ?_ hL)
  · rw [MakeChecks.laidMetH_plain _ _ _ (by kernel_rfl)]
  · rfl
end Go.Proofs.YtmegolkpnmpbiaaDoor
