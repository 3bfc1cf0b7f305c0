/-
  The texts of a list of numbers and of a vector: for each the law returns true, and writes nothing that was there. What the library's table holds is the only condition.
-/
import Derived.Test.YtmegolkpnmpbiaaDoorRows
import Derived.Test.YtmegolkpnmpbiaaDoorTxtF
import Derived.Test.YtmegolkpnmpbiaaDoorTo
import Derived.Lib.LaidTab
import Derived.LaidMore
import Derived.Stop.Joined
import Derived.Stop.LaidErr
namespace Go.Proofs.YtmegolkpnmpbiaaDoor
open Go.RowKit

theorem gTz : Tryd.prog.globalNamed "math/bits.deBruijn64tab" = some 4 := by kernel_rfl
def tzTab : List Int := [0, 1, 56, 2, 57, 49, 28, 3, 61, 58, 42, 50, 38, 29, 17, 4, 62, 47, 59, 36, 45, 43, 51, 22, 53, 39, 33, 30, 24, 18, 12, 5, 63, 55, 48, 27, 60, 41, 37, 16, 46, 35, 44, 21, 52, 32, 23, 11, 54, 26, 40, 15, 34, 20, 31, 10, 25, 14, 19, 9, 13, 8, 7, 6]
theorem tab_of_laid {l : List (String × DataW Unit)} {W : World} (hH : laidMetH Tryd.prog l W ↔ laidMet Tryd.prog l W) {a : String × DataW Unit} {rest : List (String × DataW Unit)}
    (hl : l = a :: ("math/bits.deBruijn64tab", Lib.tabData .u8 tzTab) :: rest) (h : laidMetH Tryd.prog l W) : Tab W := by
  have h := hH.1 h
  rw [hl] at h
  have ht : Lib.TabIs Tryd.prog W "math/bits.deBruijn64tab" .u8 tzTab := Lib.tabIs_of_head gTz (by kernel_rfl) Tryd.underlying122 Tryd.underlying5 (by kernel_rfl) (by kernel_rfl) (laidMet.tail h)
  have hc := ht.cell gTz 15 (by decide)
  exact ⟨hc, World.block_lt_of_cell? _ _ hc⟩

def noneT : List UInt8 := [110, 111, 110, 101]
def resF (f : Nat → Nat) (n : Nat) : List UInt8 := if n ≤ 256 then (if n = 0 then noneT else txtF f n) else []
/-- A text and a yes or no are handed back. -/
def RetTx (l : List UInt8) (ok : Bool) (w : World) (e : Ending) (w' : World) : Prop := e = .returned (.tuple #[.string ⟨l.toArray⟩, .bool ok]) ∧ Below w.heap.size w w'

theorem specTxF (b off n cap : Nat) (f : Nat → Nat) (w : World) (hb : b < w.heap.size) (hf : ∀ i, i < n → f i < 2 ^ 32)
    (hr : ∀ i, i < n → w.cell? ⟨b, off + i, none⟩ = some (.float .f32 (f i))) :
    Calls Tryd.prog 12 #[.slice (some ⟨b, off, none⟩) n cap] w (RetTx (resF f n) (decide (n ≤ 256)) w) := by
  unfold resF
  by_cases h : n ≤ 256
  · rw [if_pos h]
    have hd : decide ((n : Int) ≤ 256) = true := by simp; omega
    have H2 := Lib.hid (decide_eq_true h)
    rcases Nat.eq_zero_or_pos n with rfl | h0
    · rw [if_pos rfl]
      clear hr hf
      go_enter Tryd.func12, Tryd.ntmps12
      go_wp2_with (first | (go_at_call 30; go_in) | (go_at_call 31; go_in))
      go_ret2
      exact ⟨rfl, Below.refl _ _⟩
    · rw [if_neg (by omega)]
      have HT := specTextF b off n cap f w h0 h hb hf hr
      rw [show decide (n ≤ 256) = true from decide_eq_true h]
      clear hr hf
      go_enter Tryd.func12, Tryd.ntmps12
      go_wp2_with (first | (go_at_call 30; go_in) | (go_at_call 31; refine HT.mono ?_; rintro eq w2 ⟨rfl, hb2⟩))
      go_ret2
      exact ⟨rfl, hb2⟩
  · rw [if_neg h, show decide (n ≤ 256) = false from decide_eq_false h]
    have hd : decide ((n : Int) ≤ 256) = false := by simp; omega
    clear hr hf
    go_enter Tryd.func12, Tryd.ntmps12
    go_wp2_with (first | (go_at_call 30; go_in))
    go_ret2
    exact ⟨rfl, Below.refl _ _⟩

theorem implTxF (b off n cap : Nat) (f : Nat → Nat) (w : World) (hb : b < w.heap.size) (hf : ∀ i, i < n → f i < 2 ^ 32)
    (hr : ∀ i, i < n → w.cell? ⟨b, off + i, none⟩ = some (.float .f32 (f i))) (htab : Tab w) :
    Calls Tryd.prog 14 #[.slice (some ⟨b, off, none⟩) n cap] w (RetTx (resF f n) (decide (n ≤ 256)) w) := by
  unfold resF
  by_cases h : n ≤ 256
  · rw [if_pos h]
    have hd : decide (256 < (n : Int)) = false := by simp; omega
    have H2 := Lib.hid (decide_eq_true h)
    rw [show decide (n ≤ 256) = true from decide_eq_true h]
    rcases Nat.eq_zero_or_pos n with rfl | h0
    · rw [if_pos rfl]
      clear hr hf htab
      go_enter Tryd.func14, Tryd.ntmps14
      go_wp2_with (first | (go_at_call 32; go_in))
      go_ret2
      exact ⟨rfl, Below.refl _ _⟩
    · rw [if_neg (by omega)]
      have HT := joinF b off n cap f w h0 h hb hf hr htab
      clear hr hf htab
      go_enter Tryd.func14, Tryd.ntmps14
      go_wp2_with (first | (go_at_call 32; refine HT.mono ?_; rintro eq w2 ⟨rfl, hb2⟩))
      go_ret2
      exact ⟨rfl, hb2⟩
  · rw [if_neg h, show decide (n ≤ 256) = false from decide_eq_false h]
    have hd : decide (256 < (n : Int)) = true := by simp; omega
    clear hr hf htab
    go_enter Tryd.func14, Tryd.ntmps14
    go_wp2_with fail
    go_ret2
    exact ⟨rfl, Below.refl _ _⟩

theorem size_alloc1 (w : World) (o : Obj) : (w.alloc o).heap.size = w.heap.size + 1 := by simp
theorem chain1 {B : Nat} {w a b : World} {o : Obj} (h : Below B w a) (hB : B ≤ a.heap.size) (hb : Below (a.alloc o).heap.size (a.alloc o) b) : Below B w b :=
  (h.alloc hB o).trans (hb.mono (by rw [size_alloc1]; omega))
theorem cellA {w : World} {f : Nat → Nat} {n : Nat} : ∀ i, i < n → (w.alloc (.cells (arrK f n n) 33)).cell? ⟨w.heap.size, 0 + i, none⟩ = some (.float .f32 (f i)) := fun i hi => by
  rw [Nat.zero_add]
  exact cell_of_block (heap_alloc_new w _) (arrK_row f n i hi)
theorem cellB {w b : World} {f : Nat → Nat} {n : Nat} (hb : Below (w.alloc (.cells (arrK f n n) 33)).heap.size (w.alloc (.cells (arrK f n n) 33)) b) : ∀ i, i < n → b.cell? ⟨w.heap.size, 0 + i, none⟩ = some (.float .f32 (f i)) := fun i hi =>
  (hb.cell (p := ⟨w.heap.size, 0 + i, none⟩) (by rw [size_alloc1]; exact Nat.lt_succ_self _)).trans (cellA i hi)
theorem cellC {b : World} {o : Obj} {B : Nat} {f : Nat → Nat} {n : Nat} (hB : B < b.heap.size) (h : ∀ i, i < n → b.cell? ⟨B, 0 + i, none⟩ = some (.float .f32 (f i))) : ∀ i, i < n → (b.alloc o).cell? ⟨B, 0 + i, none⟩ = some (.float .f32 (f i)) := fun i hi => by
  rw [← h i hi]
  exact ((Below.refl b.heap.size b).alloc (Nat.le_refl _) o).cell (p := ⟨B, 0 + i, none⟩) hB

set_option maxHeartbeats 1600000 in
theorem walk_txt (a : Option Addr) (n cap : Nat) (f : Nat → Nat) (w : World) (hf : ∀ i, i < n → f i < 2 ^ 32) (h : RowF w a n f) (htab : Tab w) :
    Calls Tryd.prog 4 #[.slice a n cap] w fun e w' => e = .returned (.bool true) ∧ Below w.heap.size w w' := by
  by_cases hn : n ≤ 1048576
  · have hn' : decide (1048576 < ((n : Nat) : Int)) = false := by simp; omega
    have hrow := arrK_row f n
    have HS := fun (b cap : Nat) (W : World) (hb : b < W.heap.size) (hr : ∀ i, i < n → W.cell? ⟨b, 0 + i, none⟩ = some (.float .f32 (f i))) => specTxF b 0 n cap f W hb hf hr
    have HI := fun (b cap : Nat) (W : World) (hb : b < W.heap.size) (hw : Below w.heap.size w W) (hr : ∀ i, i < n → W.cell? ⟨b, 0 + i, none⟩ = some (.float .f32 (f i))) => implTxF b 0 n cap f W hb hf hr (htab.stays hw)
    have HF := Lib.hid hf
    generalize resF f n = L at HS HI
    generalize (decide (n ≤ 256)) = ok at HS HI
    clear hf htab
    go_enter Tryd.func4, Tryd.ntmps4
    go_wp2_with (first | (go_at_call 13; refine Calls.mono (toF_any cap hn (h.below (by first | exact Below.refl _ _ | exact hw4.out | exact hw2.out))) ?_; rintro eq wq ⟨rfl, rfl⟩) | (go_at_call 12; refine Calls.mono (HS _ _ _ (by rw [size_alloc1]; exact Nat.lt_succ_self _) cellA) ?_; rintro eq w2 ⟨rfl, hb2⟩; have hw2 := Lib.hid (chain1 (Below.refl _ _) (Nat.le_refl _) hb2); clear hb2) | (go_at_call 14; refine Calls.mono (HI _ _ _ (by rw [size_alloc1]; exact Nat.lt_succ_self _) (hw2.out.alloc hw2.out.size _) cellA) ?_; rintro eq w4 ⟨rfl, hb4⟩; have hx4 := Lib.hid (cellB hb4); have hs4 := Lib.hid (show w2.heap.size < w4.heap.size from Nat.lt_of_lt_of_le (by rw [size_alloc1]; exact Nat.lt_succ_self _) hb4.size); have hw4 := Lib.hid (chain1 hw2.out hw2.out.size hb4); clear hb4) | (go_at_call 15; refine Calls.mono (eqF _ 0 _ _ 0 _ n f _ hn HF.out (cellC hs4.out hx4.out) cellA) ?_; rintro eq w5 ⟨nq, rfl, rfl⟩))
    go_ret
    exact ⟨rfl, below_drewN (hw4.out.alloc hw4.out.size _) _⟩
  · have hn' : decide (1048576 < ((n : Nat) : Int)) = true := by simp; omega
    go_enter Tryd.func4, Tryd.ntmps4
    go_wp2_with fail
    go_ret
    exact ⟨rfl, Below.refl _ _⟩

theorem walk_FnExactNumbersText (a : Option Addr) (n cap : Nat) (f : Nat → Nat) (W : World) (hf : ∀ i, i < n → f i < 2 ^ 32) (h : RowF W a n f) (hL : laidMetH Tryd.prog Rows.fnExactNumbersTextRow.laid W) :
    Calls Tryd.prog 4 #[.slice a n cap] W fun e w' => e = .returned (.bool true) ∧ Below W.heap.size W w' := by
  refine walk_txt a n cap f W hf h (tab_of_laid (a := ("math/bits.deBruijn32tab", Rows.laid_math_bits_deBruijn32tab)) (rest := [("internal/strconv.uint64pow10", Rows.laid_internal_strconv_uint64pow10)]) ?_ ?_ hL)
  · rw [MakeChecks.laidMetH_plain _ _ _ (by kernel_rfl)]
  · rfl

/-- Three words. -/
def row3 (a b c : Nat) : Nat → Nat | 0 => a | 1 => b | _ => c
theorem row3_lt {a b c : Nat} (ha : a < 2 ^ 32) (hb : b < 2 ^ 32) (hc : c < 2 ^ 32) (i : Nat) (h : i < 3) : row3 a b c i < 2 ^ 32 := by
  match i with
  | 0 => exact ha
  | 1 => exact hb
  | i + 2 => exact hc
theorem row3_cell (a b c : Nat) (w : World) (i : Nat) (h : i < 3) : (w.alloc (.cells #[.float .f32 a, .float .f32 b, .float .f32 c] 33)).cell? ⟨w.heap.size, 0 + i, none⟩ = some (.float .f32 (row3 a b c i)) := by
  rw [Nat.zero_add]
  refine cell_of_block (heap_alloc_new w _) ?_
  match i, h with
  | 0, _ => rfl
  | 1, _ => rfl
  | 2, _ => rfl

theorem specV (a b c : Nat) (ha : a < 2 ^ 32) (hb : b < 2 ^ 32) (hc : c < 2 ^ 32) (w : World) :
    Calls Tryd.prog 16 #[vecV a b c] w (RetS (txtF (row3 a b c) 3) w) := by
  have HS := fun (w : World) (B : Nat) (hB : B = w.heap.size) => hB ▸ specTextF w.heap.size 0 3 3 (row3 a b c) (w.alloc (.cells #[.float .f32 a, .float .f32 b, .float .f32 c] 33)) (by decide) (by decide) (by rw [size_alloc1]; omega) (row3_lt ha hb hc) (row3_cell a b c w)
  generalize txtF (row3 a b c) 3 = L at HS
  clear ha hb hc
  have hst := run_store_float Tryd.prog
  unfold vecV
  go_enter Tryd.func16, Tryd.ntmps16
  go_wp2_with (first | (go_at_call 35; go_in) | (go_at_call 31; refine (HS _ _ (by simp)).mono ?_; rintro eq w1 ⟨rfl, hb1⟩; have hw1 := Lib.hid (chain1 (Below.refl _ _) (Nat.le_refl _) hb1); clear hb1))
  go_ret
  exact ⟨rfl, (by repeat (first | exact Below.refl _ _ | refine Below.alloc ?_ (by simp) _) : Below w.heap.size w _).trans (hw1.out.mono (by first | (simp; done) | (simp; omega)))⟩

theorem implV (a b c : Nat) (ha : a < 2 ^ 32) (hb : b < 2 ^ 32) (hc : c < 2 ^ 32) (w : World) (htab : Tab w) :
    Calls Tryd.prog 18 #[vecV a b c] w (RetS (txtF (row3 a b c) 3) w) := by
  have HI := fun (w : World) (ht : Tab w) (B : Nat) (hB : B = w.heap.size) => hB ▸ joinF w.heap.size 0 3 3 (row3 a b c) (w.alloc (.cells #[.float .f32 a, .float .f32 b, .float .f32 c] 33)) (by decide) (by decide) (by rw [size_alloc1]; omega) (row3_lt ha hb hc) (row3_cell a b c w) (ht.stays ((Below.refl _ _).alloc (Nat.le_refl _) _))
  generalize txtF (row3 a b c) 3 = L at HI
  have HT := Lib.hid htab
  clear ha hb hc htab
  have hst := run_store_float Tryd.prog
  unfold vecV
  go_enter Tryd.func18, Tryd.ntmps18
  go_wp2_with (first | (go_at_call 32; refine (HI _ (HT.out.stays (by repeat (first | exact Below.refl _ _ | refine Below.alloc ?_ (by simp) _))) _ (by simp)).mono ?_; rintro eq w1 ⟨rfl, hb1⟩; have hw1 := Lib.hid (chain1 (Below.refl _ _) (Nat.le_refl _) hb1); clear hb1))
  go_ret
  exact ⟨rfl, (by repeat (first | exact Below.refl _ _ | refine Below.alloc ?_ (by simp) _) : Below w.heap.size w _).trans (hw1.out.mono (by first | (simp; done) | (simp; omega)))⟩

/-- What was laid first stands as it was laid. -/
def KK (W : World) (o : Obj) (w : World) : Prop := Below (W.heap.size + 1) (W.alloc o) w ∧ W.heap.size + 1 ≤ w.heap.size
theorem KK.start (W : World) (o : Obj) : KK W o (W.alloc o) := ⟨Below.refl _ _, by rw [size_alloc1]; exact Nat.le_refl _⟩
theorem KK.next {W w w' : World} {o : Obj} (h : KK W o w) (hb : Below w.heap.size w w') : KK W o w' := ⟨h.1.trans (hb.mono h.2), Nat.le_trans h.2 hb.size⟩
theorem KK.below {W w : World} {o : Obj} (h : KK W o w) : Below W.heap.size W w := ((Below.refl _ _).alloc (Nat.le_refl _) o).trans (h.1.mono (Nat.le_succ _))
theorem KK.cells {W w : World} {a b c : Value} {e : TypeId} (h : KK W (.cells #[a, b, c] e) w) : w.cell? ⟨W.heap.size, 0, none⟩ = some a ∧ w.cell? ⟨W.heap.size, 1, none⟩ = some b ∧ w.cell? ⟨W.heap.size, 2, none⟩ = some c :=
  ⟨(h.1.cell (p := ⟨W.heap.size, 0, none⟩) (Nat.lt_succ_self _)).trans (cell_of_block (heap_alloc_new W _) rfl), (h.1.cell (p := ⟨W.heap.size, 1, none⟩) (Nat.lt_succ_self _)).trans (cell_of_block (heap_alloc_new W _) rfl), (h.1.cell (p := ⟨W.heap.size, 2, none⟩) (Nat.lt_succ_self _)).trans (cell_of_block (heap_alloc_new W _) rfl)⟩

theorem walk_FnExactVectorText (a b c : Nat) (W : World) (ha : a < 2 ^ 32) (hb : b < 2 ^ 32) (hc : c < 2 ^ 32) (hL : laidMetH Tryd.prog Rows.fnExactVectorTextRow.laid W) :
    Calls Tryd.prog 5 #[.agg #[.float .f32 a, .float .f32 b, .float .f32 c]] W fun e w' => e = .returned (.bool true) ∧ Below W.heap.size W w' := by
  have htab : Tab W := tab_of_laid (a := ("math/bits.deBruijn32tab", Rows.laid_math_bits_deBruijn32tab)) (rest := [("internal/strconv.uint64pow10", Rows.laid_internal_strconv_uint64pow10)]) (by rw [MakeChecks.laidMetH_plain _ _ _ (by kernel_rfl)]) rfl hL
  have HS := specV a b c ha hb hc
  have HI := implV a b c ha hb hc
  generalize txtF (row3 a b c) 3 = L at HS HI
  have HT := Lib.hid htab
  have HK := Lib.hid (KK.start W (.cells #[.float .f32 a, .float .f32 b, .float .f32 c] 35))
  clear htab hL ha hb hc
  unfold vecV at HS HI
  have hto := fun w => toVec_any (a0 := a) (a1 := b) (a2 := c) w
  unfold vecV at hto
  go_enter Tryd.func5, Tryd.ntmps5
  go_wp2_with (first | (go_at_call 17; refine (hto _).mono ?_; rintro eq wq ⟨rfl, hg⟩; have HG := Lib.hid (HK.out.next hg.1); clear hg HK; have HK := HG; clear HG; obtain ⟨hk0, hk1, hk2⟩ := HK.out.cells) | (go_at_call 16; refine (HS _).mono ?_; rintro eq wq ⟨rfl, hg⟩; have HG := Lib.hid (HK.out.next hg); clear hg HK; have HK := HG; clear HG; obtain ⟨hk0, hk1, hk2⟩ := HK.out.cells) | (go_at_call 18; refine (HI _ (HT.out.stays HK.out.below)).mono ?_; rintro eq wq ⟨rfl, hg⟩; have HG := Lib.hid (HK.out.next hg); clear hg HK; have HK := HG; clear HG))
  go_ret
  exact ⟨rfl, HK.out.below⟩
end Go.Proofs.YtmegolkpnmpbiaaDoor
