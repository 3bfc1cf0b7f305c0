/-
  The text of a ball: for every one the law's text returns true, and writes nothing that was there. What the library's table holds is the only condition.
-/
import Derived.Test.YtmegolkpnmpbiaaDoorTxtFL
import Derived.Test.YtmegolkpnmpbiaaDoorBal
import Derived.StillTailTactics
namespace Go.Proofs.YtmegolkpnmpbiaaDoor
open Go.RowKit

/-- 4 words. -/
def row4 (a0 a1 a2 a3 : Nat) : Nat → Nat | 0 => a0 | 1 => a1 | 2 => a2 | _ => a3
theorem row4_lt {a0 a1 a2 a3 : Nat} (k0 : a0 < 2 ^ 32) (k1 : a1 < 2 ^ 32) (k2 : a2 < 2 ^ 32) (k3 : a3 < 2 ^ 32) (i : Nat) (h : i < 4) : row4 a0 a1 a2 a3 i < 2 ^ 32 := by
  match i, h with
  | 0, _ => exact k0
  | 1, _ => exact k1
  | 2, _ => exact k2
  | 3, _ => exact k3
theorem row4_cell (a0 a1 a2 a3 : Nat) (w : World) (i : Nat) (h : i < 4) : (w.alloc (.cells #[.float .f32 a0, .float .f32 a1, .float .f32 a2, .float .f32 a3] 33)).cell? ⟨w.heap.size, 0 + i, none⟩ = some (.float .f32 (row4 a0 a1 a2 a3 i)) := by
  rw [Nat.zero_add]
  refine cell_of_block (heap_alloc_new w _) ?_
  match i, h with
  | 0, _ => rfl
  | 1, _ => rfl
  | 2, _ => rfl
  | 3, _ => rfl
/-- The text, if the numbers are valid. -/
def res4 (ok : Bool) (a0 a1 a2 a3 : Nat) : List UInt8 := if ok then txtF (row4 a0 a1 a2 a3) 4 else []

section
variable {a0 a1 a2 a3 : Nat} {x0 x1 x2 x3 : Option Nat} (h0 : Is .f32 a0 x0) (h1 : Is .f32 a1 x1) (h2 : Is .f32 a2 x2) (h3 : Is .f32 a3 x3)
include h0 h1 h2 h3

theorem iT4 (k0 : a0 < 2 ^ 32) (k1 : a1 < 2 ^ 32) (k2 : a2 < 2 ^ 32) (k3 : a3 < 2 ^ 32) (w : World) (htab : Tab w) :
    Calls Tryd.prog 21 #[balV a0 a1 a2 a3] w (RetTx (res4 (balB x0 x1 x2 x3) a0 a1 a2 a3) (balB x0 x1 x2 x3) w) := by
  have HI := fun (w : World) (ht : Tab w) (B : Nat) (hB : B = w.heap.size) => hB ▸ implTxF w.heap.size 0 4 4 (row4 a0 a1 a2 a3) (w.alloc (.cells #[.float .f32 a0, .float .f32 a1, .float .f32 a2, .float .f32 a3] 33)) (by rw [size_alloc1]; omega) (row4_lt k0 k1 k2 k3) (row4_cell a0 a1 a2 a3 w) (ht.stays ((Below.refl _ _).alloc (Nat.le_refl _) _))
  rw [show resF (row4 a0 a1 a2 a3) 4 = txtF (row4 a0 a1 a2 a3) 4 from rfl, show decide (4 ≤ 256) = true from rfl] at HI
  unfold res4
  generalize txtF (row4 a0 a1 a2 a3) 4 = L at HI ⊢
  have HT := Lib.hid htab
  have HV := fun (w : World) => iBal h0 h1 h2 h3 w
  generalize balB x0 x1 x2 x3 = ok at HV ⊢
  clear h0 h1 h2 h3 k0 k1 k2 k3 htab
  have hst := run_store_float Tryd.prog
  cases ok <;>
    (go_enter Tryd.func21, Tryd.ntmps21
     go_wp2_with (first | (go_at_call 38; refine (HV _).mono ?_; rintro eq w1 ⟨rfl, hb1⟩; have HB1 := Lib.hid (chain1 (Below.refl _ _) (Nat.le_refl _) hb1); have hz1 := hb1.size; have q0 : w1.cell? ⟨w.heap.size, 0, none⟩ = some (.float .f32 a0) := (hb1.cell (p := ⟨w.heap.size, 0, none⟩) (by simp)).trans (by simp); have q1 : w1.cell? ⟨w.heap.size, 1, none⟩ = some (.float .f32 a1) := (hb1.cell (p := ⟨w.heap.size, 1, none⟩) (by simp)).trans (by simp); have q2 : w1.cell? ⟨w.heap.size, 2, none⟩ = some (.float .f32 a2) := (hb1.cell (p := ⟨w.heap.size, 2, none⟩) (by simp)).trans (by simp); have q3 : w1.cell? ⟨w.heap.size, 3, none⟩ = some (.float .f32 a3) := (hb1.cell (p := ⟨w.heap.size, 3, none⟩) (by simp)).trans (by simp); clear hb1) | (go_at_call 14; refine (HI _ (HT.out.stays (by first | exact HB1.out | (repeat (first | exact Below.refl _ _ | refine Below.alloc ?_ (by simp) _)))) _ (by simp)).mono ?_; rintro eq w2 ⟨rfl, hb2⟩; have HB2 := Lib.hid (chain1 HB1.out HB1.out.size hb2); clear hb2))
     go_ret2
     refine ⟨by first | rfl | simp, ?_⟩
     first | exact HB2.out | exact HB1.out)
end

set_option maxRecDepth 100000 in
theorem sT4 {a0 a1 a2 a3 : Nat} (k0 : a0 < 2 ^ 32) (k1 : a1 < 2 ^ 32) (k2 : a2 < 2 ^ 32) (k3 : a3 < 2 ^ 32) (b : Nat) (w : World) (hb : b < w.heap.size) (c0 : w.cell? ⟨b, 0, none⟩ = some (.float .f32 a0)) (c1 : w.cell? ⟨b, 1, none⟩ = some (.float .f32 a1)) (c2 : w.cell? ⟨b, 2, none⟩ = some (.float .f32 a2)) (c3 : w.cell? ⟨b, 3, none⟩ = some (.float .f32 a3)) :
    Calls Tryd.prog 37 #[.pointer (some ⟨b, 0, none⟩)] w (RetS (txtF (row4 a0 a1 a2 a3) 4) w) := by
  have HI := fun (w : World) (B : Nat) (hB : B = w.heap.size) => hB ▸ specTextF w.heap.size 0 4 4 (row4 a0 a1 a2 a3) (w.alloc (.cells #[.float .f32 a0, .float .f32 a1, .float .f32 a2, .float .f32 a3] 33)) (by decide) (by decide) (by rw [size_alloc1]; omega) (row4_lt k0 k1 k2 k3) (row4_cell a0 a1 a2 a3 w)
  generalize txtF (row4 a0 a1 a2 a3) 4 = L at HI ⊢
  clear k0 k1 k2 k3
  go_enter Tryd.func37, Tryd.ntmps37
  go_wp2
  go_still_tail 16, (by kernel_rfl)
  change wpList _ _ _ _ _ w.drew
  have b2 : Below w.heap.size w w.drew := (Below.refl _ _).drew
  generalize w.drew = w1 at b2 ⊢
  go_wp2_with (go_at_call 31; refine (HI _ _ (by first | rfl | (simp; done))).mono ?_; rintro eq w2 ⟨rfl, hb2⟩; have HB2 := Lib.hid (chain1 b2 b2.size hb2); clear hb2)
  go_ret
  exact ⟨rfl, HB2.out⟩
set_option maxRecDepth 100000 in
theorem sB4 {a0 a1 a2 a3 : Nat} {x0 x1 x2 x3 : Option Nat} (h0 : Is .f32 a0 x0) (h1 : Is .f32 a1 x1) (h2 : Is .f32 a2 x2) (h3 : Is .f32 a3 x3) (k0 : a0 < 2 ^ 32) (k1 : a1 < 2 ^ 32) (k2 : a2 < 2 ^ 32) (k3 : a3 < 2 ^ 32) (w : World) :
    Calls Tryd.prog 19 #[balV a0 a1 a2 a3] w (RetTx (res4 (balB x0 x1 x2 x3) a0 a1 a2 a3) (balB x0 x1 x2 x3) w) := by
  have HI := fun (b : Nat) (w : World) (hb : b < w.heap.size) (c0 : w.cell? ⟨b, 0, none⟩ = some (.float .f32 a0)) (c1 : w.cell? ⟨b, 1, none⟩ = some (.float .f32 a1)) (c2 : w.cell? ⟨b, 2, none⟩ = some (.float .f32 a2)) (c3 : w.cell? ⟨b, 3, none⟩ = some (.float .f32 a3)) => sT4 k0 k1 k2 k3 b w hb c0 c1 c2 c3
  have HV := fun (w : World) (b : Nat) (hb : b < w.heap.size) (c0 : w.cell? ⟨b, 0, none⟩ = some (.float .f32 a0)) (c1 : w.cell? ⟨b, 1, none⟩ = some (.float .f32 a1)) (c2 : w.cell? ⟨b, 2, none⟩ = some (.float .f32 a2)) (c3 : w.cell? ⟨b, 3, none⟩ = some (.float .f32 a3)) => sBalP h0 h1 h2 h3 b 0 w hb c0 (by simpa using c1) (by simpa using c2) (by simpa using c3)
  unfold res4
  generalize txtF (row4 a0 a1 a2 a3) 4 = L at HI ⊢
  generalize balB x0 x1 x2 x3 = ok at HV ⊢
  clear h0 h1 h2 h3 k0 k1 k2 k3
  have hst := run_store_float Tryd.prog
  cases ok <;>
    (go_enter Tryd.func19, Tryd.ntmps19
     go_wp2_with (first | (go_at_call 36; refine (HV _ w.heap.size (by simp) (by simp) (by simp) (by simp) (by simp)).mono ?_; rintro eq w1 ⟨rfl, hb1⟩; have HB1 := Lib.hid (chain1 (Below.refl _ _) (Nat.le_refl _) hb1); have hz1 := hb1.size; simp only [size_alloc1] at hz1; have q0 : w1.cell? ⟨w.heap.size, 0, none⟩ = some (.float .f32 a0) := (hb1.cell (p := ⟨w.heap.size, 0, none⟩) (by simp)).trans (by simp); have q1 : w1.cell? ⟨w.heap.size, 1, none⟩ = some (.float .f32 a1) := (hb1.cell (p := ⟨w.heap.size, 1, none⟩) (by simp)).trans (by simp); have q2 : w1.cell? ⟨w.heap.size, 2, none⟩ = some (.float .f32 a2) := (hb1.cell (p := ⟨w.heap.size, 2, none⟩) (by simp)).trans (by simp); have q3 : w1.cell? ⟨w.heap.size, 3, none⟩ = some (.float .f32 a3) := (hb1.cell (p := ⟨w.heap.size, 3, none⟩) (by simp)).trans (by simp); clear hb1) | (go_at_call 37; refine (HI w.heap.size _ (by omega) (by assumption) (by assumption) (by assumption) (by assumption)).mono ?_; rintro eq w2 ⟨rfl, hb2⟩; have HB2 := Lib.hid (HB1.out.trans (hb2.mono HB1.out.size)); clear hb2))
     go_ret2
     refine ⟨by first | rfl | simp, ?_⟩
     first | exact HB2.out | exact HB1.out)

theorem KK.cell4 {W w : World} {cs : Array Value} {e : TypeId} (h : KK W (.cells cs e) w) {i : Nat} {v : Value} (hi : cs[i]? = some v) : w.cell? ⟨W.heap.size, i, none⟩ = some v :=
  (h.1.cell (p := ⟨W.heap.size, i, none⟩) (Nat.lt_succ_self _)).trans (cell_of_block (heap_alloc_new W _) hi)
set_option maxRecDepth 100000 in
theorem walk_FnExactBallText (a0 a1 a2 a3 : Nat) (W : World) (k0 : a0 < 2 ^ 32) (k1 : a1 < 2 ^ 32) (k2 : a2 < 2 ^ 32) (k3 : a3 < 2 ^ 32) (hL : laidMetH Tryd.prog Rows.fnExactBallTextRow.laid W) :
    Calls Tryd.prog 6 #[balV a0 a1 a2 a3] W fun e w' => e = .returned (.bool true) ∧ Below W.heap.size W w' := by
  have htab : Tab W := tab_of_laid (a := ("math/bits.deBruijn32tab", Rows.laid_math_bits_deBruijn32tab)) (rest := [("internal/strconv.uint64pow10", Rows.laid_internal_strconv_uint64pow10)]) (by rw [MakeChecks.laidMetH_plain _ _ _ (by kernel_rfl)]) rfl hL
  have HS := sB4 (Is.self (k := .f32) k0) (Is.self (k := .f32) k1) (Is.self (k := .f32) k2) (Is.self (k := .f32) k3) k0 k1 k2 k3
  have HI := iT4 (Is.self (k := .f32) k0) (Is.self (k := .f32) k1) (Is.self (k := .f32) k2) (Is.self (k := .f32) k3) k0 k1 k2 k3
  generalize res4 (balB (nrm .f32 a0) (nrm .f32 a1) (nrm .f32 a2) (nrm .f32 a3)) a0 a1 a2 a3 = L at HS HI
  generalize balB (nrm .f32 a0) (nrm .f32 a1) (nrm .f32 a2) (nrm .f32 a3) = ok at HS HI
  have HT := Lib.hid htab
  have HK := Lib.hid (KK.start W (.cells #[.float .f32 a0, .float .f32 a1, .float .f32 a2, .float .f32 a3] 41))
  clear htab hL k0 k1 k2 k3
  have hto := fun w => toBal (a0 := a0) (a1 := a1) (a2 := a2) (a3 := a3) w
  go_enter Tryd.func6, Tryd.ntmps6
  go_wp2_with (first | (go_at_call 20; refine (hto _).mono ?_; rintro eq wq ⟨rfl, hg⟩; have HG := Lib.hid (HK.out.next hg); clear hg HK; have HK := HG; clear HG; have y0 := HK.out.cell4 (i := 0) rfl; have y1 := HK.out.cell4 (i := 1) rfl; have y2 := HK.out.cell4 (i := 2) rfl; have y3 := HK.out.cell4 (i := 3) rfl) | (go_at_call 19; refine (HS _).mono ?_; rintro eq wq ⟨rfl, hg⟩; have HG := Lib.hid (HK.out.next hg); clear hg HK; have HK := HG; clear HG; have y0 := HK.out.cell4 (i := 0) rfl; have y1 := HK.out.cell4 (i := 1) rfl; have y2 := HK.out.cell4 (i := 2) rfl; have y3 := HK.out.cell4 (i := 3) rfl) | (go_at_call 21; refine (HI _ (HT.out.stays HK.out.below)).mono ?_; rintro eq wq ⟨rfl, hg⟩; have HG := Lib.hid (HK.out.next hg); clear hg HK; have HK := HG; clear HG))
  go_ret
  exact ⟨rfl, HK.out.below⟩
end Go.Proofs.YtmegolkpnmpbiaaDoor
