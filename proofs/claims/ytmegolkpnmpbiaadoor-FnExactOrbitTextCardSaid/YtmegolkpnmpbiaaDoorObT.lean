/-
  The text of an orbit: for every one the law's text returns true, and writes nothing that was there. What the library's table holds is the only condition.
-/
import Derived.Test.YtmegolkpnmpbiaaDoorTxtFL
import Derived.Test.YtmegolkpnmpbiaaDoorOrbSD
import Derived.StillTailTactics
namespace Go.Proofs.YtmegolkpnmpbiaaDoor
open Go.RowKit

/-- 6 words. -/
def row6 (a0 a1 a2 a3 a4 a5 : Nat) : Nat → Nat | 0 => a0 | 1 => a1 | 2 => a2 | 3 => a3 | 4 => a4 | _ => a5
theorem row6_lt {a0 a1 a2 a3 a4 a5 : Nat} (k0 : a0 < 2 ^ 32) (k1 : a1 < 2 ^ 32) (k2 : a2 < 2 ^ 32) (k3 : a3 < 2 ^ 32) (k4 : a4 < 2 ^ 32) (k5 : a5 < 2 ^ 32) (i : Nat) (h : i < 6) : row6 a0 a1 a2 a3 a4 a5 i < 2 ^ 32 := by
  match i, h with
  | 0, _ => exact k0
  | 1, _ => exact k1
  | 2, _ => exact k2
  | 3, _ => exact k3
  | 4, _ => exact k4
  | 5, _ => exact k5
theorem row6_cell (a0 a1 a2 a3 a4 a5 : Nat) (w : World) (i : Nat) (h : i < 6) : (w.alloc (.cells #[.float .f32 a0, .float .f32 a1, .float .f32 a2, .float .f32 a3, .float .f32 a4, .float .f32 a5] 33)).cell? ⟨w.heap.size, 0 + i, none⟩ = some (.float .f32 (row6 a0 a1 a2 a3 a4 a5 i)) := by
  rw [Nat.zero_add]
  refine cell_of_block (heap_alloc_new w _) ?_
  match i, h with
  | 0, _ => rfl
  | 1, _ => rfl
  | 2, _ => rfl
  | 3, _ => rfl
  | 4, _ => rfl
  | 5, _ => rfl
/-- The text, if the numbers are valid. -/
def res6 (ok : Bool) (a0 a1 a2 a3 a4 a5 : Nat) : List UInt8 := if ok then txtF (row6 a0 a1 a2 a3 a4 a5) 6 else []

section
variable {a0 a1 a2 a3 a4 a5 : Nat} {x0 x1 x2 x3 x4 x5 : Option Nat} (h0 : Is .f32 a0 x0) (h1 : Is .f32 a1 x1) (h2 : Is .f32 a2 x2) (h3 : Is .f32 a3 x3) (h4 : Is .f32 a4 x4) (h5 : Is .f32 a5 x5)
include h0 h1 h2 h3 h4 h5

theorem iT6 (k0 : a0 < 2 ^ 32) (k1 : a1 < 2 ^ 32) (k2 : a2 < 2 ^ 32) (k3 : a3 < 2 ^ 32) (k4 : a4 < 2 ^ 32) (k5 : a5 < 2 ^ 32) (w : World) (htab : Tab w) :
    Calls Tryd.prog 24 #[orbV a0 a1 a2 a3 a4 a5] w (RetTx (res6 (orbB x0 x1 x2 x3 x4 x5) a0 a1 a2 a3 a4 a5) (orbB x0 x1 x2 x3 x4 x5) w) := by
  have HI := fun (w : World) (ht : Tab w) (B : Nat) (hB : B = w.heap.size) => hB ▸ implTxF w.heap.size 0 6 6 (row6 a0 a1 a2 a3 a4 a5) (w.alloc (.cells #[.float .f32 a0, .float .f32 a1, .float .f32 a2, .float .f32 a3, .float .f32 a4, .float .f32 a5] 33)) (by rw [size_alloc1]; omega) (row6_lt k0 k1 k2 k3 k4 k5) (row6_cell a0 a1 a2 a3 a4 a5 w) (ht.stays ((Below.refl _ _).alloc (Nat.le_refl _) _))
  rw [show resF (row6 a0 a1 a2 a3 a4 a5) 6 = txtF (row6 a0 a1 a2 a3 a4 a5) 6 from rfl, show decide (6 ≤ 256) = true from rfl] at HI
  unfold res6
  generalize txtF (row6 a0 a1 a2 a3 a4 a5) 6 = L at HI ⊢
  have HT := Lib.hid htab
  have HV := fun (w : World) => iOrb h0 h1 h2 h3 h4 h5 w
  generalize orbB x0 x1 x2 x3 x4 x5 = ok at HV ⊢
  clear h0 h1 h2 h3 h4 h5 k0 k1 k2 k3 k4 k5 htab
  have hst := run_store_float Tryd.prog
  cases ok <;>
    (go_enter Tryd.func24, Tryd.ntmps24
     go_wp2_with (first | (go_at_call 41; refine (HV _).mono ?_; rintro eq w1 ⟨rfl, hb1⟩; have HB1 := Lib.hid (chain1 (Below.refl _ _) (Nat.le_refl _) hb1); have hz1 := hb1.size; have q0 : w1.cell? ⟨w.heap.size, 0, none⟩ = some (.float .f32 a0) := (hb1.cell (p := ⟨w.heap.size, 0, none⟩) (by simp)).trans (by simp); have q1 : w1.cell? ⟨w.heap.size, 1, none⟩ = some (.float .f32 a1) := (hb1.cell (p := ⟨w.heap.size, 1, none⟩) (by simp)).trans (by simp); have q2 : w1.cell? ⟨w.heap.size, 2, none⟩ = some (.float .f32 a2) := (hb1.cell (p := ⟨w.heap.size, 2, none⟩) (by simp)).trans (by simp); have q3 : w1.cell? ⟨w.heap.size, 3, none⟩ = some (.float .f32 a3) := (hb1.cell (p := ⟨w.heap.size, 3, none⟩) (by simp)).trans (by simp); have q4 : w1.cell? ⟨w.heap.size, 4, none⟩ = some (.float .f32 a4) := (hb1.cell (p := ⟨w.heap.size, 4, none⟩) (by simp)).trans (by simp); have q5 : w1.cell? ⟨w.heap.size, 5, none⟩ = some (.float .f32 a5) := (hb1.cell (p := ⟨w.heap.size, 5, none⟩) (by simp)).trans (by simp); clear hb1) | (go_at_call 14; refine (HI _ (HT.out.stays (by first | exact HB1.out | (repeat (first | exact Below.refl _ _ | refine Below.alloc ?_ (by simp) _)))) _ (by simp)).mono ?_; rintro eq w2 ⟨rfl, hb2⟩; have HB2 := Lib.hid (chain1 HB1.out HB1.out.size hb2); clear hb2))
     go_ret2
     refine ⟨by first | rfl | simp, ?_⟩
     first | exact HB2.out | exact HB1.out)
end

set_option maxRecDepth 100000 in
theorem sSix {a0 a1 a2 a3 a4 a5 : Nat} (b : Nat) (w : World) (_hb : b < w.heap.size) (c0 : w.cell? ⟨b, 0, none⟩ = some (.float .f32 a0)) (c1 : w.cell? ⟨b, 1, none⟩ = some (.float .f32 a1)) (c2 : w.cell? ⟨b, 2, none⟩ = some (.float .f32 a2)) (c3 : w.cell? ⟨b, 3, none⟩ = some (.float .f32 a3)) (c4 : w.cell? ⟨b, 4, none⟩ = some (.float .f32 a4)) (c5 : w.cell? ⟨b, 5, none⟩ = some (.float .f32 a5)) :
    Calls Tryd.prog 40 #[.pointer (some ⟨b, 0, none⟩)] w fun e w' => ∃ w1, Below w.heap.size w w1 ∧ w1.heap.size = w.heap.size ∧ e = .returned (.slice (some ⟨w.heap.size, 0, none⟩) 6 6) ∧ w' = w1.alloc (.cells #[.float .f32 a0, .float .f32 a1, .float .f32 a2, .float .f32 a3, .float .f32 a4, .float .f32 a5] 33) := by
  go_enter Tryd.func40, Tryd.ntmps40
  go_wp2
  go_still_tail 24, (by kernel_rfl)
  change wpList _ _ _ _ _ w.drew
  have b2 : Below w.heap.size w w.drew := (Below.refl _ _).drew
  have z2 : w.drew.heap.size = w.heap.size := by first | rfl | simp
  generalize w.drew = w1 at b2 z2 ⊢
  go_wp2_with fail
  go_ret
  exact ⟨w1, b2, z2, rfl, rfl⟩
set_option maxRecDepth 100000 in
theorem sB6 {a0 a1 a2 a3 a4 a5 : Nat} {x0 x1 x2 x3 x4 x5 : Option Nat} (h0 : Is .f32 a0 x0) (h1 : Is .f32 a1 x1) (h2 : Is .f32 a2 x2) (h3 : Is .f32 a3 x3) (h4 : Is .f32 a4 x4) (h5 : Is .f32 a5 x5) (k0 : a0 < 2 ^ 32) (k1 : a1 < 2 ^ 32) (k2 : a2 < 2 ^ 32) (k3 : a3 < 2 ^ 32) (k4 : a4 < 2 ^ 32) (k5 : a5 < 2 ^ 32) (w : World) :
    Calls Tryd.prog 22 #[orbV a0 a1 a2 a3 a4 a5] w (RetTx (res6 (orbB x0 x1 x2 x3 x4 x5) a0 a1 a2 a3 a4 a5) (orbB x0 x1 x2 x3 x4 x5) w) := by
  have HI := fun (w : World) (B : Nat) (hB : B = w.heap.size) => hB ▸ specTextF w.heap.size 0 6 6 (row6 a0 a1 a2 a3 a4 a5) (w.alloc (.cells #[.float .f32 a0, .float .f32 a1, .float .f32 a2, .float .f32 a3, .float .f32 a4, .float .f32 a5] 33)) (by decide) (by decide) (by rw [size_alloc1]; omega) (row6_lt k0 k1 k2 k3 k4 k5) (row6_cell a0 a1 a2 a3 a4 a5 w)
  have HV := fun (w : World) (b : Nat) (hb : b < w.heap.size) (c0 : w.cell? ⟨b, 0, none⟩ = some (.float .f32 a0)) (c1 : w.cell? ⟨b, 1, none⟩ = some (.float .f32 a1)) (c2 : w.cell? ⟨b, 2, none⟩ = some (.float .f32 a2)) (c3 : w.cell? ⟨b, 3, none⟩ = some (.float .f32 a3)) (c4 : w.cell? ⟨b, 4, none⟩ = some (.float .f32 a4)) (c5 : w.cell? ⟨b, 5, none⟩ = some (.float .f32 a5)) => sIs h0 h1 h2 h3 h4 h5 b 0 w hb c0 (by simpa using c1) (by simpa using c2) (by simpa using c3) (by simpa using c4) (by simpa using c5)
  rw [orb_same h1] at HV
  unfold res6
  generalize txtF (row6 a0 a1 a2 a3 a4 a5) 6 = L at HI ⊢
  generalize orbB x0 x1 x2 x3 x4 x5 = ok at HV ⊢
  clear h0 h1 h2 h3 h4 h5 k0 k1 k2 k3 k4 k5
  have hst := run_store_float Tryd.prog
  cases ok <;>
    (go_enter Tryd.func22, Tryd.ntmps22
     go_wp2_with (first | (go_at_call 39; refine (HV _ w.heap.size (by simp) (by simp) (by simp) (by simp) (by simp) (by simp) (by simp)).mono ?_; rintro eq w1 ⟨nq, rfl, rfl⟩) | (go_at_call 40; refine (sSix (a0 := a0) (a1 := a1) (a2 := a2) (a3 := a3) (a4 := a4) (a5 := a5) w.heap.size _ (by simp) (by first | (simp; done) | (rw [alloc_drewN]; simp; done) | (simp [alloc_drewN]; done) | (simp [alloc_drewN, World.cell?_alloc_at]; done)) (by first | (simp; done) | (rw [alloc_drewN]; simp; done) | (simp [alloc_drewN]; done) | (simp [alloc_drewN, World.cell?_alloc_at]; done)) (by first | (simp; done) | (rw [alloc_drewN]; simp; done) | (simp [alloc_drewN]; done) | (simp [alloc_drewN, World.cell?_alloc_at]; done)) (by first | (simp; done) | (rw [alloc_drewN]; simp; done) | (simp [alloc_drewN]; done) | (simp [alloc_drewN, World.cell?_alloc_at]; done)) (by first | (simp; done) | (rw [alloc_drewN]; simp; done) | (simp [alloc_drewN]; done) | (simp [alloc_drewN, World.cell?_alloc_at]; done)) (by first | (simp; done) | (rw [alloc_drewN]; simp; done) | (simp [alloc_drewN]; done) | (simp [alloc_drewN, World.cell?_alloc_at]; done))).mono ?_; rintro eq w3 ⟨w2, hb2, hz2, rfl, rfl⟩; have HB2 := Lib.hid ((below_drewN ((Below.refl _ _).alloc (Nat.le_refl _) _) _).trans (hb2.mono (by simp)) : Below w.heap.size w w2); clear hb2) | (go_at_call 31; refine (HI w2 _ (by first | exact hz2.symm | (rw [hz2]; simp; done) | (simp at hz2; omega))).mono ?_; rintro eq w4 ⟨rfl, hb4⟩; have HB4 := Lib.hid (chain1 HB2.out HB2.out.size hb4); clear hb4))
     go_ret2
     refine ⟨by first | rfl | simp, ?_⟩
     first | exact HB4.out | exact below_drewN ((Below.refl _ _).alloc (Nat.le_refl _) _) _)

theorem KK.cell6 {W w : World} {cs : Array Value} {e : TypeId} (h : KK W (.cells cs e) w) {i : Nat} {v : Value} (hi : cs[i]? = some v) : w.cell? ⟨W.heap.size, i, none⟩ = some v :=
  (h.1.cell (p := ⟨W.heap.size, i, none⟩) (Nat.lt_succ_self _)).trans (cell_of_block (heap_alloc_new W _) hi)
set_option maxRecDepth 100000 in
theorem walk_FnExactOrbitText (a0 a1 a2 a3 a4 a5 : Nat) (W : World) (k0 : a0 < 2 ^ 32) (k1 : a1 < 2 ^ 32) (k2 : a2 < 2 ^ 32) (k3 : a3 < 2 ^ 32) (k4 : a4 < 2 ^ 32) (k5 : a5 < 2 ^ 32) (hL : laidMetH Tryd.prog Rows.fnExactOrbitTextRow.laid W) :
    Calls Tryd.prog 7 #[orbV a0 a1 a2 a3 a4 a5] W fun e w' => e = .returned (.bool true) ∧ Below W.heap.size W w' := by
  have htab : Tab W := tab_of_laid (a := ("math/bits.deBruijn32tab", Rows.laid_math_bits_deBruijn32tab)) (rest := [("internal/strconv.uint64pow10", Rows.laid_internal_strconv_uint64pow10)]) (by rw [MakeChecks.laidMetH_plain _ _ _ (by kernel_rfl)]) rfl hL
  have HS := sB6 (Is.self (k := .f32) k0) (Is.self (k := .f32) k1) (Is.self (k := .f32) k2) (Is.self (k := .f32) k3) (Is.self (k := .f32) k4) (Is.self (k := .f32) k5) k0 k1 k2 k3 k4 k5
  have HI := iT6 (Is.self (k := .f32) k0) (Is.self (k := .f32) k1) (Is.self (k := .f32) k2) (Is.self (k := .f32) k3) (Is.self (k := .f32) k4) (Is.self (k := .f32) k5) k0 k1 k2 k3 k4 k5
  generalize res6 (orbB (nrm .f32 a0) (nrm .f32 a1) (nrm .f32 a2) (nrm .f32 a3) (nrm .f32 a4) (nrm .f32 a5)) a0 a1 a2 a3 a4 a5 = L at HS HI
  generalize orbB (nrm .f32 a0) (nrm .f32 a1) (nrm .f32 a2) (nrm .f32 a3) (nrm .f32 a4) (nrm .f32 a5) = ok at HS HI
  have HT := Lib.hid htab
  have HK := Lib.hid (KK.start W (.cells #[.float .f32 a0, .float .f32 a1, .float .f32 a2, .float .f32 a3, .float .f32 a4, .float .f32 a5] 47))
  clear htab hL k0 k1 k2 k3 k4 k5
  have hto := fun w => toOrb (a0 := a0) (a1 := a1) (a2 := a2) (a3 := a3) (a4 := a4) (a5 := a5) w
  go_enter Tryd.func7, Tryd.ntmps7
  go_wp2_with (first | (go_at_call 23; refine (hto _).mono ?_; rintro eq wq ⟨rfl, hg⟩; have HG := Lib.hid (HK.out.next hg); clear hg HK; have HK := HG; clear HG; have y0 := HK.out.cell6 (i := 0) rfl; have y1 := HK.out.cell6 (i := 1) rfl; have y2 := HK.out.cell6 (i := 2) rfl; have y3 := HK.out.cell6 (i := 3) rfl; have y4 := HK.out.cell6 (i := 4) rfl; have y5 := HK.out.cell6 (i := 5) rfl) | (go_at_call 22; refine (HS _).mono ?_; rintro eq wq ⟨rfl, hg⟩; have HG := Lib.hid (HK.out.next hg); clear hg HK; have HK := HG; clear HG; have y0 := HK.out.cell6 (i := 0) rfl; have y1 := HK.out.cell6 (i := 1) rfl; have y2 := HK.out.cell6 (i := 2) rfl; have y3 := HK.out.cell6 (i := 3) rfl; have y4 := HK.out.cell6 (i := 4) rfl; have y5 := HK.out.cell6 (i := 5) rfl) | (go_at_call 24; refine (HI _ (HT.out.stays HK.out.below)).mono ?_; rintro eq wq ⟨rfl, hg⟩; have HG := Lib.hid (HK.out.next hg); clear hg HK; have HK := HG; clear HG))
  go_ret
  exact ⟨rfl, HK.out.below⟩
end Go.Proofs.YtmegolkpnmpbiaaDoor
