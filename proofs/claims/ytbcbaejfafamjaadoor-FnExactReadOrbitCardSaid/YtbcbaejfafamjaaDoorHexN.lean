/-
  The eight hexadecimal digits of a number's bits, of the program and of the model. Condition: what the library's table holds.
-/
import Derived.Test.YtbcbaejfafamjaaDoorHex
import Derived.Test.YtbcbaejfafamjaaDoorFns1
import Derived.Test.YtbcbaejfafamjaaDoorRept
import Derived.Lib.SmallJoins
namespace Go.Proofs.YtbcbaejfafamjaaDoor
open Go.RowKit

/-- A text is handed back, and nothing that was there is written. -/
def RetS (l : List UInt8) (w : World) (e : Ending) (w' : World) : Prop := e = .returned (.string ⟨l.toArray⟩) ∧ Below w.heap.size w w'

def bitsN (v : Option Nat) : Nat := match v with | none => 2143289344 | some b => b
theorem bitsN_I (v : Option Nat) : bitsI v = (bitsN v : Nat) := by cases v <;> rfl
theorem bitsN_lt {x : Nat} {v : Option Nat} (ix : Is .f32 x v) : bitsN v < 4294967296 := by
  cases v with
  | none => decide
  | some b => have h := ix.2; obtain rfl := ix.notNaN; exact h
theorem bytes_eq {s : ByteArray} {l : List UInt8} (h : s.data.toList = l) : s = ⟨l.toArray⟩ := by subst h; rfl

theorem implNum {x : Nat} {v : Option Nat} (ix : Is .f32 x v) (w : World) (hz : w.cell? ⟨8, 15, none⟩ = some (.int .u8 4)) (hg : 8 < w.heap.size) :
    Calls Tryd.prog 50 #[.float .f32 x] w (RetS (hex8 (bitsN v)) w) := by
  have hu := bitsN_lt ix
  have HB := fun w => bitsOf_any ix w
  rw [bitsN_I] at HB
  have HF := fun (n : Nat) => fmtI16 (bitsN v) hu (w.drewN n) hz hg
  have h8 := hex8_eq hu
  obtain ⟨hs, hk⟩ := hexB_size hu
  have hs8 : (hexB (bitsN v)).size ≤ 8 := by omega
  generalize hexB (bitsN v) = d at HF h8 hs8 hs
  have HR := fun (w' : World) => Tryd.strings_Repeat ⟨#[48]⟩ (8 - d.size) w' (by omega) (by show 1 * _ ≤ _; omega)
  have hc : ((8 : Int) - (d.size : Int)) = ((8 - d.size : Nat) : Int) := by omega
  have hnl : ¬ 9223372036854775807 < (Lib.repeatL [48] (8 - d.size)).length + d.size := by
    have := congrArg List.length h8
    rw [List.length_append, hex8_length] at this
    have e : d.data.toList.length = d.size := Array.length_toList
    rw [e] at this
    omega
  have H8 := Lib.hid h8
  generalize hex8 (bitsN v) = L at H8
  generalize bitsN v = u at HB HF
  rw [← hc] at HR
  clear h8 hc hs hk hu hz hg ix
  go_enter Tryd.func50, Tryd.ntmps50
  go_wp2_with (first | (go_at_call 68; refine (HB _).mono ?_; rintro eq wq ⟨nq, rfl, rfl⟩) | (go_at_call 65; refine (HF _).mono ?_; rintro eq w1 ⟨rfl, hb1⟩) | (go_at_call 69; refine (HR _).mono ?_; rintro eq w2 ⟨rfl, hb2⟩))
  go_ret
  refine ⟨?_, (below_drewN (Below.refl _ _) _).trans (hb1.trans (hb2.mono hb1.size))⟩
  have e := bytes_eq (show ((⟨(Lib.repeatL [48] (8 - d.size)).toArray⟩ : ByteArray) ++ d).data.toList = L by rw [Joins.data_append]; exact H8.out)
  rw [← e]
  rfl
end Go.Proofs.YtbcbaejfafamjaaDoor
