/-
  Whether a list has entries: for every list the law's text returns true, and writes nothing that was there. No condition.
-/
import Derived.Test.YthgnlpeogdockaaAeS
namespace Go.Proofs.Ythgnlpeogdockaa
open Go.RowKit

theorem specAreE (b off n cap : Nat) (s : Nat → ByteArray) (f : Nat → Nat) (v : Nat → Option Nat) (w : World) (hn : n ≤ 1048576) (hb : b < w.heap.size) (hs : ∀ i, i < n → (s i).size ≤ maxLen) (hr : ∀ i, i < 8 * n → w.cell? ⟨b, off + i, none⟩ = some (enC s f i)) (hv : ∀ i, i < 7 * n → Is .f32 (f i) (v i)) :
    Calls Try.prog 26 #[.slice (some ⟨b, off, none⟩) n cap] w fun e w' => e = .returned (.bool (allE s v n)) ∧ Below w.heap.size w w' := by
  have HC := sAreE b off n cap s f v w hn hb hs hr hv
  clear hr hv hs
  go_enter Try.func26, Try.ntmps26
  go_wp2_with (go_at_call 50; refine HC.mono ?_; rintro eq wq ⟨rfl, hb⟩)
  go_ret
  exact ⟨rfl, hb⟩

set_option maxHeartbeats 1600000 in
theorem walk_FnExactAreEntries (a : Option Addr) (n cap : Nat) (p : (Nat → ByteArray) × (Nat → Nat)) (w : World) (hg : GoodEn w a n p) :
    Calls Try.prog 7 #[.slice a n cap] w fun e w' => e = .returned (.bool true) ∧ Below w.heap.size w w' := by
  have CZ := szE (cap := cap) 1048576 (by decide) (by decide) hg
  obtain ⟨hs, hw, hm, h⟩ := hg
  have hi : ∀ i, i < 7 * n → Is .f32 (p.2 i) (nrm .f32 (p.2 i)) := fun i h => Is.self (hw i h)
  have H := Lib.hid h
  have HI := Lib.hid hi
  have HS := Lib.hid hs
  clear h hi hw hs
  go_enter Try.func7, Try.ntmps7
  go_wp2_with fail
  (go_at_call 21; refine CZ.mono ?_; rintro _ W0 ⟨⟨r, rfl, hz⟩, b0⟩)
  rcases hz with hz | ⟨hz, _, hn⟩
  · go_wp2
    go_ret
    exact ⟨rfl, b0⟩
  · have hz' : decide (r < 0) = false := by simp; omega
    go_wp2_with fail
    (go_at_call 23; refine Calls.mono (toE_any _ hn (H.out.below b0)) ?_; rintro _ W1 ⟨rfl, b1, r1⟩)
    replace b1 := bt b0 b1
    go_wp2_with fail
    (go_at_call 26; refine (specAreE _ 0 n n p.1 p.2 _ W1 hn r1.lt HS.out (rowCells r1) HI.out).mono ?_; rintro _ W2 ⟨rfl, b2⟩)
    replace b2 := bt b1 b2
    clear r1
    go_wp2_with fail
    (go_at_call 23; refine Calls.mono (toE_any _ hn (H.out.below b2)) ?_; rintro _ W3 ⟨rfl, b3, r3⟩)
    replace b3 := bt b2 b3
    go_wp2_with fail
    (go_at_call 27; refine (iAreE _ 0 n n p.1 p.2 _ W3 hn (Nat.le_refl _) r3.lt HS.out (rowCells r3) HI.out).mono ?_; rintro _ W4 ⟨rfl, b4⟩)
    replace r3 := rt r3 b4
    replace b4 := bt b3 b4
    go_wp2_with fail
    (go_at_call 23; refine Calls.mono (toE_any _ hn (H.out.below b4)) ?_; rintro _ W5 ⟨rfl, b5, r5⟩)
    replace r3 := rt r3 b5
    replace b5 := bt b4 b5
    go_wp2_with fail
    (go_at_call 25; refine (eqRowE hn r3 r5 HI.out HI.out).mono ?_; rintro _ W6 ⟨rfl, b6⟩)
    replace b6 := bt b5 b6
    go_wp2_with fail
    go_ret
    exact ⟨rfl, b6⟩
end Go.Proofs.Ythgnlpeogdockaa
