/-
  Whether two lists of entries are the same: for every two lists the law's text returns true, and writes nothing that was there. No condition.
-/
import Derived.Test.YthgnlpeogdockaaSeI
namespace Go.Proofs.Ythgnlpeogdockaa
open Go.RowKit

set_option maxHeartbeats 1600000 in
theorem walk_FnExactSameEntries (a : Option Addr) (n cap : Nat) (p : (Nat → ByteArray) × (Nat → Nat)) (a' : Option Addr) (m cap' : Nat) (q : (Nat → ByteArray) × (Nat → Nat)) (w : World) (hg : GoodEn w a n p) (hg' : GoodEn w a' m q) :
    Calls Try.prog 6 #[.slice a n cap, .slice a' m cap'] w fun e w' => e = .returned (.bool true) ∧ Below w.heap.size w w' := by
  have CZ := szE (cap := cap) 1048576 (by decide) (by decide) hg
  obtain ⟨hs, hw, hm, h⟩ := hg
  have hg2 := hg'
  obtain ⟨hs', hw', hm', h'⟩ := hg'
  have hi : ∀ i, i < 7 * n → Is .f32 (p.2 i) (nrm .f32 (p.2 i)) := fun i h => Is.self (hw i h)
  have hi' : ∀ i, i < 7 * m → Is .f32 (q.2 i) (nrm .f32 (q.2 i)) := fun i h => Is.self (hw' i h)
  have H := Lib.hid h
  have H' := Lib.hid h'
  have HI := Lib.hid hi
  have HI' := Lib.hid hi'
  have HG' : ∀ W, Below w.heap.size w W → GoodEn W a' m q := fun W b => ⟨hs', hw', hm', h'.below b⟩
  have HG := Lib.hid HG'
  clear h h' hi hi' hw hw' hs hs' HG' hg2
  go_enter Try.func6, Try.ntmps6
  go_wp2_with fail
  (go_at_call 21; refine CZ.mono ?_; rintro _ W0 ⟨⟨r, rfl, hz⟩, b0⟩)
  rcases hz with hz | ⟨hz, hz1, hn⟩
  · go_wp2
    go_ret
    exact ⟨rfl, b0⟩
  · have hz' : decide (r < 0) = false := by simp; omega
    go_wp2_with fail
    (go_at_call 21; refine (szE r hz (by omega) (HG.out W0 b0)).mono ?_; rintro _ Wa ⟨⟨r2, rfl, hz2⟩, ba⟩)
    replace ba := bt b0 ba
    rcases hz2 with hz2 | ⟨hz2, _, hn2⟩
    · go_wp2
      go_ret
      exact ⟨rfl, ba⟩
    · have hz2' : decide (r2 < 0) = false := by simp; omega
      go_wp2_with fail
      (go_at_call 23; refine Calls.mono (toE_any _ hn (H.out.below ba)) ?_; rintro _ W1 ⟨rfl, b1, r1⟩)
      replace b1 := bt ba b1
      go_wp2_with fail
      (go_at_call 23; refine Calls.mono (toE_any _ hn2 (H'.out.below b1)) ?_; rintro _ W2 ⟨rfl, b2, r2⟩)
      replace r1 := rt r1 b2
      replace b2 := bt b1 b2
      go_wp2_with fail
      (go_at_call 22; refine (sSameLE _ 0 _ 0 n m n m p.1 q.1 p.2 q.2 _ _ W2 hn hn2 r1.lt r2.lt (rowCells r1) (rowCells r2) HI.out HI'.out).mono ?_; rintro _ W3 ⟨rfl, b3⟩)
      replace b3 := bt b2 b3
      clear r1 r2
      go_wp2_with fail
      (go_at_call 23; refine Calls.mono (toE_any _ hn (H.out.below b3)) ?_; rintro _ W4 ⟨rfl, b4, r4⟩)
      replace b4 := bt b3 b4
      go_wp2_with fail
      (go_at_call 23; refine Calls.mono (toE_any _ hn2 (H'.out.below b4)) ?_; rintro _ W5 ⟨rfl, b5, r5⟩)
      replace r4 := rt r4 b5
      replace b5 := bt b4 b5
      go_wp2_with fail
      (go_at_call 24; refine (iSameLE _ 0 _ 0 n m n m p.1 q.1 p.2 q.2 _ _ W5 hn hn2 r4.lt r5.lt (rowCells r4) (rowCells r5) HI.out HI'.out).mono ?_; rintro _ W6 ⟨rfl, b6⟩)
      replace r4 := rt r4 b6
      replace r5 := rt r5 b6
      replace b6 := bt b5 b6
      go_wp2_with fail
      (go_at_call 23; refine Calls.mono (toE_any _ hn (H.out.below b6)) ?_; rintro _ W7 ⟨rfl, b7, r7⟩)
      replace r4 := rt r4 b7
      replace r5 := rt r5 b7
      replace b7 := bt b6 b7
      go_wp2_with fail
      (go_at_call 25; refine (eqRowE hn r4 r7 HI.out HI.out).mono ?_; rintro _ W8 ⟨rfl, b8⟩)
      replace r5 := rt r5 b8
      replace b8 := bt b7 b8
      go_wp2_with fail
      (go_at_call 23; refine Calls.mono (toE_any _ hn2 (H'.out.below b8)) ?_; rintro _ W9 ⟨rfl, b9, r9⟩)
      replace r5 := rt r5 b9
      replace b9 := bt b8 b9
      go_wp2_with fail
      (go_at_call 25; refine (eqRowE hn2 r5 r9 HI'.out HI'.out).mono ?_; rintro _ Wb ⟨rfl, bb⟩)
      replace bb := bt b9 bb
      go_wp2_with fail
      go_ret
      exact ⟨rfl, bb⟩
end Go.Proofs.Ythgnlpeogdockaa
