/-
  So many numbers with a text, of the program. Conditions: what the library's tables and errors hold.
-/
import Derived.Test.YtbcbaejfafamjaaDoorListN
namespace Go.Proofs.YtbcbaejfafamjaaDoor
open Go.RowKit

theorem row_any {w : World} {b : Nat} {e : TypeId} {size n : Nat} {v : Value} {xs : List Value} (h : w.ownsRow b e size v n xs) : ∃ a c, v = .slice a n c := by
  rcases Nat.eq_zero_or_pos n with rfl | h0
  · exact row_zero h
  · obtain ⟨g, c, rfl, _⟩ := h.form h0
    exact ⟨_, _, rfl⟩

/-- Whether a text has so many numbers, and these. -/
def someB (s : ByteArray) (c : Nat) : Bool := okN s && ((valsN s).length == c)
def someV (s : ByteArray) (c : Nat) : List Nat := if someB s c then valsN s else []
theorem someV_t {s : ByteArray} {c : Nat} (h : someB s c = true) : someV s c = valsN s ∧ (valsN s).length = c := by
  refine ⟨by simp [someV, h], ?_⟩
  unfold someB at h
  simp only [Bool.and_eq_true, beq_iff_eq] at h
  exact h.2
theorem someV_f {s : ByteArray} {c : Nat} (h : someB s c = false) : someV s c = [] := by simp [someV, h]

set_option maxHeartbeats 1600000 in
theorem iSome (c : Nat) (hc : c ≤ 256) (s : ByteArray) (hs : s.size ≤ 1048576) (w : World) (hL : LibM w) : Calls Tryd.prog 35 #[.string s, .int .i64 (c : Int)] w (RetF32 (someV s c) (someB s c) w) := by
  have HC := implNumsN s hs w hL
  have HO := Lib.hid (show ∀ xs ok, valsN s = xs → okN s = ok → (someB s c = (ok && (xs.length == c)) ∧ someV s c = if someB s c then xs else []) from fun xs ok h1 h2 => by subst h1; subst h2; exact ⟨rfl, rfl⟩)
  have hl := vals_len s
  generalize hxs : valsN s = xs at HC hl
  generalize hok : okN s = ok at HC
  obtain ⟨hB, hV⟩ := HO.out xs ok hxs hok
  clear HO hxs hok hL
  generalize someB s c = sb at hB hV ⊢
  generalize someV s c = sv at hV ⊢
  cases ok with
  | false =>
    obtain rfl : sb = false := hB
    obtain rfl : sv = [] := hV
    go_enter Tryd.func35, Tryd.ntmps35
    go_wp2_with (go_at_call 14; refine HC.mono ?_; rintro _ wq ⟨v, rfl, hr, hb⟩; have HB := Lib.hid hb; obtain ⟨a, cc, rfl⟩ := row_any hr; clear hr hb)
    go_ret2
    exact RetF32.bad HB.out
  | true =>
    by_cases h3 : xs.length = c
    · have hl3 : ((xs.length : Int) != (c : Int)) = false := by simp; omega
      obtain rfl : sb = true := by rw [hB]; simp [h3]
      obtain rfl : sv = xs := hV
      (try clear hB)
      clear h3
      go_enter Tryd.func35, Tryd.ntmps35
      go_wp2_with (go_at_call 14; refine HC.mono ?_; rintro _ wq ⟨v, rfl, hr, hb⟩; have HB := Lib.hid hb; have HR := Lib.hid hr; obtain ⟨a, cc, rfl⟩ := row_any hr; clear hr hb)
      go_ret2
      exact ⟨_, rfl, HR.out, HB.out⟩
    · have hl3 : ((xs.length : Int) != (c : Int)) = true := by simp; omega
      obtain rfl : sb = false := by rw [hB]; simp [h3]
      obtain rfl : sv = [] := hV
      (try clear hB)
      clear h3
      go_enter Tryd.func35, Tryd.ntmps35
      go_wp2_with (go_at_call 14; refine HC.mono ?_; rintro _ wq ⟨v, rfl, hr, hb⟩; have HB := Lib.hid hb; obtain ⟨a, cc, rfl⟩ := row_any hr; clear hr hb)
      go_ret2
      exact RetF32.bad HB.out
end Go.Proofs.YtbcbaejfafamjaaDoor
