/-
  What an entry, and a list of entries, that a law is given look like: plain facts on opening them. No condition.
-/
import Derived.Test.YthgnlpeogdockaaEnS
import Derived.Deep.Slices
import Derived.Deep.Fields
import Derived.ChangeSame
import Derived.ProofKit
import Derived.OpenShut
import Derived.Lib.SmallJoins
namespace Go.Proofs.Ythgnlpeogdockaa
open Go.ChangeShapes Go.WideShapes Go.Deep Go.RowKit Go.Joins

theorem cellsF : Try.prog.cellsOf 30 = 1 := by kernel_rfl
theorem cellsS : Try.prog.cellsOf 9 = 1 := by kernel_rfl
theorem cellsOL : Try.prog.cellsOf 32 = 6 := by kernel_rfl
theorem cellsEL : Try.prog.cellsOf 34 = 8 := by kernel_rfl

section
variable {H : Type} {enc : TypeId × Value → H} {w : World} {base : Nat} {spare : Nat → Bool} {held : Bool}
theorem openWord {m : Nat} {c : Value} {y : DataW H × List MemPlace} (h : DataW.trod enc Try.prog w base spare held m 30 [c] = some y) :
    ∃ b, c = .float .f32 b ∧ b < 2 ^ 32 := by
  cases m with
  | zero => simp [DataW.trod] at h
  | succ n =>
    cases c <;> simp [DataW.trod, Try.underlying30] at h
    case float k b =>
      cases k <;> simp [Lit.wf] at h
      exact ⟨b, rfl, by omega⟩

theorem openText {m : Nat} {c : Value} {y : DataW H × List MemPlace} (h : DataW.trod enc Try.prog w base spare held m 9 [c] = some y) :
    ∃ s, c = .string s ∧ s.size ≤ maxLen := by
  obtain ⟨s, hc, _, hs⟩ := DataW.trod_string Try.underlying9 h
  simp at hc
  exact ⟨s, hc, hs⟩

theorem openOrbit {m : Nat} {c0 c1 c2 c3 c4 c5 : Value} {y : DataW H × List MemPlace} (h : DataW.trod enc Try.prog w base spare held m 32 [c0, c1, c2, c3, c4, c5] = some y) :
    (∃ b, c0 = .float .f32 b ∧ b < 2 ^ 32) ∧ (∃ b, c1 = .float .f32 b ∧ b < 2 ^ 32) ∧ (∃ b, c2 = .float .f32 b ∧ b < 2 ^ 32) ∧ (∃ b, c3 = .float .f32 b ∧ b < 2 ^ 32) ∧ (∃ b, c4 = .float .f32 b ∧ b < 2 ^ 32) ∧ (∃ b, c5 = .float .f32 b ∧ b < 2 ^ 32) := by
  obtain ⟨xs, n, _, _, _, hlen, hf⟩ := DataW.trod_struct Try.underlying32 h
  match xs, hlen with
  | [y0, y1, y2, y3, y4, y5], _ =>
    have f0 := hf 0 _ rfl
    have f1 := hf 1 _ rfl
    have f2 := hf 2 _ rfl
    have f3 := hf 3 _ rfl
    have f4 := hf 4 _ rfl
    have f5 := hf 5 _ rfl
    simp [cellsF] at f0 f1 f2 f3 f4 f5
    exact ⟨openWord f0, openWord f1, openWord f2, openWord f3, openWord f4, openWord f5⟩

theorem openEntry {m : Nat} {c0 c1 c2 c3 c4 c5 c6 c7 : Value} {y : DataW H × List MemPlace} (h : DataW.trod enc Try.prog w base spare held m 34 [c0, c1, c2, c3, c4, c5, c6, c7] = some y) :
    (∃ s, c0 = .string s ∧ s.size ≤ maxLen) ∧ (∃ b, c1 = .float .f32 b ∧ b < 2 ^ 32) ∧ (∃ b, c2 = .float .f32 b ∧ b < 2 ^ 32) ∧ (∃ b, c3 = .float .f32 b ∧ b < 2 ^ 32) ∧ (∃ b, c4 = .float .f32 b ∧ b < 2 ^ 32) ∧ (∃ b, c5 = .float .f32 b ∧ b < 2 ^ 32) ∧ (∃ b, c6 = .float .f32 b ∧ b < 2 ^ 32) ∧ (∃ b, c7 = .float .f32 b ∧ b < 2 ^ 32) := by
  obtain ⟨xs, n, _, _, _, hlen, hf⟩ := DataW.trod_struct Try.underlying34 h
  match xs, hlen with
  | [y0, y1, y2], _ =>
    have f0 := hf 0 _ rfl
    have f1 := hf 1 _ rfl
    have f2 := hf 2 _ rfl
    simp [cellsF, cellsS, cellsOL] at f0 f1 f2
    exact ⟨openText f0, openWord f1, openOrbit f2⟩

theorem array8 {α : Type} {cs : Array α} (h : cs.size = 8) : ∃ c0 c1 c2 c3 c4 c5 c6 c7, cs = #[c0, c1, c2, c3, c4, c5, c6, c7] := by
  obtain ⟨l⟩ := cs
  match l, h with
  | [c0, c1, c2, c3, c4, c5, c6, c7], _ => exact ⟨c0, c1, c2, c3, c4, c5, c6, c7, rfl⟩

set_option maxRecDepth 100000 in
theorem openEnt {r : Reach} {b0 : Nat} {v : Value} {d : DataW H} {p : List MemPlace}
    (hv : Value.okWide Try.prog w r b0 34 v) (h : DataW.Trod enc Try.prog w base spare held 34 v d p) :
    ∃ s a0 a1 a2 a3 a4 a5 a6, v = enV s a0 a1 a2 a3 a4 a5 a6 ∧ s.size ≤ maxLen ∧ a0 < 2 ^ 32 ∧ a1 < 2 ^ 32 ∧ a2 < 2 ^ 32 ∧ a3 < 2 ^ 32 ∧ a4 < 2 ^ 32 ∧ a5 < 2 ^ 32 ∧ a6 < 2 ^ 32 := by
  obtain ⟨cs, rfl, hsz⟩ := okWide_struct Try.underlying34 hv
  obtain ⟨c0, c1, c2, c3, c4, c5, c6, c7, rfl⟩ := array8 (hsz.trans cellsEL)
  obtain ⟨fuel, hf⟩ := h
  obtain ⟨⟨s, rfl, ls⟩, ⟨a0, rfl, l0⟩, ⟨a1, rfl, l1⟩, ⟨a2, rfl, l2⟩, ⟨a3, rfl, l3⟩, ⟨a4, rfl, l4⟩, ⟨a5, rfl, l5⟩, ⟨a6, rfl, l6⟩⟩ := openEntry (c0 := c0) (c1 := c1) (c2 := c2) (c3 := c3) (c4 := c4) (c5 := c5) (c6 := c6) (c7 := c7) hf
  exact ⟨s, a0, a1, a2, a3, a4, a5, a6, rfl, ls, l0, l1, l2, l3, l4, l5, l6⟩

theorem openListE {fuel : Nat} {a : Option Addr} {n cap : Nat} {x : DataW H × List MemPlace}
    (h : DataW.trod enc Try.prog w base spare held fuel 42 [.slice a n cap] = some x) : ∃ p : (Nat → ByteArray) × (Nat → Nat), GoodEn w a n p := by
  rcases open_slice Try.underlying42 h with ⟨hcs, _⟩ | ⟨x', len, cap', m, nn, D, Pl, hcs, hb, hl, hm, hmm, _, hV⟩
  · simp at hcs
    obtain ⟨rfl, rfl, rfl⟩ := hcs
    exact ⟨(fun _ => ByteArray.empty, fun _ => 0), fun i hi => by omega, fun i hi => by omega, Nat.zero_le _, .inl rfl⟩
  · simp at hcs
    obtain ⟨rfl, rfl, rfl⟩ := hcs
    have hm' : n ≤ m := by rw [hmm]; split <;> omega
    by_cases h0 : n = 0
    · exact ⟨(fun _ => ByteArray.empty, fun _ => 0), fun i hi => by omega, fun i hi => by omega, Nat.le_trans hl hm, .inl h0⟩
    · have key : ∀ i, i < n → (∃ s, w.cell? ((x'.add (i * 8)).add 0) = some (.string s) ∧ s.size ≤ maxLen) ∧ ∀ j, j < 7 → ∃ b, w.cell? ((x'.add (i * 8)).add (j + 1)) = some (.float .f32 b) ∧ b < 2 ^ 32 := by
        intro i hi
        obtain ⟨cs, hc, ht⟩ := hV i (by omega)
        rw [cellsEL] at hc
        obtain ⟨_, hcl, hat⟩ := World.cells?_some hc
        match cs, hcl with
        | [c0, c1, c2, c3, c4, c5, c6, c7], _ =>
          obtain ⟨⟨s, e, ls⟩, ⟨b0, e0, l0⟩, ⟨b1, e1, l1⟩, ⟨b2, e2, l2⟩, ⟨b3, e3, l3⟩, ⟨b4, e4, l4⟩, ⟨b5, e5, l5⟩, ⟨b6, e6, l6⟩⟩ := openEntry ht
          refine ⟨⟨s, by have := hat 0 (by decide); rw [this, ← e]; rfl, ls⟩, ?_⟩
          intro j hj
          have := hat (j + 1) (by omega)
          match j, hj with
          | 0, _ => exact ⟨b0, by rw [this, ← e0]; rfl, l0⟩
          | 1, _ => exact ⟨b1, by rw [this, ← e1]; rfl, l1⟩
          | 2, _ => exact ⟨b2, by rw [this, ← e2]; rfl, l2⟩
          | 3, _ => exact ⟨b3, by rw [this, ← e3]; rfl, l3⟩
          | 4, _ => exact ⟨b4, by rw [this, ← e4]; rfl, l4⟩
          | 5, _ => exact ⟨b5, by rw [this, ← e5]; rfl, l5⟩
          | 6, _ => exact ⟨b6, by rw [this, ← e6]; rfl, l6⟩
      obtain ⟨b, off, spot⟩ := x'
      obtain ⟨⟨s00, hs00, _⟩, _⟩ := key 0 (by omega)
      have hspot : spot = none := by
        have := World.cell?_spot hs00
        cases spot <;> simp_all [Addr.add]
      subst hspot
      have key1 : ∀ i, i < n → ∃ s, w.cell? ⟨b, off + i * 8, none⟩ = some (.string s) ∧ s.size ≤ maxLen := by
        intro i hi
        obtain ⟨⟨s, hs, ls⟩, _⟩ := key i hi
        refine ⟨s, ?_, ls⟩
        have e1 : (⟨b, off + i * 8, none⟩ : Addr) = (⟨b, off, none⟩ : Addr).add (i * 8) := by unfold Addr.add; split <;> simp_all
        have e2 : ((⟨b, off, none⟩ : Addr).add (i * 8)).add 0 = (⟨b, off, none⟩ : Addr).add (i * 8) := by rw [Go.Deep.add_add, Nat.add_zero]
        rw [e1, ← e2]; exact hs
      have key2 : ∀ i, i < 7 * n → ∃ c, w.cell? ⟨b, off + (i / 7 * 8 + (i % 7 + 1)), none⟩ = some (.float .f32 c) ∧ c < 2 ^ 32 := by
        intro i hi
        obtain ⟨_, hk⟩ := key (i / 7) (by omega)
        obtain ⟨c, hc, hl⟩ := hk (i % 7) (Nat.mod_lt _ (by decide))
        refine ⟨c, ?_, hl⟩
        have e1 : (⟨b, off + (i / 7 * 8 + (i % 7 + 1)), none⟩ : Addr) = (⟨b, off, none⟩ : Addr).add (i / 7 * 8 + (i % 7 + 1)) := by unfold Addr.add; split <;> simp_all
        have e2 : ((⟨b, off, none⟩ : Addr).add (i / 7 * 8)).add (i % 7 + 1) = (⟨b, off, none⟩ : Addr).add (i / 7 * 8 + (i % 7 + 1)) := by
          rw [Go.Deep.add_add]
        rw [e1, ← e2]
        exact hc
      obtain ⟨s, hs⟩ := Go.Deep.choose_lt (p := fun i s => w.cell? ⟨b, off + i * 8, none⟩ = some (.string s) ∧ s.size ≤ maxLen) key1
      obtain ⟨f, hf⟩ := Go.Deep.choose_lt (p := fun i c => w.cell? ⟨b, off + (i / 7 * 8 + (i % 7 + 1)), none⟩ = some (.float .f32 c) ∧ c < 2 ^ 32) key2
      refine ⟨(s, f), fun i hi => (hs i hi).2, fun i hi => (hf i hi).2, Nat.le_trans hl hm, .inr ⟨b, off, rfl, World.block_lt_of_cell? _ _ (hs 0 (by omega)).1, fun i hi => ?_⟩⟩
      unfold enC
      by_cases h8 : i % 8 = 0
      · rw [if_pos h8]
        have := (hs (i / 8) (by omega)).1
        rw [show i / 8 * 8 = i by omega] at this
        exact this
      · rw [if_neg h8]
        have := (hf (7 * (i / 8) + (i % 8 - 1)) (by omega)).1
        rw [show (7 * (i / 8) + (i % 8 - 1)) / 7 * 8 + ((7 * (i / 8) + (i % 8 - 1)) % 7 + 1) = i by omega] at this
        exact this
end
end Go.Proofs.Ythgnlpeogdockaa
