/-
  What a list of bodies that a law is given looks like: plain facts on opening it. No condition.
-/
import Derived.Test.YtjljdnkedbejaaaGood
import Derived.Deep.Slices
import Derived.Deep.Fields
import Derived.ChangeSame
namespace Go.Proofs.Ytjljdnkedbejaaa
open Go.ChangeShapes Go.WideShapes Go.Deep Go.RowKit

theorem cellsF : Try.prog.cellsOf 23 = 1 := by kernel_rfl
theorem cellsLV : Try.prog.cellsOf 44 = 3 := by kernel_rfl
theorem cellsLB : Try.prog.cellsOf 46 = 7 := by kernel_rfl

section
variable {H : Type} {enc : TypeId × Value → H} {w : World} {base : Nat} {spare : Nat → Bool} {held : Bool}
theorem openWord {m : Nat} {c : Value} {y : DataW H × List MemPlace} (h : DataW.trod enc Try.prog w base spare held m 23 [c] = some y) :
    ∃ b, c = .float .f32 b ∧ b < 2 ^ 32 := by
  cases m with
  | zero => simp [DataW.trod] at h
  | succ n =>
    cases c <;> simp [DataW.trod, Try.underlying23] at h
    case float k b =>
      cases k <;> simp [Lit.wf] at h
      exact ⟨b, rfl, by omega⟩

theorem openVec {m : Nat} {c0 c1 c2 : Value} {y : DataW H × List MemPlace} (h : DataW.trod enc Try.prog w base spare held m 44 [c0, c1, c2] = some y) :
    (∃ b, c0 = .float .f32 b ∧ b < 2 ^ 32) ∧ (∃ b, c1 = .float .f32 b ∧ b < 2 ^ 32) ∧ (∃ b, c2 = .float .f32 b ∧ b < 2 ^ 32) := by
  obtain ⟨xs, n, _, _, _, hlen, hf⟩ := DataW.trod_struct Try.underlying44 h
  match xs, hlen with
  | [y0, y1, y2], _ =>
    have f0 := hf 0 _ rfl
    have f1 := hf 1 _ rfl
    have f2 := hf 2 _ rfl
    simp [cellsF] at f0 f1 f2
    exact ⟨openWord f0, openWord f1, openWord f2⟩

theorem openBody {m : Nat} {c0 c1 c2 c3 c4 c5 c6 : Value} {y : DataW H × List MemPlace} (h : DataW.trod enc Try.prog w base spare held m 46 [c0, c1, c2, c3, c4, c5, c6] = some y) :
    (∃ b, c0 = .float .f32 b ∧ b < 2 ^ 32) ∧ (∃ b, c1 = .float .f32 b ∧ b < 2 ^ 32) ∧ (∃ b, c2 = .float .f32 b ∧ b < 2 ^ 32) ∧ (∃ b, c3 = .float .f32 b ∧ b < 2 ^ 32) ∧ (∃ b, c4 = .float .f32 b ∧ b < 2 ^ 32) ∧ (∃ b, c5 = .float .f32 b ∧ b < 2 ^ 32) ∧ (∃ b, c6 = .float .f32 b ∧ b < 2 ^ 32) := by
  obtain ⟨xs, n, _, _, _, hlen, hf⟩ := DataW.trod_struct Try.underlying46 h
  match xs, hlen with
  | [y0, y1, y2], _ =>
    have f0 := hf 0 _ rfl
    have f1 := hf 1 _ rfl
    have f2 := hf 2 _ rfl
    simp [cellsF, cellsLV] at f0 f1 f2
    obtain ⟨a0, a1, a2⟩ := openVec f0
    obtain ⟨a3, a4, a5⟩ := openVec f1
    exact ⟨a0, a1, a2, a3, a4, a5, openWord f2⟩

theorem openList {fuel : Nat} {a : Option Addr} {n cap : Nat} {x : DataW H × List MemPlace}
    (h : DataW.trod enc Try.prog w base spare held fuel 22 [.slice a n cap] = some x) : ∃ f : Nat → Nat, GoodBd w a n f := by
  rcases open_slice Try.underlying22 h with ⟨hcs, _⟩ | ⟨x', len, cap', m, nn, D, Pl, hcs, hb, hl, hm, hmm, _, hV⟩
  · simp at hcs
    obtain ⟨rfl, rfl, rfl⟩ := hcs
    exact ⟨fun _ => 0, fun i hi => by omega, Nat.zero_le _, .inl rfl⟩
  · simp at hcs
    obtain ⟨rfl, rfl, rfl⟩ := hcs
    have hm' : n ≤ m := by rw [hmm]; split <;> omega
    by_cases h0 : n = 0
    · exact ⟨fun _ => 0, fun i hi => by omega, Nat.le_trans hl hm, .inl h0⟩
    · have key : ∀ i, i < n → ∀ j, j < 7 → ∃ b, w.cell? ((x'.add (i * 7)).add j) = some (.float .f32 b) ∧ b < 2 ^ 32 := by
        intro i hi
        obtain ⟨cs, hc, ht⟩ := hV i (by omega)
        rw [cellsLB] at hc
        obtain ⟨_, hcl, hat⟩ := World.cells?_some hc
        match cs, hcl with
        | [c0, c1, c2, c3, c4, c5, c6], _ =>
          obtain ⟨⟨b0, e0, l0⟩, ⟨b1, e1, l1⟩, ⟨b2, e2, l2⟩, ⟨b3, e3, l3⟩, ⟨b4, e4, l4⟩, ⟨b5, e5, l5⟩, ⟨b6, e6, l6⟩⟩ := openBody ht
          intro j hj
          have := hat j hj
          match j, hj with
          | 0, _ => exact ⟨b0, by rw [this, ← e0]; rfl, l0⟩
          | 1, _ => exact ⟨b1, by rw [this, ← e1]; rfl, l1⟩
          | 2, _ => exact ⟨b2, by rw [this, ← e2]; rfl, l2⟩
          | 3, _ => exact ⟨b3, by rw [this, ← e3]; rfl, l3⟩
          | 4, _ => exact ⟨b4, by rw [this, ← e4]; rfl, l4⟩
          | 5, _ => exact ⟨b5, by rw [this, ← e5]; rfl, l5⟩
          | 6, _ => exact ⟨b6, by rw [this, ← e6]; rfl, l6⟩
      obtain ⟨b, off, spot⟩ := x'
      obtain ⟨b00, hb00, _⟩ := key 0 (by omega) 0 (by omega)
      have hspot : spot = none := by
        have := World.cell?_spot hb00
        cases spot <;> simp_all [Addr.add]
      subst hspot
      have key' : ∀ i, i < 7 * n → ∃ c, w.cell? ⟨b, off + i, none⟩ = some (.float .f32 c) ∧ c < 2 ^ 32 := by
        intro i hi
        obtain ⟨c, hc, hl⟩ := key (i / 7) (by omega) (i % 7) (Nat.mod_lt _ (by decide))
        refine ⟨c, ?_, hl⟩
        have e1 : (⟨b, off + i, none⟩ : Addr) = (⟨b, off, none⟩ : Addr).add i := by unfold Addr.add; split <;> simp_all
        have e2 : ((⟨b, off, none⟩ : Addr).add (i / 7 * 7)).add (i % 7) = (⟨b, off, none⟩ : Addr).add i := by
          rw [Go.Deep.add_add]; congr 1; omega
        rw [e1, ← e2]
        exact hc
      obtain ⟨f, hf⟩ := Go.Deep.choose_lt (p := fun i c => w.cell? ⟨b, off + i, none⟩ = some (.float .f32 c) ∧ c < 2 ^ 32) key'
      exact ⟨f, fun i hi => (hf i hi).2, Nat.le_trans hl hm, .inr ⟨b, off, rfl, World.block_lt_of_cell? _ _ (hf 0 (by omega)).1, fun i hi => (hf i hi).1⟩⟩
end
end Go.Proofs.Ytjljdnkedbejaaa
