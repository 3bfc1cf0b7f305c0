/-
  The pieces of a text between newlines. No model in this text. No condition.
-/
import Derived.Lib.SplitLaws
namespace Go.Proofs.YtkddeplhmmpamaaDoor
open Go.Lib

theorem index_first (c : UInt8) : ∀ (l : List UInt8) (i : Nat), l[i]? = some c → (∀ j, j < i → l[j]? ≠ some c) → index l [c] = (i : Int)
  | [], i, h, _ => by simp at h
  | b :: l, i, h, hn => by
    by_cases hb : b = c
    · subst hb
      have : i = 0 := by
        rcases Nat.eq_zero_or_pos i with h0 | h0
        · exact h0
        · exact absurd rfl (hn 0 h0)
      subst this
      rw [index]; simp [List.isPrefixOf]
    · obtain ⟨k, rfl⟩ : ∃ k, i = k + 1 := ⟨i - 1, by
        have : i ≠ 0 := fun h0 => by subst h0; simp at h; exact hb h
        omega⟩
      have ih := index_first c l k (by simpa using h) (fun j hj => by simpa using hn (j + 1) (by omega))
      have hp : ([c] : List UInt8).isPrefixOf (b :: l) = false := by simp [List.isPrefixOf, Ne.symm hb]
      have hix : index (b :: l) [c] = if index l [c] == -1 then -1 else index l [c] + 1 := by rw [index, hp]; simp
      rw [hix, ih, if_neg (by simp; try omega)]; first | rfl | omega
theorem index_none (c : UInt8) : ∀ (l : List UInt8), (∀ j : Nat, l[j]? ≠ some c) → index l [c] = -1
  | [], _ => by simp [index]
  | b :: l, hn => by
    have hb : b ≠ c := fun h => hn 0 (by simp [h])
    have ih := index_none c l (fun j => by simpa using hn (j + 1))
    have hp : ([c] : List UInt8).isPrefixOf (b :: l) = false := by simp [List.isPrefixOf, Ne.symm hb]
    have hix : index (b :: l) [c] = if index l [c] == -1 then -1 else index l [c] + 1 := by rw [index, hp]; simp
    rw [hix, ih]; first | done | rfl

def comma : ByteArray := ⟨#[10]⟩
/-- The pieces between newlines. -/
def pieces (s : ByteArray) : List ByteArray := splitB comma 0 (countB s comma) s
theorem pieces_length (s : ByteArray) : (pieces s).length = countB s comma + 1 := splitB_all comma (by decide) 0 _ s rfl
theorem pieces_le (s : ByteArray) : (pieces s).length ≤ s.size + 1 := by
  rw [pieces_length]
  have := countB_le comma (by decide) s.size s (Nat.le_refl _)
  omega
theorem pieces_hit (s : ByteArray) (i : Nat) (hi : s.data.toList[i]? = some 10) (hn : ∀ j, j < i → s.data.toList[j]? ≠ some 10) :
    pieces s = s.extract 0 i :: pieces (s.extract (i + 1) s.size) := by
  have hx : indexB s comma = (i : Int) := index_first 10 _ i hi hn
  have hc := countB_hit s comma i (by decide) hx
  have e1 : comma.size = 1 := rfl
  rw [e1] at hc
  unfold pieces
  rw [hc, Nat.add_comm 1, splitB_hit comma 0 _ s i hx]
  rfl
theorem pieces_end (s : ByteArray) (hn : ∀ j : Nat, s.data.toList[j]? ≠ some 10) : pieces s = [s] := by
  have hx : indexB s comma = -1 := index_none 10 _ hn
  unfold pieces
  rw [countB_miss s comma hx]; rfl
end Go.Proofs.YtkddeplhmmpamaaDoor
