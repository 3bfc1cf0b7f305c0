/-
  The numbers with a text, of the model. No condition.
-/
import Derived.Test.YtbcbaejfafamjaaDoorCutN
import Derived.Test.YtbcbaejfafamjaaDoorRdN
namespace Go.Proofs.YtbcbaejfafamjaaDoor
open Go.RowKit

def isNone (s : ByteArray) : Bool := s.toList == [110, 111, 110, 101]
theorem split_size (sep : ByteArray) : ∀ (k : Nat) (s : ByteArray), ∀ p ∈ Lib.splitB sep 0 k s, p.size ≤ s.size
  | 0, s, p, h => by rw [Lib.splitB_zero] at h; rw [List.mem_singleton.1 h]; exact Nat.le_refl _
  | k + 1, s, p, h => by
    rcases Lib.indexB_cases s sep with hix | ⟨i, hix, _⟩
    · rw [Lib.splitB_miss sep 0 _ s hix] at h; rw [List.mem_singleton.1 h]; exact Nat.le_refl _
    · rw [Lib.splitB_hit sep 0 k s i hix] at h
      rcases List.mem_cons.1 h with h | h
      · rw [h, ByteArray.size_extract]; omega
      · have := split_size sep k _ p h
        rw [ByteArray.size_extract] at this; omega
theorem pieces_size (s : ByteArray) (p : ByteArray) (h : p ∈ pieces s) : p.size ≤ s.size := split_size comma _ s p h

theorem ownsRow_below {w w' : World} {base : Nat} {e : TypeId} {size : Nat} {v : Value} {n : Nat} {xs : List Value} (h : w.ownsRow base e size v n xs) (hb : Below w.heap.size w w') : w'.ownsRow base e size v n xs := by
  obtain ⟨h1, h2 | ⟨g, cap, cur, h2, h3, h4, h5⟩⟩ := h
  · exact ⟨h1, .inl h2⟩
  · refine ⟨h1, .inr ⟨g, cap, cur, h2, h3, ?_, h5⟩⟩
    rw [hb.block g ?_]; exact h4
    rcases Nat.lt_or_ge g w.heap.size with h | h
    · exact h
    · rw [Array.getElem?_eq_none h] at h4; cases h4
theorem rows_ne {w : World} {b1 b2 : Nat} {e1 e2 : TypeId} {s1 s2 g1 g2 n1 n2 c1 c2 : Nat} {x1 x2 : List Value} (h1 : w.ownsRow b1 e1 s1 (.slice (some ⟨g1, 0, none⟩) n1 c1) n1 x1) (h2 : w.ownsRow b2 e2 s2 (.slice (some ⟨g2, 0, none⟩) n2 c2) n2 x2) (he : e1 ≠ e2) : g1 ≠ g2 := by
  intro hg
  subst hg
  obtain ⟨_, ⟨h, _⟩ | ⟨g, cap, cur, h, _, h4, _⟩⟩ := h1
  · cases h
  · obtain ⟨_, ⟨k, _⟩ | ⟨g', cap', cur', k, _, k4, _⟩⟩ := h2
    · cases k
    · cases h; cases k
      rw [h4] at k4; cases k4; exact he rfl

theorem ownsRow_base {w : World} {b b' : Nat} {e : TypeId} {size : Nat} {v : Value} {n : Nat} {xs : List Value} (h : w.ownsRow b e size v n xs) (hb : b' ≤ b) : w.ownsRow b' e size v n xs := by
  obtain ⟨h1, h2 | ⟨g, cap, cur, h2, h3, h4⟩⟩ := h
  · exact ⟨h1, .inl h2⟩
  · exact ⟨h1, .inr ⟨g, cap, cur, h2, Nat.le_trans hb h3, h4⟩⟩
theorem row_cell {w : World} {b : Nat} {e : TypeId} {g n cap : Nat} {xs : List Value} (h : w.ownsRow b e 1 (.slice (some ⟨g, 0, none⟩) n cap) n xs) {k : Nat} {u : Value} (hk : xs[k]? = some u) : w.cell? ⟨g, k, none⟩ = some u := by
  have := h.cells (g := g) rfl k u hk
  rwa [Lib.add_plain, Nat.zero_add] at this
theorem ownsRow_zeroQ (w : World) (base : Nat) (e : TypeId) (hb : base ≤ w.heap.size) :
    (w.alloc (.cells #[] e)).ownsRow base e 1 (.slice (some ⟨w.heap.size, 0, none⟩) 0 0) 0 [] :=
  World.ownsRow_made w #[] 0 hb (Nat.zero_le _) rfl

def okQ (p : ByteArray) : Bool := okXB p.data.toList
def vlQ (p : ByteArray) : Nat := spH p.data.toList
def okN (s : ByteArray) : Bool := isNone s || (decide ((pieces s).length ≤ 256) && (pieces s).all okQ)
def valsN (s : ByteArray) : List Nat := if isNone s then [] else if okN s then (pieces s).map vlQ else []
/-- A list of its own is handed back, and a yes or no; nothing that was there is written. -/
def RetF32 (xs : List Nat) (ok : Bool) (w : World) (e : Ending) (w' : World) : Prop :=
  ∃ v, e = .returned (.tuple #[v, .bool ok]) ∧ w'.ownsRow w.heap.size 33 1 v xs.length (xs.map (Value.float .f32)) ∧ Below w.heap.size w w'
theorem RetF32.bad {w w' : World} (hb : Below w.heap.size w w') : RetF32 [] false w (.returned (.tuple #[.slice none 0 0, .bool false])) w' := ⟨_, rfl, World.ownsRow_nil _ _ _ _, hb⟩
theorem infoF : (Tryd.prog.info? 33).map (fun i => (i.zero, i.size, i.bytes)) = some (some (.float .f32 0), 1, 4) := by kernel_rfl
theorem take_map_succQ (ps : List ByteArray) (k : Nat) (h : k < ps.length) : ((ps.take (k + 1)).map vlQ).map (Value.float .f32) = ((ps.take k).map vlQ).map (Value.float .f32) ++ [.float .f32 (spH ps[k].data.toList)] := by
  rw [List.take_succ_eq_append_getElem h, List.map_append, List.map_append]; rfl
theorem take_all_succQ (ps : List ByteArray) (k : Nat) (h : k < ps.length) (ha : (ps.take k).all okQ = true) (hp : okQ ps[k] = true) : (ps.take (k + 1)).all okQ = true := by
  rw [List.take_succ_eq_append_getElem h, List.all_append, ha]; simp [hp]
end Go.Proofs.YtbcbaejfafamjaaDoor
