/-
  A list without one of its bodies, of the model. No condition.
-/
import Derived.Test.YtjljdnkedbejaaaAreS
import Derived.Test.YtjljdnkedbejaaaRowOk
import Derived.Test.YtjljdnkedbejaaaApp
import Derived.OwnWalk
import Derived.Lib.SliceRun
import Derived.Lib.AppendZerosOnto
import Derived.Test.YtjljdnkedbejaaaTake
namespace Go.Proofs.Ytjljdnkedbejaaa
open Go.RowKit

/-- Whether a number is one of n bodies. -/
def inB (i : Int) (n : Nat) : Bool := decide (0 ≤ i) && decide (i < (n : Int))

theorem iBodyOf (a : Option Addr) (n cap : Nat) (i : Int) (w : World) :
    Calls Try.prog 24 #[.slice a n cap, .int .i64 i] w (RetV (.bool (inB i n)) w) := by
  unfold inB
  by_cases h0 : 0 ≤ i
  · have h1 : ¬ i < 0 := by omega
    by_cases h2 : i < (n : Int)
    · go_enter Try.func24, Try.ntmps24
      go_wp2
      go_ret
      exact RetV.eq 0 (by simp [h0, h2])
    · go_enter Try.func24, Try.ntmps24
      go_wp2
      go_ret
      exact RetV.eq 0 (by simp [h0, h2])
  · go_enter Try.func24, Try.ntmps24
    go_wp2
    go_ret
    exact RetV.eq 0 (by simp; omega)


theorem l00In_any (a b c : Int) (w : World) : Calls Try.prog 37 #[.int .i64 a, .int .i64 b, .int .i64 c] w (RetV (.bool (decide (b ≤ a) && decide (a ≤ c))) w) := by
  by_cases h0 : b ≤ a
  · have h1 : ¬ a < b := by omega
    by_cases h2 : a ≤ c
    · have h3 : ¬ c < a := by omega
      go_enter Try.func37, Try.ntmps37
      go_wp2
      go_ret
      exact RetV.eq 0 (by simp [h0, h2])
    · have h3 : c < a := by omega
      go_enter Try.func37, Try.ntmps37
      go_wp2
      go_ret
      exact RetV.eq 0 (by simp [h0, h2])
  · have h1 : a < b := by omega
    go_enter Try.func37, Try.ntmps37
    go_wp2
    go_ret
    exact RetV.eq 0 (by simp; omega)


theorem sHas (b off n cap : Nat) (f : Nat → Nat) (v : Nat → Option Nat) (i : Int) (w : World) (hn : n ≤ 1048576) (hb : b < w.heap.size) (hr : ∀ i, i < 7 * n → w.cell? ⟨b, off + i, none⟩ = some (.float .f32 (f i))) (hv : ∀ i, i < 7 * n → Is .f32 (f i) (v i)) :
    Calls Try.prog 23 #[.slice (some ⟨b, off, none⟩) n cap, .int .i64 i] w fun e w' => e = .returned (.bool (areB v n && inB i n)) ∧ Below w.heap.size w w' := by
  have HA := sAre b off n cap f v w hn hb hr hv
  have HI := fun W => l00In_any i 0 ((n : Int) - 1) W
  have hw : wrap64 ((n : Int) - 1) = (n : Int) - 1 := by unfold wrap64; omega
  have hI : (decide (0 ≤ i) && decide (i ≤ (n : Int) - 1)) = inB i n := by unfold inB; congr 1; simp; omega
  rw [hI] at HI
  clear hr hv hI
  cases ha : areB v n with
  | false =>
    rw [ha] at HA
    go_enter Try.func23, Try.ntmps23
    go_wp2_with (go_at_call 26; refine (HA).mono ?_; rintro _ W1 ⟨rfl, b1⟩)
    go_ret
    exact ⟨rfl, b1⟩
  | true =>
    rw [ha] at HA
    go_enter Try.func23, Try.ntmps23
    go_wp2_with (first | (go_at_call 26; refine (HA).mono ?_; rintro _ W1 ⟨rfl, b1⟩) | (go_at_call 37; refine (HI _).mono ?_; rintro eq wq ⟨nq, rfl, rfl⟩))
    go_ret
    exact ⟨by simp, below_drewN b1 _⟩

set_option maxHeartbeats 1600000 in
theorem iGrow0 (N : Nat) (w : World) (hN : N ≤ 1048576) :
    Calls Try.prog 50 #[.slice none 0 0, .int .i64 N] w fun e w' => (∃ v, e = .returned v ∧ w'.ownsRow w.heap.size 42 7 v 0 []) ∧ Below w.heap.size w w' := by
  obtain ⟨i, hi, he⟩ := Option.map_eq_some_iff.1 infoB
  obtain ⟨i', hi', hz⟩ := Option.map_eq_some_iff.1 zeroB
  obtain rfl : i' = i := by rw [hi] at hi'; cases hi'; rfl
  simp only [Prod.mk.injEq] at he
  obtain ⟨hs, hbt⟩ := he
  obtain ⟨z, hzz, hzc⟩ := Option.map_eq_some_iff.1 hz
  have hcz : z.cells.size = 7 := by rw [hzc]; rfl
  clear hz
  have hn0 : ¬ ((N : Int) < 0) := by omega
  have hw1 : IntKind.i64.wrap ((N : Int) - 0) = N := by rw [IntKind.wrap_i64]; omega
  rcases Nat.eq_zero_or_pos N with rfl | hp
  · go_enter Try.func50, Try.ntmps50
    go_wp2
    go_ret
    exact ⟨⟨_, rfl, by simp [World.ownsRow]⟩, by repeat' (first | with_reducible exact Below.refl _ _ | with_reducible assumption | (with_reducible refine Below.setCell ?_ (by first | omega | (simp; done) | (simp; omega)) _) | (with_reducible refine Below.alloc ?_ (by first | omega | (simp; done) | (simp; omega)) _) | (with_reducible refine below_drewN ?_ _) | (with_reducible refine Below.drew ?_) | (with_reducible refine Below.trans ?_ (Below.mono (by first | (with_reducible assumption) | exact Grow.below (by assumption)) (by first | omega | (simp; done) | (simp; omega)))))⟩
  · have hrz := fun (ty : TypeId) => Lib.run_append_grow_zeros (P := Try.prog) w 25 3 ty 42 i' z .i64 .i64 Try.underlying25 Try.underlying3 hi hzz none 0 0 [] (run_firstCells_none w.drew i'.size 0 0 0) N hp (by omega) (by omega) (by omega) (by rw [hbt]; omega) (growslice_fits (by omega) (by rw [hbt]; omega))
    have hGn := grownCap_ge w (0 + N) 0 42
    have hGm := grownCap_le_maxLen w (0 + N) 0 42 (by unfold maxLen; omega)
    generalize grownCap w (0 + N) 0 42 = G at hrz hGn hGm
    have ho := World.ownsRow_made (base := w.heap.size) (e := 42) (size := 7) w.drew (#[] ++ Builtin.zeroCells z.cells N ++ Builtin.zeroCells z.cells (G - (0 + N))) G (Nat.le_refl _) hGm (by simp [size_zeroCells, hcz]; omega)
    have hb : Below w.heap.size w (w.drew.alloc (.cells (#[] ++ Builtin.zeroCells z.cells N ++ Builtin.zeroCells z.cells (G - (0 + N))) 42)) := by repeat' (first | with_reducible exact Below.refl _ _ | with_reducible assumption | (with_reducible refine Below.setCell ?_ (by first | omega | (simp; done) | (simp; omega)) _) | (with_reducible refine Below.alloc ?_ (by first | omega | (simp; done) | (simp; omega)) _) | (with_reducible refine below_drewN ?_ _) | (with_reducible refine Below.drew ?_) | (with_reducible refine Below.trans ?_ (Below.mono (by first | (with_reducible assumption) | exact Grow.below (by assumption)) (by first | omega | (simp; done) | (simp; omega)))))
    generalize (w.drew.alloc (.cells (#[] ++ Builtin.zeroCells z.cells N ++ Builtin.zeroCells z.cells (G - (0 + N))) 42)) = W at hrz ho hb
    have ho' : W.ownsRow w.heap.size 42 7 (.slice (some ⟨w.heap.size, 0, none⟩) 0 G) 0 [] := ho
    have hG63 : G ≤ 9223372036854775807 := by unfold maxLen at hGm; omega
    clear ho
    have z25 : ∀ w, (Go.sizeOf 42).run Try.prog w = .ok i'.size w := fun w => by simp [Go.sizeOf, typeInfo, hi]
    go_enter Try.func50, Try.ntmps50
    go_wp2_with (at_builtin; refine Lib.wpList_append_run _ rfl _ _ _ _ rfl _ _ rfl rfl _ _ (hrz _) ?_)
    go_ret
    exact ⟨⟨_, rfl, ho'⟩, hb⟩

set_option maxHeartbeats 3200000 in
theorem iCat (B : Nat) (a1 a2 : Addr) (n1 n2 c1 c2 : Nat) (f1 f2 : Nat → Nat) (w : World) (hn : n1 + n2 ≤ 1048576) (hB : B < w.heap.size) (e0 : w.cell? ⟨B, 0, none⟩ = some (.slice (some a1) n1 c1)) (e1 : w.cell? ⟨B, 1, none⟩ = some (.slice (some a2) n2 c2))
    (hb1 : a1.block < w.heap.size) (hb2 : a2.block < w.heap.size) (hr1 : ∀ j, j < 7 * n1 → w.cell? (a1.add j) = some (.float .f32 (f1 j))) (hr2 : ∀ j, j < 7 * n2 → w.cell? (a2.add j) = some (.float .f32 (f2 j))) :
    Calls Try.prog 38 #[.slice (some ⟨B, 0, none⟩) 2 2] w fun e w' => (∃ v, e = .returned v ∧ w'.ownsRow w.heap.size 42 7 v (n1 + n2) ((List.range (7 * n1)).map (wordV f1) ++ (List.range (7 * n2)).map (wordV f2))) ∧ Below w.heap.size w w' := by
  obtain ⟨i, hi, he⟩ := Option.map_eq_some_iff.1 infoB
  obtain ⟨i', hi', hz⟩ := Option.map_eq_some_iff.1 zeroB
  obtain rfl : i' = i := by rw [hi] at hi'; cases hi'; rfl
  simp only [Prod.mk.injEq] at he
  obtain ⟨hs, hbt⟩ := he
  obtain ⟨z, hzz, hzc⟩ := Option.map_eq_some_iff.1 hz
  have hcz : z.cells.size = 7 := by rw [hzc]; rfl
  clear hz hzc
  have hi'' := hi
  clear hi hi'
  have HR1 := Lib.hid hr1
  have HR2 := Lib.hid hr2
  have E0 := Lib.hid e0
  have E1 := Lib.hid e1
  have HN := Lib.hid hn
  clear hr1 hr2 hn e0 e1
  go_enter Try.func38, Try.ntmps38
  go_wp2
  go_loopw [11, 3] (fun i s wr => (i = .int .i64 0 ∧ s = .int .i64 0 ∨ i = .int .i64 1 ∧ s = .int .i64 n1 ∨ i = .int .i64 2 ∧ s = .int .i64 ((n1 + n2 : Nat) : Int)) ∧ wr = w) (fun i _ _ => 2 - (intOf i).toNat)
  case atStart => exact ⟨.inl ⟨rfl, rfl⟩, rfl⟩
  case round =>
    obtain ⟨⟨rfl, rfl⟩ | ⟨rfl, rfl⟩ | ⟨rfl, rfl⟩, rfl⟩ := hrel
    · have e0 := E0.out
      have w1 : wrap64 (n1 : Int) = n1 := by have := HN.out; unfold wrap64; omega
      have w2 : ¬ ((n1 : Int) < 0) := by omega
      go_wp2
      go_roundw
      case rel => exact ⟨.inr (.inl ⟨rfl, by rw [w1]⟩), trivial⟩
      case measure => decide
    · have e1 := E1.out
      have w1 : wrap64 ((n1 : Int) + (n2 : Int)) = ((n1 + n2 : Nat) : Int) := by have := HN.out; unfold wrap64; omega
      have w2 : ¬ (((n1 + n2 : Nat) : Int) < 0) := by omega
      go_wp2
      go_roundw
      case rel => exact ⟨.inr (.inr ⟨rfl, by rw [w1]⟩), trivial⟩
      case measure => decide
    · obtain ⟨w0, rfl⟩ : ∃ X, X = wr := ⟨wr, rfl⟩
      go_wp2_with (go_at_call 50; refine (iGrow0 (n1 + n2) _ HN.out).mono ?_; rintro _ W1 ⟨⟨v1, rfl, o1⟩, b1⟩)
      go_loopw [27, 6] (fun i v wq => ((i = .int .i64 0 ∧ wq.ownsRow w0.heap.size 42 7 v 0 []) ∨ (i = .int .i64 1 ∧ wq.ownsRow w0.heap.size 42 7 v n1 ((List.range (7 * n1)).map (wordV f1))) ∨ (i = .int .i64 2 ∧ wq.ownsRow w0.heap.size 42 7 v (n1 + n2) ((List.range (7 * n1)).map (wordV f1) ++ (List.range (7 * n2)).map (wordV f2)))) ∧ Below w0.heap.size w0 wq) (fun i _ _ => 2 - (intOf i).toNat)
      case atStart => exact ⟨.inl ⟨rfl, o1⟩, b1⟩
      case round =>
        clear o1 b1
        obtain ⟨⟨rfl, ho⟩ | ⟨rfl, ho⟩ | ⟨rfl, ho⟩, hb⟩ := hrel
        · have HO := Lib.hid ho
          clear ho
          have e0 := (hb.cell (p := ⟨B, 0, none⟩) hB).trans E0.out
          go_wp2_with (at_builtin; refine wpList_append_own _ (by rfl) (.tmp 31) (.tmp 32) 25 (by rfl) w0.heap.size 42 i' z 7 28 Try.underlying25 hi'' hzz hs hbt hcz (by decide) _ 0 _ (by rfl) HO.out a1 n1 c1 ((List.range (7 * n1)).map (wordV f1)) (by rfl) (by simp; omega) ?_ ?_ (by have := HN.out; unfold maxLen; omega) (by have := HN.out; omega) hb.size ?_; rotate_left 2; intro v' w' h2 h3 _)
          · refine ⟨⟨.inr (.inl ⟨rfl, by simpa using h2⟩), Below.grown hb h3 hb.size (fun i hi => (HO.out.lt i hi).1)⟩, by decide⟩
          · intro j u hu
            have hj : j < 7 * n1 := by
              have := (List.getElem?_eq_some_iff.1 hu).1
              simpa using this
            have hu' : wordV f1 j = u := by simpa [hj] using hu
            rw [← hu']
            exact (hb.cell (p := a1.add j) (by rw [show (a1.add j).block = a1.block by unfold Addr.add; split <;> rfl]; exact hb1)).trans (HR1.out j hj)
          · intro u hu
            obtain ⟨j, _, rfl⟩ := List.mem_map.1 hu
            rfl
        · have HO := Lib.hid ho
          clear ho
          have e0 := (hb.cell (p := ⟨B, 1, none⟩) hB).trans E1.out
          go_wp2_with (at_builtin; refine wpList_append_own _ (by rfl) (.tmp 31) (.tmp 32) 25 (by rfl) w0.heap.size 42 i' z 7 28 Try.underlying25 hi'' hzz hs hbt hcz (by decide) _ n1 _ (by rfl) HO.out a2 n2 c2 ((List.range (7 * n2)).map (wordV f2)) (by rfl) (by simp; omega) ?_ ?_ (by have := HN.out; unfold maxLen; omega) (by have := HN.out; omega) hb.size ?_; rotate_left 2; intro v' w' h2 h3 _)
          · refine ⟨⟨.inr (.inr ⟨rfl, h2⟩), Below.grown hb h3 hb.size (fun i hi => (HO.out.lt i hi).1)⟩, by decide⟩
          · intro j u hu
            have hj : j < 7 * n2 := by
              have := (List.getElem?_eq_some_iff.1 hu).1
              simpa using this
            have hu' : wordV f2 j = u := by simpa [hj] using hu
            rw [← hu']
            exact (hb.cell (p := a2.add j) (by rw [show (a2.add j).block = a2.block by unfold Addr.add; split <;> rfl]; exact hb2)).trans (HR2.out j hj)
          · intro u hu
            obtain ⟨j, _, rfl⟩ := List.mem_map.1 hu
            rfl
        · go_wp2
          go_ret
          exact ⟨⟨_, rfl, ho⟩, hb⟩

/-- The values of a list without the body k. -/
def dropV (v : Nat → Option Nat) (k j : Nat) : Option Nat := if j < 7 * k then v j else v (j + 7)
/-- Whether a body can be dropped. -/
def dropB (v : Nat → Option Nat) (n : Nat) (i : Int) : Bool := areB v n && inB i n

theorem without_row (f : Nat → Nat) (n k : Nat) (hk : k < n) :
    (List.range (7 * k)).map (wordV f) ++ (List.range (7 * (n - (k + 1)))).map (wordV fun j => f (7 * (k + 1) + j)) = (List.range (7 * (n - 1))).map (wordV fun j => if j < 7 * k then f j else f (j + 7)) := by
  apply List.ext_getElem
  · simp; omega
  · intro j h1 h2
    simp only [List.length_append, List.length_map, List.length_range] at h1 h2
    by_cases hj : j < 7 * k
    · rw [List.getElem_append_left (by simpa using hj)]
      simp [wordV, hj]
    · rw [List.getElem_append_right (by simp; omega)]
      simp [wordV, hj]
      congr 1
      omega

theorem rowOk_of {w : World} {base n : Nat} {v : Value} {r : Nat → Nat} {u : Nat → Option Nat} {e : TypeId} (h : w.ownsRow base e 7 v n ((List.range (7 * n)).map (wordV r))) (hu : ∀ i, i < 7 * n → Is .f32 (r i) (u i)) : RowOk base w.heap.size w v n u := by
  rcases Nat.eq_zero_or_pos n with rfl | hp
  · rcases h.2 with ⟨rfl, _⟩ | ⟨g, cap, cur, rfl, _⟩
    · exact .inl ⟨rfl, _, _, rfl⟩
    · exact .inl ⟨rfl, _, _, rfl⟩
  · obtain ⟨g, c, rfl, _, _⟩ := h.form hp
    have hlt := h.lt g rfl
    refine .inr ⟨g, c, r, rfl, hlt.1, hlt.2, ⟨hlt.2, fun i hi => ?_, fun i => h.frozenAt i⟩, hu⟩
    have h1 := h.cells (g := g) rfl i (wordV r i) (by simp [hi])
    rw [show (⟨g, 0, none⟩ : Addr).add i = ⟨g, i, none⟩ by unfold Addr.add; split <;> simp_all] at h1
    exact h1

theorem RowOk.lo {lo lo' hi m : Nat} {w : World} {v : Value} {u : Nat → Option Nat} (h : RowOk lo' hi w v m u) (hl : lo ≤ lo') : RowOk lo hi w v m u := by
  rcases h with h | ⟨g, c, r, e, h1, h2, ho, hi⟩
  · exact .inl h
  · exact .inr ⟨g, c, r, e, Nat.le_trans hl h1, h2, ho, hi⟩
theorem drop_is {f : Nat → Nat} {v : Nat → Option Nat} {n k : Nat} (h : ∀ i, i < 7 * n → Is .f32 (f i) (v i)) : ∀ i, i < 7 * (n - 1) → Is .f32 (if i < 7 * k then f i else f (i + 7)) (dropV v k i) := by
  intro i hi
  unfold dropV
  split
  · exact h _ (by omega)
  · exact h _ (by omega)

set_option maxHeartbeats 3200000 in
theorem iWithout (b off n cap k : Nat) (f : Nat → Nat) (v : Nat → Option Nat) (w : World) (hn : n ≤ 1048576) (hk : k < n) (hc : n ≤ cap) (hc2 : cap ≤ maxLen) (hb : b < w.heap.size) (hr : ∀ i, i < 7 * n → w.cell? ⟨b, off + i, none⟩ = some (.float .f32 (f i))) (hv : ∀ i, i < 7 * n → Is .f32 (f i) (v i)) :
    Calls Try.prog 25 #[.slice (some ⟨b, off, none⟩) n cap, .int .i64 k] w fun e w' => (∃ s, e = .returned s ∧ RowOk w.heap.size w'.heap.size w' s (n - 1) (dropV v k)) ∧ Below w.heap.size w w' := by
  have HR := Lib.hid hr
  have HV := Lib.hid hv
  clear hr hv
  have w1 : IntKind.i64.wrap ((k : Int) + 1) = ((k + 1 : Nat) : Int) := by rw [IntKind.wrap_i64]; omega
  obtain ⟨i, hi, he⟩ := Option.map_eq_some_iff.1 infoB
  simp only [Prod.mk.injEq] at he
  have hz : ∀ w, (Go.sizeOf 42).run Try.prog w = .ok 7 w := fun w => by simp [Go.sizeOf, typeInfo, hi, he.1]
  have k0 : ¬ ((k : Int) < 0) := by omega
  have k1 : ¬ ((cap : Int) < k) := by omega
  have k2 : ((k + 1 : Nat) : Int) ≤ (n : Int) := by omega
  have k3 : (0 : Int) ≤ ((k + 1 : Nat) : Int) := by omega
  obtain ⟨a2, hA2, hAb, hAj⟩ : ∃ a2 : Addr, (if cap = k + 1 then some (⟨b, off, none⟩ : Addr) else some ⟨b, off + (k + 1) * 7, none⟩) = some a2 ∧ a2.block = b ∧ ∀ j, j < 7 * (n - (k + 1)) → a2.add j = ⟨b, off + (7 * (k + 1) + j), none⟩ := by
    by_cases e : cap = k + 1
    · exact ⟨⟨b, off, none⟩, by rw [if_pos e], rfl, fun j hj => by omega⟩
    · refine ⟨⟨b, off + (k + 1) * 7, none⟩, by rw [if_neg e], rfl, fun j hj => ?_⟩
      unfold Addr.add
      split <;> simp_all
      omega
  clear hi he
  go_enter Try.func25, Try.ntmps25
  go_wp2
  (refine wp_region_held_drew (S := fun w' => Below w.heap.size w w') (by kernel_rfl) (by (try dsimp only); (repeat' (first | with_reducible assumption | with_reducible exact Below.refl _ _ | with_reducible exact keepW (by with_reducible assumption) (by with_reducible assumption) (by first | exact Nat.le_refl _ | assumption | omega | (simp; done) | (simp; omega)) | with_reducible exact keepS (by with_reducible assumption) (by with_reducible assumption) (by first | exact Nat.le_refl _ | assumption | omega | (simp; done) | (simp; omega)) | (with_reducible refine Below.setCell ?_ (by first | omega | (simp; done) | (simp; omega)) _) | (with_reducible refine below_drewN ?_ _) | (with_reducible refine Below.drew ?_) | (with_reducible refine Below.trans ?_ (Below.mono (by with_reducible assumption) (by first | omega | (simp; done) | (simp; omega)))) | (with_reducible refine Below.trans ?_ (Below.mono (Grow.below (by with_reducible assumption)) (by first | omega | (simp; done) | (simp; omega)))) | (with_reducible refine Below.alloc ?_ (by first | omega | (simp; done) | (simp; omega)) _)))) (fun hHeld => ?_))
  (refine wpTake (i := 0) (some 5) (v := ?_) rfl (by rfl) (by kernel_rfl) (by kernel_rfl) (by kernel_rfl) (fun _ _ _ h => h) (Or.inl ⟨by rfl, ?_⟩) (by assumption) ?_; rotate_left; (focus (intro w hSw; (try dsimp only at hSw); go_simp; (try with_reducible rfl))); (simp only [Act.put, List.setIfInBounds_toArray, List.set_cons_zero, List.set_cons_succ]))
  (refine wpTake (i := 1) (some 6) (v := ?_) rfl (by rfl) (by kernel_rfl) (by kernel_rfl) (by kernel_rfl) (fun _ _ _ h => h) (Or.inl ⟨by rfl, ?_⟩) (by assumption) ?_; rotate_left; (focus (intro w hSw; (try dsimp only at hSw); go_simp; (try with_reducible rfl))); (simp only [Act.put, List.setIfInBounds_toArray, List.set_cons_zero, List.set_cons_succ]))
  (refine wpTake (i := 3) (some 8) (v := ?_) rfl (by rfl) (by kernel_rfl) (by kernel_rfl) (by kernel_rfl) (fun _ _ _ h => h) (Or.inl ⟨by rfl, ?_⟩) (by assumption) ?_; rotate_left; (focus (intro w hSw; (try dsimp only at hSw); go_simp; (try with_reducible rfl))); (simp only [Act.put, List.setIfInBounds_toArray, List.set_cons_zero, List.set_cons_succ]))
  (refine wpTake (i := 4) (some 9) (v := ?_) rfl (by rfl) (by kernel_rfl) (by kernel_rfl) (by kernel_rfl) (fun _ _ _ h => h) (Or.inl ⟨by rfl, ?_⟩) (by assumption) ?_; rotate_left; (focus (intro w hSw; (try dsimp only at hSw); go_simp; (try with_reducible rfl))); (simp only [Act.put, List.setIfInBounds_toArray, List.set_cons_zero, List.set_cons_succ]))
  (refine wpTake (i := 5) (some 10) (v := ?_) rfl (by rfl) (by kernel_rfl) (by kernel_rfl) (by kernel_rfl) (fun _ _ _ h => h) (Or.inl ⟨by rfl, ?_⟩) (by assumption) ?_; rotate_left; (focus (intro w hSw; (try dsimp only at hSw); go_simp; (try with_reducible rfl))); (simp only [Act.put, List.setIfInBounds_toArray, List.set_cons_zero, List.set_cons_succ]))

  (refine wpTake (i := 2) (some 7) (v := .slice (some ⟨b, off, none⟩) k cap) rfl (by rfl) (by kernel_rfl) (by kernel_rfl) (by kernel_rfl) (fun _ _ _ h => h) (Or.inl ⟨by rfl, ?_⟩) (by assumption) ?_)
  · intro w hSw
    (try dsimp only at hSw)
    go_simp
  (simp only [Act.put, List.setIfInBounds_toArray, List.set_cons_zero, List.set_cons_succ])
  (refine wpTake (i := 6) (some 11) (v := .slice (some a2) (n - (k + 1)) (cap - (k + 1))) rfl (by rfl) (by kernel_rfl) (by kernel_rfl) (by kernel_rfl) (fun _ _ _ h => h) (Or.inl ⟨by rfl, ?_⟩) (by assumption) ?_)
  · intro w hSw
    (try dsimp only at hSw)
    go_simp
    have k4 : ((k : Int) + 1).toNat = k + 1 := by omega
    have k5 : (0 : Int) ≤ (k : Int) + 1 ∧ (k : Int) + 1 ≤ (n : Int) := by omega
    intro hq
    exact absurd (hq k5.1) (by have := k5.2; omega)
  (simp only [Act.put, List.setIfInBounds_toArray, List.set_cons_zero, List.set_cons_succ])
  (refine wpAnyH_ready (rs := [7]) (by kernel_rfl) (by simp) ?_; refine AllReadyH.cons rfl (fun K hK => ?_) AllReadyH.nil; go_simp)
  refine hK.out _ _ (by repeat' (first | with_reducible exact Below.refl _ _ | with_reducible assumption | (with_reducible refine Below.setCell ?_ (by first | omega | (simp; done) | (simp; omega)) _) | (with_reducible refine Below.alloc ?_ (by first | omega | (simp; done) | (simp; omega)) _) | (with_reducible refine below_drewN ?_ _) | (with_reducible refine Below.drew ?_) | (with_reducible refine Below.trans ?_ (Below.mono (by first | (with_reducible assumption) | exact Grow.below (by assumption)) (by first | omega | (simp; done) | (simp; omega)))))) (fun hHeld => ?_)
  clear hK K
  (try simp only [Act.put, List.setIfInBounds_toArray, List.set_cons_zero, List.set_cons_succ])
  have hz2 := hHeld.size
  (refine wpAnyH_ready (rs := [8]) (by kernel_rfl) (by simp) ?_; refine AllReadyH.cons rfl (fun K hK => ?_) AllReadyH.nil; go_simp)
  (go_at_call 38; refine (iCat w.heap.size ⟨b, off, none⟩ a2 k (n - (k + 1)) cap (cap - (k + 1)) f (fun j => f (7 * (k + 1) + j)) _ (by omega) (by simp) (by simp) (by simp) (Nat.lt_of_lt_of_le hb hz2) (by rw [hAb]; exact Nat.lt_of_lt_of_le hb hz2) (fun j hj => ?_) (fun j hj => ?_)).mono ?_; rotate_left 2; rintro _ W2 ⟨⟨s, rfl, ho⟩, b2⟩)
  · (go_wp2_with fail; refine hK.out _ _ (by (try dsimp only); (repeat' (first | with_reducible assumption | with_reducible exact Below.refl _ _ | with_reducible exact keepW (by with_reducible assumption) (by with_reducible assumption) (by first | exact Nat.le_refl _ | assumption | omega | (simp; done) | (simp; omega)) | with_reducible exact keepS (by with_reducible assumption) (by with_reducible assumption) (by first | exact Nat.le_refl _ | assumption | omega | (simp; done) | (simp; omega)) | (with_reducible refine Below.setCell ?_ (by first | omega | (simp; done) | (simp; omega)) _) | (with_reducible refine below_drewN ?_ _) | (with_reducible refine Below.drew ?_) | (with_reducible refine Below.trans ?_ (Below.mono (by with_reducible assumption) (by first | omega | (simp; done) | (simp; omega)))) | (with_reducible refine Below.trans ?_ (Below.mono (Grow.below (by with_reducible assumption)) (by first | omega | (simp; done) | (simp; omega)))) | (with_reducible refine Below.alloc ?_ (by first | omega | (simp; done) | (simp; omega)) _)))) (fun hHeld => ?_); clear hK K; try (simp only [Act.put, List.setIfInBounds_toArray, List.set_cons_zero, List.set_cons_succ]))
    (refine wpTake (i := 9) (some 4) (v := ?_) rfl (by rfl) (by kernel_rfl) (by kernel_rfl) (by kernel_rfl) (fun _ _ _ h => h) (Or.inl ⟨by rfl, ?_⟩) (by assumption) ?_; rotate_left; (focus (intro w hSw; (try dsimp only at hSw); go_simp; (try with_reducible rfl))); (simp only [Act.put, List.setIfInBounds_toArray, List.set_cons_zero, List.set_cons_succ]))
    (refine wpAnyH_done (by kernel_rfl) ?_ _)
    go_wp2_with fail
    go_ret
    rw [without_row f n k hk, show k + (n - (k + 1)) = n - 1 by omega] at ho
    exact ⟨⟨s, rfl, (rowOk_of ho (drop_is HV.out)).lo hz2⟩, by with_reducible assumption⟩
  · exact (hHeld.cell (p := (⟨b, off, none⟩ : Addr).add j) (by rw [show ((⟨b, off, none⟩ : Addr).add j).block = b by unfold Addr.add; split <;> rfl]; exact hb)).trans (by rw [show (⟨b, off, none⟩ : Addr).add j = ⟨b, off + j, none⟩ by unfold Addr.add; split <;> simp_all]; exact HR.out j (by omega))
  · rw [hAj j hj]
    exact (hHeld.cell (p := ⟨b, off + (7 * (k + 1) + j), none⟩) hb).trans (HR.out _ (by omega))

set_option maxHeartbeats 3200000 in
theorem iDrop (b off n cap : Nat) (f : Nat → Nat) (v : Nat → Option Nat) (i : Int) (hc : n ≤ cap) (hc2 : cap ≤ maxLen) (w : World) (hn : n ≤ 1048576) (hb : b < w.heap.size) (hr : ∀ i, i < 7 * n → w.cell? ⟨b, off + i, none⟩ = some (.float .f32 (f i))) (hv : ∀ i, i < 7 * n → Is .f32 (f i) (v i)) :
    Calls Try.prog 14 #[.slice (some ⟨b, off, none⟩) n cap, .int .i64 i] w (RetList (dropV v i.toNat) (n - 1) (dropB v n i) w) := by
  have HA := iAre b off n cap f v w hn hb hr hv
  have HR := Lib.hid hr
  have HV := Lib.hid hv
  clear hr hv
  cases ha : areB v n with
  | false =>
    rw [ha] at HA
    rw [show dropB v n i = false by simp [dropB, ha]]
    go_enter Try.func14, Try.ntmps14
    go_wp2_with (go_at_call 16; refine (HA).mono ?_; rintro _ W1 ⟨rfl, b1⟩)
    go_ret2
    exact RetList.no b1
  | true =>
    rw [ha] at HA
    have HH := fun (W : World) => iBodyOf (some ⟨b, off, none⟩) n cap i W
    cases hi : inB i n with
    | true =>
      rw [hi] at HH
      rw [show dropB v n i = true by simp [dropB, ha, hi]]
      simp only [inB, Bool.and_eq_true, decide_eq_true_eq] at hi
      obtain ⟨k, rfl⟩ : ∃ k : Nat, i = k := ⟨i.toNat, by omega⟩
      have HK := Lib.hid (show k < n by omega)
      clear hi
      have HC := Lib.hid hc
      have HM := Lib.hid hc2
      clear hc hc2
      go_enter Try.func14, Try.ntmps14
      go_wp2_with (first | (go_at_call 16; refine (HA).mono ?_; rintro _ W1 ⟨rfl, b1⟩) | (go_at_call 24; refine (HH _).mono ?_; rintro eq wq ⟨nq, rfl, rfl⟩) | (go_at_call 25; refine (iWithout b off n cap k f v _ hn HK.out HC.out HM.out (Nat.lt_of_lt_of_le hb (below_drewN b1 _).size) (fun i hi => ((below_drewN b1 _).cell (p := ⟨b, off + i, none⟩) hb).trans (HR.out i hi)) HV.out).mono ?_; rintro _ W3 ⟨⟨s, rfl, ho⟩, b3⟩))
      go_ret2
      have bN := below_drewN b1 nq
      exact ⟨⟨s, rfl, by simpa using ho.lo bN.size⟩, bN.trans (b3.mono bN.size)⟩
    | false =>
      rw [hi] at HH
      rw [show dropB v n i = false by simp [dropB, hi]]
      clear hi
      go_enter Try.func14, Try.ntmps14
      go_wp2_with (first | (go_at_call 16; refine (HA).mono ?_; rintro _ W1 ⟨rfl, b1⟩) | (go_at_call 24; refine (HH _).mono ?_; rintro eq wq ⟨nq, rfl, rfl⟩))
      go_ret2
      exact RetList.no (below_drewN b1 _)

theorem daddK (b off i : Nat) : (⟨b, off, none⟩ : Addr).add i = ⟨b, off + i, none⟩ := by unfold Addr.add; split <;> simp_all
theorem dadd0 (b i : Nat) : (⟨b, 0, none⟩ : Addr).add i = ⟨b, i, none⟩ := by rw [daddK, Nat.zero_add]
theorem drow_below {w w' : World} {base : Nat} {e : TypeId} {size : Nat} {v : Value} {n : Nat} {xs : List Value} (h : w.ownsRow base e size v n xs) (hb : Below w.heap.size w w') : w'.ownsRow base e size v n xs := by
  obtain ⟨h1, h2 | ⟨g, cap, cur, h2, h3, h4, h5⟩⟩ := h
  · exact ⟨h1, .inl h2⟩
  · refine ⟨h1, .inr ⟨g, cap, cur, h2, h3, ?_, h5⟩⟩
    rw [hb.block g ?_]; exact h4
    rcases Nat.lt_or_ge g w.heap.size with h | h
    · exact h
    · rw [Array.getElem?_eq_none h] at h4; cases h4
theorem dcell_of_block {w : World} {g k : Nat} {cs : Array Value} {e : TypeId} {v : Value} (h : w.heap[g]? = some (.cells cs e (0, 0))) (hk : cs[k]? = some v) : w.cell? ⟨g, k, none⟩ = some v := by
  simp [World.cell?, h, hk]
theorem dnews (w : World) (B : Nat) (cs : Array Value) (e : TypeId) (hB : B = w.heap.size) : ∀ i u, cs.toList[i]? = some u → (w.alloc (.cells cs e)).cell? ((⟨B, 0, none⟩ : Addr).add i) = some u := by
  intro i u h
  subst hB
  rw [dadd0]
  exact dcell_of_block (heap_alloc_new w _) (by simpa using h)
theorem range7 (g : Nat → Value) (k : Nat) : (List.range (7 * (k + 1))).map g = (List.range (7 * k)).map g ++ [g (7 * k), g (7 * k + 1), g (7 * k + 2), g (7 * k + 3), g (7 * k + 4), g (7 * k + 5), g (7 * k + 6)] := by
  rw [show 7 * (k + 1) = 7 * k + 1 + 1 + 1 + 1 + 1 + 1 + 1 by omega]
  simp [List.range_succ]

/-- The words of a list without the body K. -/
def dropF (f : Nat → Nat) (K j : Nat) : Nat := if j < 7 * K then f j else f (j + 7)
/-- How many bodies of the first k are kept. -/
def keptN (K k : Nat) : Nat := if k ≤ K then k else k - 1
theorem dropF_at (f : Nat → Nat) {K k t : Nat} (h : k ≠ K) (ht : t < 7) : dropF f K (7 * keptN K k + t) = f (7 * k + t) := by
  unfold dropF keptN
  by_cases hk : k ≤ K
  · rw [if_pos hk, if_pos (by omega)]
  · rw [if_neg hk, if_neg (by omega)]
    congr 1
    omega

set_option maxHeartbeats 3200000 in
theorem sDrop (b off n cap : Nat) (f : Nat → Nat) (v : Nat → Option Nat) (i : Int) (hc : n ≤ cap) (hc2 : cap ≤ maxLen) (w : World) (hn : n ≤ 1048576) (hb : b < w.heap.size) (hr : ∀ i, i < 7 * n → w.cell? ⟨b, off + i, none⟩ = some (.float .f32 (f i))) (hv : ∀ i, i < 7 * n → Is .f32 (f i) (v i)) :
    Calls Try.prog 13 #[.slice (some ⟨b, off, none⟩) n cap, .int .i64 i] w (RetList (dropV v i.toNat) (n - 1) (dropB v n i) w) := by
  have hst := run_store_float Try.prog
  have HA := sHas b off n cap f v i w hn hb hr hv
  have HR := Lib.hid hr
  have HV := Lib.hid hv
  clear hr hv
  cases hd : (areB v n && inB i n) with
  | false =>
    rw [hd] at HA
    rw [show dropB v n i = false from hd]
    clear hd
    go_enter Try.func13, Try.ntmps13
    go_wp2_with (go_at_call 23; refine (HA).mono ?_; rintro _ W1 ⟨rfl, b1⟩)
    go_ret2
    exact RetList.no b1
  | true =>
    rw [hd] at HA
    rw [show dropB v n i = true from hd]
    simp only [inB, Bool.and_eq_true, decide_eq_true_eq] at hd
    obtain ⟨K, rfl⟩ : ∃ K : Nat, i = K := ⟨i.toNat, by omega⟩
    have HK := Lib.hid (show K < n by omega)
    clear hd
    obtain ⟨i, hi, he⟩ := Option.map_eq_some_iff.1 infoB
    obtain ⟨i', hi', hzk⟩ := Option.map_eq_some_iff.1 zeroB
    obtain rfl : i' = i := by rw [hi] at hi'; cases hi'; rfl
    simp only [Prod.mk.injEq] at he
    obtain ⟨hs, hbt⟩ := he
    obtain ⟨z, hzz, hzc⟩ := Option.map_eq_some_iff.1 hzk
    have hcz : z.cells.size = 7 := by rw [hzc]; rfl
    clear hzk hzc
    have hi' := hi
    clear hi
    go_enter Try.func13, Try.ntmps13
    go_wp2_with (go_at_call 23; refine (HA).mono ?_; rintro _ W1 ⟨rfl, b1⟩)
    have b2 : Below w.heap.size w (W1.alloc (.cells #[] 42)) := by have hz1 := b1.size; repeat' (first | with_reducible exact Below.refl _ _ | with_reducible assumption | (with_reducible refine Below.setCell ?_ (by first | omega | (simp; done) | (simp; omega)) _) | (with_reducible refine Below.alloc ?_ (by first | omega | (simp; done) | (simp; omega)) _) | (with_reducible refine below_drewN ?_ _) | (with_reducible refine Below.drew ?_) | (with_reducible refine Below.trans ?_ (Below.mono (by first | (with_reducible assumption) | exact Grow.below (by assumption)) (by first | omega | (simp; done) | (simp; omega)))))
    have o2 : (W1.alloc (.cells #[] 42)).ownsRow w.heap.size 42 7 (.slice (some ⟨W1.heap.size, 0, none⟩) 0 0) 0 [] := World.ownsRow_made (base := w.heap.size) (e := 42) (size := 7) W1 #[] 0 b1.size (Nat.zero_le _) rfl
    generalize (W1.alloc (.cells #[] 42)) = W2 at b2 o2 ⊢
    clear b1
    go_loopw [7, 6] (fun i l wr => ∃ k : Nat, k ≤ n ∧ i = .int .i64 k ∧ wr.ownsRow w.heap.size 42 7 l (keptN K k) ((List.range (7 * keptN K k)).map (wordV (dropF f K))) ∧ Below w.heap.size w wr) (fun i _ _ => n - (intOf i).toNat)
    case atStart => exact ⟨0, Nat.zero_le _, rfl, by simpa [keptN] using o2, b2⟩
    case round =>
      clear o2 b2
      obtain ⟨k, hk, rfl, ho, hbel⟩ := hrel
      have HO := Lib.hid ho
      clear ho
      by_cases hlt : k < n
      · obtain ⟨c0, c1, c2, c3, c4, c5, c6⟩ := cells7 HR.out hlt
        rw [← hbel.cell (by exact hb)] at c0 c1 c2 c3 c4 c5 c6
        have hz2 := hbel.size
        by_cases hkK : k = K
        · have hki : Hid (k = K) := hkK
          clear hkK
          have hki2 : (k : Int) = (K : Int) := by rw [hki.out]
          go_wp2_with fail
          refine ⟨⟨k + 1, by omega, by rw [hki.out]; go_num, ?_, hbel⟩, by simp [intOf]; omega⟩
          rw [show keptN K (k + 1) = keptN K k by unfold keptN; rw [if_neg (by have := hki.out; omega), if_pos (by have := hki.out; omega)]; omega]
          exact HO.out
        · have hki : Hid (k ≠ K) := hkK
          have hki2 : ¬ ((k : Int) = (K : Int)) := by omega
          clear hkK
          go_wp2_with (at_builtin; go_loud (refine wpList_append_form (by rfl) (.tmp 22) (.tmp 27) 25 (by rfl) w.heap.size 42 i' z 7 28 Try.underlying25 hi' hzz hs hbt hcz (by decide) _ (keptN K k) _ (by rfl) (drow_below HO.out (by repeat' (first | with_reducible exact Below.refl _ _ | with_reducible assumption | (with_reducible refine Below.setCell ?_ (by first | omega | (simp; done) | (simp; omega)) _) | (with_reducible refine Below.alloc ?_ (by first | omega | (simp; done) | (simp; omega)) _) | (with_reducible refine below_drewN ?_ _) | (with_reducible refine Below.drew ?_) | (with_reducible refine Below.trans ?_ (Below.mono (by first | (with_reducible assumption) | exact Grow.below (by assumption)) (by first | omega | (simp; done) | (simp; omega))))))) ⟨wr.heap.size, 0, none⟩ 1 1 [_, _, _, _, _, _, _] (by rfl) rfl (dnews _ wr.heap.size #[_, _, _, _, _, _, _] _ (by simp)) (fun u hu => by simp at hu; rcases hu with rfl | rfl | rfl | rfl | rfl | rfl | rfl <;> rfl) (by unfold maxLen keptN; split <;> omega) (by unfold keptN; split <;> omega) (by simp; omega) (by omega) ?_); intro g' cap' w3 hown' hgrow)
          refine ⟨⟨k + 1, by omega, by go_num, ?_, ?_⟩, by simp [intOf]; omega⟩
          · rw [show keptN K (k + 1) = keptN K k + 1 by have := hki.out; unfold keptN; split <;> split <;> omega, range7]
            have h0 := dropF_at f hki.out (t := 0) (by omega)
            simp only [Nat.add_zero] at h0
            rw [show [wordV (dropF f K) (7 * keptN K k), wordV (dropF f K) (7 * keptN K k + 1), wordV (dropF f K) (7 * keptN K k + 2), wordV (dropF f K) (7 * keptN K k + 3), wordV (dropF f K) (7 * keptN K k + 4), wordV (dropF f K) (7 * keptN K k + 5), wordV (dropF f K) (7 * keptN K k + 6)] = [.float .f32 (f (7 * k)), .float .f32 (f (7 * k + 1)), .float .f32 (f (7 * k + 2)), .float .f32 (f (7 * k + 3)), .float .f32 (f (7 * k + 4)), .float .f32 (f (7 * k + 5)), .float .f32 (f (7 * k + 6))] by
              simp only [wordV, h0, dropF_at f hki.out (t := 1) (by omega), dropF_at f hki.out (t := 2) (by omega), dropF_at f hki.out (t := 3) (by omega), dropF_at f hki.out (t := 4) (by omega), dropF_at f hki.out (t := 5) (by omega), dropF_at f hki.out (t := 6) (by omega)]]
            exact hown'
          · refine Below.grown ?_ hgrow (by simp; omega) (fun i hi => (HO.out.lt i hi).1)
            repeat' (first | with_reducible exact Below.refl _ _ | with_reducible assumption | (with_reducible refine Below.setCell ?_ (by first | omega | (simp; done) | (simp; omega)) _) | (with_reducible refine Below.alloc ?_ (by first | omega | (simp; done) | (simp; omega)) _) | (with_reducible refine below_drewN ?_ _) | (with_reducible refine Below.drew ?_) | (with_reducible refine Below.trans ?_ (Below.mono (by first | (with_reducible assumption) | exact Grow.below (by assumption)) (by first | omega | (simp; done) | (simp; omega)))))
      · have hkn : k = n := by omega
        have ho := HO.out
        rw [show keptN K k = n - 1 by have := HK.out; unfold keptN; rw [if_neg (by omega), hkn]] at ho
        have HO2 := Lib.hid ho
        clear ho HO
        go_wp2_with fail
        go_ret2
        exact ⟨⟨_, rfl, by simpa using rowOk_of HO2.out (drop_is HV.out)⟩, hbel⟩
end Go.Proofs.Ytjljdnkedbejaaa
