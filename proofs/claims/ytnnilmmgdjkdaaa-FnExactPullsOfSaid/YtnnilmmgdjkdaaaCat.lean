/-
  slices.Concat of two lists of bodies: the row that it makes, and slices.Grow of nil. No condition.
-/
import Derived.Test.YtnnilmmgdjkdaaaRowOk
import Derived.Test.YtnnilmmgdjkdaaaApp
import Derived.OwnWalk
import Derived.Lib.SliceRun
import Derived.Lib.AppendZerosOnto
namespace Go.Proofs.Ytnnilmmgdjkdaaa
open Go.RowKit

set_option maxHeartbeats 1600000 in
theorem iGrow0 (N : Nat) (w : World) (hN : N ≤ 1048576) :
    Calls Try.prog 65 #[.slice none 0 0, .int .i64 N] w fun e w' => (∃ v, e = .returned v ∧ w'.ownsRow w.heap.size 46 7 v 0 []) ∧ Below w.heap.size w w' := by
  obtain ⟨i, hi, he⟩ := Option.map_eq_some_iff.1 infoB
  obtain ⟨i', hi', hz⟩ := Option.map_eq_some_iff.1 zeroB
  obtain rfl : i' = i := by rw [hi] at hi'; cases hi'; rfl
  simp only [Prod.mk.injEq] at he
  obtain ⟨hs, hbt⟩ := he
  obtain ⟨z, hzz, hzc⟩ := Option.map_eq_some_iff.1 hz
  have hcz : z.cells.size = 7 := by rw [hzc]; rfl
  clear hz
  have hn0 : ¬ ((N : Int) < 0) := by omega
  have hw1 : IntKind.i64.wrap ((N : Int) - 0) = N := by rw [IntKind.wrap_i64]; omega
  rcases Nat.eq_zero_or_pos N with rfl | hp
  · go_enter Try.func65, Try.ntmps65
    go_wp2
    go_ret
    exact ⟨⟨_, rfl, by simp [World.ownsRow]⟩, by repeat' (first | with_reducible exact Below.refl _ _ | with_reducible assumption | (with_reducible refine Below.setCell ?_ (by first | omega | (simp; done) | (simp; omega)) _) | (with_reducible refine Below.alloc ?_ (by first | omega | (simp; done) | (simp; omega)) _) | (with_reducible refine below_drewN ?_ _) | (with_reducible refine Below.drew ?_) | (with_reducible refine Below.trans ?_ (Below.mono (by first | (with_reducible assumption) | exact Grow.below (by assumption)) (by first | omega | (simp; done) | (simp; omega)))))⟩
  · have hrz := fun (ty : TypeId) => Lib.run_append_grow_zeros (P := Try.prog) w 28 3 ty 46 i' z .i64 .i64 Try.underlying28 Try.underlying3 hi hzz none 0 0 [] (run_firstCells_none w.drew i'.size 0 0 0) N hp (by omega) (by omega) (by omega) (by rw [hbt]; omega) (growslice_fits (by omega) (by rw [hbt]; omega))
    have hGn := grownCap_ge w (0 + N) 0 46
    have hGm := grownCap_le_maxLen w (0 + N) 0 46 (by unfold maxLen; omega)
    generalize grownCap w (0 + N) 0 46 = G at hrz hGn hGm
    have ho := World.ownsRow_made (base := w.heap.size) (e := 46) (size := 7) w.drew (#[] ++ Builtin.zeroCells z.cells N ++ Builtin.zeroCells z.cells (G - (0 + N))) G (Nat.le_refl _) hGm (by simp [size_zeroCells, hcz]; omega)
    have hb : Below w.heap.size w (w.drew.alloc (.cells (#[] ++ Builtin.zeroCells z.cells N ++ Builtin.zeroCells z.cells (G - (0 + N))) 46)) := by repeat' (first | with_reducible exact Below.refl _ _ | with_reducible assumption | (with_reducible refine Below.setCell ?_ (by first | omega | (simp; done) | (simp; omega)) _) | (with_reducible refine Below.alloc ?_ (by first | omega | (simp; done) | (simp; omega)) _) | (with_reducible refine below_drewN ?_ _) | (with_reducible refine Below.drew ?_) | (with_reducible refine Below.trans ?_ (Below.mono (by first | (with_reducible assumption) | exact Grow.below (by assumption)) (by first | omega | (simp; done) | (simp; omega)))))
    generalize (w.drew.alloc (.cells (#[] ++ Builtin.zeroCells z.cells N ++ Builtin.zeroCells z.cells (G - (0 + N))) 46)) = W at hrz ho hb
    have ho' : W.ownsRow w.heap.size 46 7 (.slice (some ⟨w.heap.size, 0, none⟩) 0 G) 0 [] := ho
    have hG63 : G ≤ 9223372036854775807 := by unfold maxLen at hGm; omega
    clear ho
    have z25 : ∀ w, (Go.sizeOf 46).run Try.prog w = .ok i'.size w := fun w => by simp [Go.sizeOf, typeInfo, hi]
    go_enter Try.func65, Try.ntmps65
    go_wp2_with (at_builtin; refine Lib.wpList_append_run _ rfl _ _ _ _ rfl _ _ rfl rfl _ _ (hrz _) ?_)
    go_ret
    exact ⟨⟨_, rfl, ho'⟩, hb⟩

set_option maxHeartbeats 3200000 in
theorem iCat (B : Nat) (a1 a2 : Addr) (n1 n2 c1 c2 : Nat) (f1 f2 : Nat → Nat) (w : World) (hn : n1 + n2 ≤ 1048576) (hB : B < w.heap.size) (e0 : w.cell? ⟨B, 0, none⟩ = some (.slice (some a1) n1 c1)) (e1 : w.cell? ⟨B, 1, none⟩ = some (.slice (some a2) n2 c2))
    (hb1 : a1.block < w.heap.size) (hb2 : a2.block < w.heap.size) (hr1 : ∀ j, j < 7 * n1 → w.cell? (a1.add j) = some (.float .f32 (f1 j))) (hr2 : ∀ j, j < 7 * n2 → w.cell? (a2.add j) = some (.float .f32 (f2 j))) :
    Calls Try.prog 48 #[.slice (some ⟨B, 0, none⟩) 2 2] w fun e w' => (∃ v, e = .returned v ∧ w'.ownsRow w.heap.size 46 7 v (n1 + n2) ((List.range (7 * n1)).map (wordV f1) ++ (List.range (7 * n2)).map (wordV f2))) ∧ Below w.heap.size w w' := by
  obtain ⟨i, hi, he⟩ := Option.map_eq_some_iff.1 infoB
  obtain ⟨i', hi', hz⟩ := Option.map_eq_some_iff.1 zeroB
  obtain rfl : i' = i := by rw [hi] at hi'; cases hi'; rfl
  simp only [Prod.mk.injEq] at he
  obtain ⟨hs, hbt⟩ := he
  obtain ⟨z, hzz, hzc⟩ := Option.map_eq_some_iff.1 hz
  have hcz : z.cells.size = 7 := by rw [hzc]; rfl
  clear hz hzc
  have hi'' := hi
  clear hi hi'
  have HR1 := Lib.hid hr1
  have HR2 := Lib.hid hr2
  have E0 := Lib.hid e0
  have E1 := Lib.hid e1
  have HN := Lib.hid hn
  clear hr1 hr2 hn e0 e1
  go_enter Try.func48, Try.ntmps48
  go_wp2
  go_loopw [11, 3] (fun i s wr => (i = .int .i64 0 ∧ s = .int .i64 0 ∨ i = .int .i64 1 ∧ s = .int .i64 n1 ∨ i = .int .i64 2 ∧ s = .int .i64 ((n1 + n2 : Nat) : Int)) ∧ wr = w) (fun i _ _ => 2 - (intOf i).toNat)
  case atStart => exact ⟨.inl ⟨rfl, rfl⟩, rfl⟩
  case round =>
    obtain ⟨⟨rfl, rfl⟩ | ⟨rfl, rfl⟩ | ⟨rfl, rfl⟩, rfl⟩ := hrel
    · have e0 := E0.out
      have w1 : wrap64 (n1 : Int) = n1 := by have := HN.out; unfold wrap64; omega
      have w2 : ¬ ((n1 : Int) < 0) := by omega
      go_wp2
      go_roundw
      case rel => exact ⟨.inr (.inl ⟨rfl, by rw [w1]⟩), trivial⟩
      case measure => decide
    · have e1 := E1.out
      have w1 : wrap64 ((n1 : Int) + (n2 : Int)) = ((n1 + n2 : Nat) : Int) := by have := HN.out; unfold wrap64; omega
      have w2 : ¬ (((n1 + n2 : Nat) : Int) < 0) := by omega
      go_wp2
      go_roundw
      case rel => exact ⟨.inr (.inr ⟨rfl, by rw [w1]⟩), trivial⟩
      case measure => decide
    · obtain ⟨w0, rfl⟩ : ∃ X, X = wr := ⟨wr, rfl⟩
      go_wp2_with (go_at_call 65; refine (iGrow0 (n1 + n2) _ HN.out).mono ?_; rintro _ W1 ⟨⟨v1, rfl, o1⟩, b1⟩)
      go_loopw [27, 6] (fun i v wq => ((i = .int .i64 0 ∧ wq.ownsRow w0.heap.size 46 7 v 0 []) ∨ (i = .int .i64 1 ∧ wq.ownsRow w0.heap.size 46 7 v n1 ((List.range (7 * n1)).map (wordV f1))) ∨ (i = .int .i64 2 ∧ wq.ownsRow w0.heap.size 46 7 v (n1 + n2) ((List.range (7 * n1)).map (wordV f1) ++ (List.range (7 * n2)).map (wordV f2)))) ∧ Below w0.heap.size w0 wq) (fun i _ _ => 2 - (intOf i).toNat)
      case atStart => exact ⟨.inl ⟨rfl, o1⟩, b1⟩
      case round =>
        clear o1 b1
        obtain ⟨⟨rfl, ho⟩ | ⟨rfl, ho⟩ | ⟨rfl, ho⟩, hb⟩ := hrel
        · have HO := Lib.hid ho
          clear ho
          have e0 := (hb.cell (p := ⟨B, 0, none⟩) hB).trans E0.out
          go_wp2_with (at_builtin; refine wpList_append_own _ (by rfl) (.tmp 31) (.tmp 32) 28 (by rfl) w0.heap.size 46 i' z 7 28 Try.underlying28 hi'' hzz hs hbt hcz (by decide) _ 0 _ (by rfl) HO.out a1 n1 c1 ((List.range (7 * n1)).map (wordV f1)) (by rfl) (by simp; omega) ?_ ?_ (by have := HN.out; unfold maxLen; omega) (by have := HN.out; omega) hb.size ?_; rotate_left 2; intro v' w' h2 h3 _)
          · refine ⟨⟨.inr (.inl ⟨rfl, by simpa using h2⟩), Below.grown hb h3 hb.size (fun i hi => (HO.out.lt i hi).1)⟩, by decide⟩
          · intro j u hu
            have hj : j < 7 * n1 := by
              have := (List.getElem?_eq_some_iff.1 hu).1
              simpa using this
            have hu' : wordV f1 j = u := by simpa [hj] using hu
            rw [← hu']
            exact (hb.cell (p := a1.add j) (by rw [show (a1.add j).block = a1.block by unfold Addr.add; split <;> rfl]; exact hb1)).trans (HR1.out j hj)
          · intro u hu
            obtain ⟨j, _, rfl⟩ := List.mem_map.1 hu
            rfl
        · have HO := Lib.hid ho
          clear ho
          have e0 := (hb.cell (p := ⟨B, 1, none⟩) hB).trans E1.out
          go_wp2_with (at_builtin; refine wpList_append_own _ (by rfl) (.tmp 31) (.tmp 32) 28 (by rfl) w0.heap.size 46 i' z 7 28 Try.underlying28 hi'' hzz hs hbt hcz (by decide) _ n1 _ (by rfl) HO.out a2 n2 c2 ((List.range (7 * n2)).map (wordV f2)) (by rfl) (by simp; omega) ?_ ?_ (by have := HN.out; unfold maxLen; omega) (by have := HN.out; omega) hb.size ?_; rotate_left 2; intro v' w' h2 h3 _)
          · refine ⟨⟨.inr (.inr ⟨rfl, h2⟩), Below.grown hb h3 hb.size (fun i hi => (HO.out.lt i hi).1)⟩, by decide⟩
          · intro j u hu
            have hj : j < 7 * n2 := by
              have := (List.getElem?_eq_some_iff.1 hu).1
              simpa using this
            have hu' : wordV f2 j = u := by simpa [hj] using hu
            rw [← hu']
            exact (hb.cell (p := a2.add j) (by rw [show (a2.add j).block = a2.block by unfold Addr.add; split <;> rfl]; exact hb2)).trans (HR2.out j hj)
          · intro u hu
            obtain ⟨j, _, rfl⟩ := List.mem_map.1 hu
            rfl
        · go_wp2
          go_ret
          exact ⟨⟨_, rfl, ho⟩, hb⟩
end Go.Proofs.Ytnnilmmgdjkdaaa
