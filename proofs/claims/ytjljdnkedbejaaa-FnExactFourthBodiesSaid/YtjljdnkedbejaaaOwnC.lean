/-
  A list of bodies of its own, of the model. No condition.
-/
import Derived.Test.YtjljdnkedbejaaaOwn
import Derived.Test.YtjljdnkedbejaaaApp
import Derived.OwnWalk
namespace Go.Proofs.Ytjljdnkedbejaaa
open Go.RowKit

theorem addK (b off i : Nat) : (⟨b, off, none⟩ : Addr).add i = ⟨b, off + i, none⟩ := by unfold Addr.add; split <;> simp_all
theorem add0 (b i : Nat) : (⟨b, 0, none⟩ : Addr).add i = ⟨b, i, none⟩ := by rw [addK, Nat.zero_add]

set_option maxHeartbeats 1600000 in
theorem sOwn (b off n cap : Nat) (f : Nat → Nat) (w : World) (h0 : 0 < n) (hn : n ≤ 1048576) (hb : b < w.heap.size) (hr : ∀ i, i < 7 * n → w.cell? ⟨b, off + i, none⟩ = some (.float .f32 (f i))) :
    Calls Try.prog 44 #[.slice (some ⟨b, off, none⟩) n cap] w fun e w' => (∃ g c, e = .returned (.slice (some ⟨g, 0, none⟩) n c) ∧ w.heap.size ≤ g ∧ Own w' g (7 * n) (wordV f)) ∧ Below w.heap.size w w' := by
  have HR := Lib.hid hr
  clear hr
  obtain ⟨i, hi, he⟩ := Option.map_eq_some_iff.1 infoB
  obtain ⟨i', hi', hz⟩ := Option.map_eq_some_iff.1 zeroB
  obtain rfl : i' = i := by rw [hi] at hi'; cases hi'; rfl
  simp only [Prod.mk.injEq] at he
  obtain ⟨hs, hbt⟩ := he
  obtain ⟨z, hzz, hzc⟩ := Option.map_eq_some_iff.1 hz
  have hcz : z.cells.size = 7 := by rw [hzc]; rfl
  clear hz
  go_enter Try.func44, Try.ntmps44
  go_wp2_with (at_builtin; go_loud (refine wpList_append_form (by rfl) (.tmp 3) (.tmp 4) 25 (by rfl) w.heap.size 42 i' z 7 28 Try.underlying25 hi hzz hs hbt hcz (by decide) _ 0 [] (by rfl) (World.ownsRow_made w #[] 0 (Nat.le_refl _) (Nat.zero_le _) rfl) ⟨b, off, none⟩ n cap ((List.range (7 * n)).map (wordV f)) (by rfl) (by simp; omega) ?_ ?_ (by unfold maxLen; omega) (by omega) (by simp) (by omega) ?_); rotate_left 2; intro g c w1 hown hgrow)
  · go_ret
    have hlt := hown.lt g rfl
    refine ⟨⟨g, c, rfl, hlt.1, hlt.2, fun i hi => ?_, fun i => hown.frozenAt i⟩, ((Below.refl w.heap.size w).alloc (Nat.le_refl _) _).grown hgrow (by simp) (fun k hk => by cases hk; exact Nat.le_refl _)⟩
    have h1 := hown.cells (g := g) rfl i (wordV f i) (by simp [hi])
    rw [add0] at h1
    exact h1
  · intro j u hu
    have hj : j < 7 * n := by
      have := (List.getElem?_eq_some_iff.1 hu).1
      simpa using this
    have hu' : wordV f j = u := by simpa [hj] using hu
    rw [← hu', addK]
    exact (((Below.refl w.heap.size w).alloc (Nat.le_refl _) _).cell (p := ⟨b, off + j, none⟩) hb).trans (HR.out j hj)
  · intro u hu
    obtain ⟨j, _, rfl⟩ := List.mem_map.1 hu
    rfl

theorem sOwn0 (b off cap : Nat) (w : World) :
    Calls Try.prog 44 #[.slice (some ⟨b, off, none⟩) 0 cap] w fun e w' => (∃ a c, e = .returned (.slice a 0 c)) ∧ Below w.heap.size w w' := by
  go_enter Try.func44, Try.ntmps44
  go_wp2_with fail
  go_ret
  exact ⟨⟨_, _, rfl⟩, by repeat' (first | with_reducible exact Below.refl _ _ | with_reducible assumption | (with_reducible refine Below.setCell ?_ (by first | omega | (simp; done) | (simp; omega)) _) | (with_reducible refine Below.alloc ?_ (by first | omega | (simp; done) | (simp; omega)) _) | (with_reducible refine below_drewN ?_ _) | (with_reducible refine Below.drew ?_) | (with_reducible refine Below.trans ?_ (Below.mono (by first | (with_reducible assumption) | exact Grow.below (by assumption)) (by first | omega | (simp; done) | (simp; omega)))))⟩
end Go.Proofs.Ytjljdnkedbejaaa
