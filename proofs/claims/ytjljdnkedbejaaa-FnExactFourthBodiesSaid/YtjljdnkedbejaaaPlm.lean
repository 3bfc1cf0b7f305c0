/-
  How all bodies are pulled, of the model. No condition.
-/
import Derived.Test.YtjljdnkedbejaaaPll
namespace Go.Proofs.Ytjljdnkedbejaaa
open Go.RowKit

theorem range3 (g : Nat → Value) (k : Nat) : (List.range (3 * (k + 1))).map g = (List.range (3 * k)).map g ++ [g (3 * k), g (3 * k + 1), g (3 * k + 2)] := by
  rw [show 3 * (k + 1) = 3 * k + 1 + 1 + 1 by omega]
  simp [List.range_succ]
theorem rowVr_of {w : World} {base n : Nat} {v : Value} {r : Nat → Nat} {u : Nat → Option Nat} {e : TypeId} (h : w.ownsRow base e 3 v n ((List.range (3 * n)).map (wordV r))) (hu : ∀ i, i < 3 * n → Is .f32 (r i) (u i)) : RowVr base w.heap.size w v n u := by
  rcases Nat.eq_zero_or_pos n with rfl | hp
  · rcases h.2 with ⟨rfl, _⟩ | ⟨g, cap, cur, rfl, _⟩
    · exact .inl ⟨rfl, _, _, rfl⟩
    · exact .inl ⟨rfl, _, _, rfl⟩
  · obtain ⟨g, c, rfl, _, _⟩ := h.form hp
    have hlt := h.lt g rfl
    refine .inr ⟨g, c, r, rfl, hlt.1, hlt.2, ⟨hlt.2, fun i hi => ?_, fun i => h.frozenAt i⟩, hu⟩
    have h1 := h.cells (g := g) rfl i (wordV r i) (by simp [hi])
    rw [dadd0] at h1
    exact h1

set_option maxHeartbeats 3200000 in
theorem sPullsL (b off n cap : Nat) (f : Nat → Nat) (v : Nat → Option Nat) {x : Nat} {c : Option Nat} (ix : Is .f32 x c) (hA : areB v n = true) (hL : leastB c = true) (w : World) (hn : n ≤ 1048576) (hb : b < w.heap.size) (hr : ∀ i, i < 7 * n → w.cell? ⟨b, off + i, none⟩ = some (.float .f32 (f i))) (hv : ∀ i, i < 7 * n → Is .f32 (f i) (v i)) :
    Calls Try.prog 43 #[.slice (some ⟨b, off, none⟩) n cap, .float .f32 x] w (RetVecs (plV v c n) n (plAll v c n n) w) := by
  have hst := run_store_float Try.prog
  have HR := Lib.hid hr
  have HV := Lib.hid hv
  have HA := Lib.hid hA
  have HL := Lib.hid hL
  clear hr hv hA hL
  obtain ⟨i, hi, he⟩ := Option.map_eq_some_iff.1 infoV
  obtain ⟨i', hi', hzk⟩ := Option.map_eq_some_iff.1 zeroVV
  obtain rfl : i' = i := by rw [hi] at hi'; cases hi'; rfl
  simp only [Prod.mk.injEq] at he
  obtain ⟨hs, hbt⟩ := he
  obtain ⟨z, hzz, hzc⟩ := Option.map_eq_some_iff.1 hzk
  have hcz : z.cells.size = 3 := by rw [hzc]; rfl
  clear hzk hzc
  have hi' := hi
  clear hi
  go_enter Try.func43, Try.ntmps43
  go_wp2
  have b2 : Below w.heap.size w (w.alloc (.cells #[] 40)) := (Below.refl _ _).alloc (Nat.le_refl _) _
  have o2 : (w.alloc (.cells #[] 40)).ownsRow w.heap.size 40 3 (.slice (some ⟨w.heap.size, 0, none⟩) 0 0) 0 [] := World.ownsRow_made (base := w.heap.size) (e := 40) (size := 3) w #[] 0 (Nat.le_refl _) (Nat.zero_le _) rfl
  generalize (w.alloc (.cells #[] 40)) = W2 at b2 o2 ⊢
  go_loopw [7, 6] (fun i l wr => ∃ (k : Nat) (r : Nat → Nat), k ≤ n ∧ i = .int .i64 k ∧ wr.ownsRow w.heap.size 40 3 l k ((List.range (3 * k)).map (wordV r)) ∧ (∀ i, i < 3 * k → Is .f32 (r i) (plV v c n i)) ∧ plAll v c n k = true ∧ Below w.heap.size w wr) (fun i _ _ => n - (intOf i).toNat)
  case atStart => exact ⟨0, fun _ => 0, Nat.zero_le _, rfl, o2, fun i hi => by omega, rfl, b2⟩
  case round =>
    clear o2 b2
    obtain ⟨k, r, hk, rfl, ho, hi, hp, hbel⟩ := hrel
    have HO := Lib.hid ho
    have HI := Lib.hid hi
    have HP := Lib.hid hp
    clear ho hi hp
    by_cases hlt : k < n
    · obtain ⟨c0, c1, c2, c3, c4, c5, c6⟩ := cells7 HR.out hlt
      rw [← hbel.cell (by exact hb)] at c0 c1 c2 c3 c4 c5 c6
      have hz2 := hbel.size
      have i0 : Is .f32 (f (7 * k)) (plA v k 0) := HV.out (7 * k) (by omega)
      have i1 : Is .f32 (f (7 * k + 1)) (plA v k 1) := HV.out (7 * k + 1) (by omega)
      have i2 : Is .f32 (f (7 * k + 2)) (plA v k 2) := HV.out (7 * k + 2) (by omega)
      have hF : finV (plA v k 0) (plA v k 1) (plA v k 2) = true := by
        obtain ⟨z0, z1, z2, -⟩ := fin_at HA.out hlt
        unfold finV plA
        simp only [Nat.add_zero, z0, z1, z2, Bool.and_self]
      have eJ0 := plV_at v c n k 0 (by decide)
      have eJ1 := plV_at v c n k 1 (by decide)
      have eJ2 := plV_at v c n k 2 (by decide)
      rw [Nat.add_zero] at eJ0
      have SP := fun (W : World) (hW : Below w.heap.size w W) => sPullZ (k : Int) b off n cap f v (plA v k) c W hn HA.out hF HL.out (Nat.lt_of_lt_of_le hb hW.size) (fun i hi => (hW.cell (p := ⟨b, off + i, none⟩) hb).trans (HR.out i hi)) HV.out i0 i1 i2 ix
      rw [← eJ0, ← eJ1, ← eJ2] at SP
      clear eJ0 eJ1 eJ2 hF i0 i1 i2
      obtain ⟨X, rfl⟩ : ∃ X, X = wr := ⟨wr, rfl⟩
      go_wp2_with fail
      (go_at_call 52; (with_reducible refine (SP _ (by repeat' (first | with_reducible exact Below.refl _ _ | with_reducible assumption | (with_reducible refine Below.setCell ?_ (by first | omega | (simp; done) | (simp; omega)) _) | (with_reducible refine Below.alloc ?_ (by first | omega | (simp; done) | (simp; omega)) _) | (with_reducible refine below_drewN ?_ _) | (with_reducible refine Below.drew ?_) | (with_reducible refine Below.trans ?_ (Below.mono (by first | (with_reducible assumption) | exact Grow.below (by assumption)) (by first | omega | (simp; done) | (simp; omega))))))).mono ?_); rintro _ W3 ⟨⟨t0, t1, t2, rfl, j0, j1, j2⟩, e3⟩)
      go_wp2_with fail
      have VF := fun W => sFinV j0 j1 j2 W
      rw [show finV (plV v c n (3 * k)) (plV v c n (3 * k + 1)) (plV v c n (3 * k + 2)) = plOne v c n k from rfl] at VF
      have e4 : Below X.heap.size X (W3.alloc (Obj.cells #[.float .f32 t0, .float .f32 t1, .float .f32 t2] 40)) := e3.alloc e3.size _
      cases hO : plOne v c n k with
      | false =>
        rw [hO] at VF
        have HNO := Lib.hid (plAll_no hO hlt)
        clear hO
        (go_at_call 51; refine (VF _).mono ?_; rintro _ W5 ⟨rfl, e5⟩)
        go_wp2_with fail
        go_ret2
        rw [HNO.out]
        exact RetVecs.no (hbel.trans ((e4.trans (e5.1.mono e4.size)).mono hz2))
      | true =>
        rw [hO] at VF
        have HNO := Lib.hid (show plAll v c n (k + 1) = true by simp [plAll, HP.out, hO])
        clear hO
        (go_at_call 51; refine (VF _).mono ?_; rintro _ W5 ⟨rfl, e5⟩)
        have q0 : W5.cell? ⟨W3.heap.size, 0, none⟩ = some (.float .f32 t0) := (e5.1.cell (p := ⟨W3.heap.size, 0, none⟩) (by simp)).trans (by simp)
        have q1 : W5.cell? ⟨W3.heap.size, 1, none⟩ = some (.float .f32 t1) := (e5.1.cell (p := ⟨W3.heap.size, 1, none⟩) (by simp)).trans (by simp)
        have q2 : W5.cell? ⟨W3.heap.size, 2, none⟩ = some (.float .f32 t2) := (e5.1.cell (p := ⟨W3.heap.size, 2, none⟩) (by simp)).trans (by simp)
        have e6 : Below X.heap.size X W5 := e4.trans (e5.1.mono e4.size)
        have z6 := e6.size
        have zq : W3.heap.size < W5.heap.size := by have := e5.1.size; simp at this; omega
        clear e3 e4 e5
        go_wp2_with (at_builtin; go_loud (refine wpList_append_form (by rfl) (.tmp 28) (.tmp 30) 68 (by rfl) w.heap.size 40 i' z 3 12 Try.underlying68 hi' hzz hs hbt hcz (by decide) _ k _ (by rfl) (drow_below HO.out (e6.alloc z6 _)) ⟨W5.heap.size, 0, none⟩ 1 1 [_, _, _] (by rfl) rfl (dnews _ W5.heap.size #[_, _, _] _ (by simp)) (fun u hu => by simp at hu; rcases hu with rfl | rfl | rfl <;> rfl) (by unfold maxLen; omega) (by omega) (by simp; omega) (by omega) ?_); intro g' cap' w3 hown' hgrow)
        refine ⟨⟨k + 1, fun j => if j = 3 * k then t0 else if j = 3 * k + 1 then t1 else if j = 3 * k + 2 then t2 else r j, by omega, by go_num, ?_, ?_, HNO.out, ?_⟩, by simp [intOf]; omega⟩
        · rw [range3]
          have e : (List.range (3 * k)).map (wordV fun j => if j = 3 * k then t0 else if j = 3 * k + 1 then t1 else if j = 3 * k + 2 then t2 else r j) = (List.range (3 * k)).map (wordV r) := by
            apply List.map_congr_left
            intro j hj
            have hj' := List.mem_range.1 hj
            simp only [wordV]
            rw [if_neg (by omega), if_neg (by omega), if_neg (by omega)]
          rw [e]
          have e01 : ¬ 3 * k + 1 = 3 * k := by omega
          have e02 : ¬ 3 * k + 2 = 3 * k := by omega
          have e12 : ¬ 3 * k + 2 = 3 * k + 1 := by omega
          simpa [wordV, e01, e02, e12] using hown'
        · intro i hi
          (try dsimp only)
          have hc : i < 3 * k ∨ i = 3 * k ∨ i = 3 * k + 1 ∨ i = 3 * k + 2 := by omega
          have e01 : ¬ 3 * k + 1 = 3 * k := by omega
          have e02 : ¬ 3 * k + 2 = 3 * k := by omega
          have e12 : ¬ 3 * k + 2 = 3 * k + 1 := by omega
          rcases hc with hc | rfl | rfl | rfl
          · have f0 : ¬ i = 3 * k := by omega
            have f1 : ¬ i = 3 * k + 1 := by omega
            have f2 : ¬ i = 3 * k + 2 := by omega
            simp only [f0, f1, f2, if_false]
            exact HI.out i hc
          · rw [if_pos rfl]; exact j0
          · rw [if_neg e01, if_pos rfl]; exact j1
          · rw [if_neg e02, if_neg e12, if_pos rfl]; exact j2
        · refine Below.grown ?_ hgrow (by simp; omega) (fun i hi => (HO.out.lt i hi).1)
          exact (hbel.trans (e6.mono hz2)).alloc (by omega) _
    · have hkn : k = n := by omega
      have ho := HO.out
      have hP := HP.out
      have hI := HI.out
      rw [hkn] at ho hP hI
      have HO2 := Lib.hid ho
      have HI2 := Lib.hid hI
      have HP2 := Lib.hid hP
      clear ho HO hP HP hI HI
      go_wp2_with fail
      go_ret2
      rw [HP2.out]
      exact ⟨⟨_, rfl, by simpa using rowVr_of HO2.out HI2.out⟩, hbel⟩

end Go.Proofs.Ytjljdnkedbejaaa
