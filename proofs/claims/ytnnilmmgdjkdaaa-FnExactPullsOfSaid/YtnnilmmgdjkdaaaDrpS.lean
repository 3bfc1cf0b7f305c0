/-
  A list without one of its bodies, of the model. No condition.
-/
import Derived.Test.YtnnilmmgdjkdaaaDrp
namespace Go.Proofs.Ytnnilmmgdjkdaaa
open Go.RowKit

theorem daddK (b off i : Nat) : (⟨b, off, none⟩ : Addr).add i = ⟨b, off + i, none⟩ := by unfold Addr.add; split <;> simp_all
theorem dadd0 (b i : Nat) : (⟨b, 0, none⟩ : Addr).add i = ⟨b, i, none⟩ := by rw [daddK, Nat.zero_add]
theorem drow_below {w w' : World} {base : Nat} {e : TypeId} {size : Nat} {v : Value} {n : Nat} {xs : List Value} (h : w.ownsRow base e size v n xs) (hb : Below w.heap.size w w') : w'.ownsRow base e size v n xs := by
  obtain ⟨h1, h2 | ⟨g, cap, cur, h2, h3, h4, h5⟩⟩ := h
  · exact ⟨h1, .inl h2⟩
  · refine ⟨h1, .inr ⟨g, cap, cur, h2, h3, ?_, h5⟩⟩
    rw [hb.block g ?_]; exact h4
    rcases Nat.lt_or_ge g w.heap.size with h | h
    · exact h
    · rw [Array.getElem?_eq_none h] at h4; cases h4
theorem dcell_of_block {w : World} {g k : Nat} {cs : Array Value} {e : TypeId} {v : Value} (h : w.heap[g]? = some (.cells cs e (0, 0))) (hk : cs[k]? = some v) : w.cell? ⟨g, k, none⟩ = some v := by
  simp [World.cell?, h, hk]
theorem dnews (w : World) (B : Nat) (cs : Array Value) (e : TypeId) (hB : B = w.heap.size) : ∀ i u, cs.toList[i]? = some u → (w.alloc (.cells cs e)).cell? ((⟨B, 0, none⟩ : Addr).add i) = some u := by
  intro i u h
  subst hB
  rw [dadd0]
  exact dcell_of_block (heap_alloc_new w _) (by simpa using h)
theorem range7 (g : Nat → Value) (k : Nat) : (List.range (7 * (k + 1))).map g = (List.range (7 * k)).map g ++ [g (7 * k), g (7 * k + 1), g (7 * k + 2), g (7 * k + 3), g (7 * k + 4), g (7 * k + 5), g (7 * k + 6)] := by
  rw [show 7 * (k + 1) = 7 * k + 1 + 1 + 1 + 1 + 1 + 1 + 1 by omega]
  simp [List.range_succ]

/-- The words of a list without the body K. -/
def dropF (f : Nat → Nat) (K j : Nat) : Nat := if j < 7 * K then f j else f (j + 7)
/-- How many bodies of the first k are kept. -/
def keptN (K k : Nat) : Nat := if k ≤ K then k else k - 1
theorem dropF_at (f : Nat → Nat) {K k t : Nat} (h : k ≠ K) (ht : t < 7) : dropF f K (7 * keptN K k + t) = f (7 * k + t) := by
  unfold dropF keptN
  by_cases hk : k ≤ K
  · rw [if_pos hk, if_pos (by omega)]
  · rw [if_neg hk, if_neg (by omega)]
    congr 1
    omega

set_option maxHeartbeats 3200000 in
theorem sDrop (b off n cap : Nat) (f : Nat → Nat) (v : Nat → Option Nat) (i : Int) (hc : n ≤ cap) (hc2 : cap ≤ maxLen) (w : World) (hn : n ≤ 1048576) (hb : b < w.heap.size) (hr : ∀ i, i < 7 * n → w.cell? ⟨b, off + i, none⟩ = some (.float .f32 (f i))) (hv : ∀ i, i < 7 * n → Is .f32 (f i) (v i)) :
    Calls Try.prog 16 #[.slice (some ⟨b, off, none⟩) n cap, .int .i64 i] w (RetList (dropV v i.toNat) (n - 1) (dropB v n i) w) := by
  have hst := run_store_float Try.prog
  have HA := sHas b off n cap f v i w hn hb hr hv
  have HR := Lib.hid hr
  have HV := Lib.hid hv
  clear hr hv
  cases hd : (areB v n && inB i n) with
  | false =>
    rw [hd] at HA
    rw [show dropB v n i = false from hd]
    clear hd
    go_enter Try.func16, Try.ntmps16
    go_wp2_with (go_at_call 34; refine (HA).mono ?_; rintro _ W1 ⟨rfl, b1⟩)
    go_ret2
    exact RetList.no b1
  | true =>
    rw [hd] at HA
    rw [show dropB v n i = true from hd]
    simp only [inB, Bool.and_eq_true, decide_eq_true_eq] at hd
    obtain ⟨K, rfl⟩ : ∃ K : Nat, i = K := ⟨i.toNat, by omega⟩
    have HK := Lib.hid (show K < n by omega)
    clear hd
    obtain ⟨i, hi, he⟩ := Option.map_eq_some_iff.1 infoB
    obtain ⟨i', hi', hzk⟩ := Option.map_eq_some_iff.1 zeroB
    obtain rfl : i' = i := by rw [hi] at hi'; cases hi'; rfl
    simp only [Prod.mk.injEq] at he
    obtain ⟨hs, hbt⟩ := he
    obtain ⟨z, hzz, hzc⟩ := Option.map_eq_some_iff.1 hzk
    have hcz : z.cells.size = 7 := by rw [hzc]; rfl
    clear hzk hzc
    have hi' := hi
    clear hi
    go_enter Try.func16, Try.ntmps16
    go_wp2_with (go_at_call 34; refine (HA).mono ?_; rintro _ W1 ⟨rfl, b1⟩)
    have b2 : Below w.heap.size w (W1.alloc (.cells #[] 46)) := by have hz1 := b1.size; repeat' (first | with_reducible exact Below.refl _ _ | with_reducible assumption | (with_reducible refine Below.setCell ?_ (by first | omega | (simp; done) | (simp; omega)) _) | (with_reducible refine Below.alloc ?_ (by first | omega | (simp; done) | (simp; omega)) _) | (with_reducible refine below_drewN ?_ _) | (with_reducible refine Below.drew ?_) | (with_reducible refine Below.trans ?_ (Below.mono (by first | (with_reducible assumption) | exact Grow.below (by assumption)) (by first | omega | (simp; done) | (simp; omega)))))
    have o2 : (W1.alloc (.cells #[] 46)).ownsRow w.heap.size 46 7 (.slice (some ⟨W1.heap.size, 0, none⟩) 0 0) 0 [] := World.ownsRow_made (base := w.heap.size) (e := 46) (size := 7) W1 #[] 0 b1.size (Nat.zero_le _) rfl
    generalize (W1.alloc (.cells #[] 46)) = W2 at b2 o2 ⊢
    clear b1
    go_loopw [7, 6] (fun i l wr => ∃ k : Nat, k ≤ n ∧ i = .int .i64 k ∧ wr.ownsRow w.heap.size 46 7 l (keptN K k) ((List.range (7 * keptN K k)).map (wordV (dropF f K))) ∧ Below w.heap.size w wr) (fun i _ _ => n - (intOf i).toNat)
    case atStart => exact ⟨0, Nat.zero_le _, rfl, by simpa [keptN] using o2, b2⟩
    case round =>
      clear o2 b2
      obtain ⟨k, hk, rfl, ho, hbel⟩ := hrel
      have HO := Lib.hid ho
      clear ho
      by_cases hlt : k < n
      · obtain ⟨c0, c1, c2, c3, c4, c5, c6⟩ := cells7 HR.out hlt
        rw [← hbel.cell (by exact hb)] at c0 c1 c2 c3 c4 c5 c6
        have hz2 := hbel.size
        by_cases hkK : k = K
        · have hki : Hid (k = K) := hkK
          clear hkK
          have hki2 : (k : Int) = (K : Int) := by rw [hki.out]
          go_wp2_with fail
          refine ⟨⟨k + 1, by omega, by rw [hki.out]; go_num, ?_, hbel⟩, by simp [intOf]; omega⟩
          rw [show keptN K (k + 1) = keptN K k by unfold keptN; rw [if_neg (by have := hki.out; omega), if_pos (by have := hki.out; omega)]; omega]
          exact HO.out
        · have hki : Hid (k ≠ K) := hkK
          have hki2 : ¬ ((k : Int) = (K : Int)) := by omega
          clear hkK
          go_wp2_with (at_builtin; go_loud (refine wpList_append_form (by rfl) (.tmp 22) (.tmp 27) 28 (by rfl) w.heap.size 46 i' z 7 28 Try.underlying28 hi' hzz hs hbt hcz (by decide) _ (keptN K k) _ (by rfl) (drow_below HO.out (by repeat' (first | with_reducible exact Below.refl _ _ | with_reducible assumption | (with_reducible refine Below.setCell ?_ (by first | omega | (simp; done) | (simp; omega)) _) | (with_reducible refine Below.alloc ?_ (by first | omega | (simp; done) | (simp; omega)) _) | (with_reducible refine below_drewN ?_ _) | (with_reducible refine Below.drew ?_) | (with_reducible refine Below.trans ?_ (Below.mono (by first | (with_reducible assumption) | exact Grow.below (by assumption)) (by first | omega | (simp; done) | (simp; omega))))))) ⟨wr.heap.size, 0, none⟩ 1 1 [_, _, _, _, _, _, _] (by rfl) rfl (dnews _ wr.heap.size #[_, _, _, _, _, _, _] _ (by simp)) (fun u hu => by simp at hu; rcases hu with rfl | rfl | rfl | rfl | rfl | rfl | rfl <;> rfl) (by unfold maxLen keptN; split <;> omega) (by unfold keptN; split <;> omega) (by simp; omega) (by omega) ?_); intro g' cap' w3 hown' hgrow)
          refine ⟨⟨k + 1, by omega, by go_num, ?_, ?_⟩, by simp [intOf]; omega⟩
          · rw [show keptN K (k + 1) = keptN K k + 1 by have := hki.out; unfold keptN; split <;> split <;> omega, range7]
            have h0 := dropF_at f hki.out (t := 0) (by omega)
            simp only [Nat.add_zero] at h0
            rw [show [wordV (dropF f K) (7 * keptN K k), wordV (dropF f K) (7 * keptN K k + 1), wordV (dropF f K) (7 * keptN K k + 2), wordV (dropF f K) (7 * keptN K k + 3), wordV (dropF f K) (7 * keptN K k + 4), wordV (dropF f K) (7 * keptN K k + 5), wordV (dropF f K) (7 * keptN K k + 6)] = [.float .f32 (f (7 * k)), .float .f32 (f (7 * k + 1)), .float .f32 (f (7 * k + 2)), .float .f32 (f (7 * k + 3)), .float .f32 (f (7 * k + 4)), .float .f32 (f (7 * k + 5)), .float .f32 (f (7 * k + 6))] by
              simp only [wordV, h0, dropF_at f hki.out (t := 1) (by omega), dropF_at f hki.out (t := 2) (by omega), dropF_at f hki.out (t := 3) (by omega), dropF_at f hki.out (t := 4) (by omega), dropF_at f hki.out (t := 5) (by omega), dropF_at f hki.out (t := 6) (by omega)]]
            exact hown'
          · refine Below.grown ?_ hgrow (by simp; omega) (fun i hi => (HO.out.lt i hi).1)
            repeat' (first | with_reducible exact Below.refl _ _ | with_reducible assumption | (with_reducible refine Below.setCell ?_ (by first | omega | (simp; done) | (simp; omega)) _) | (with_reducible refine Below.alloc ?_ (by first | omega | (simp; done) | (simp; omega)) _) | (with_reducible refine below_drewN ?_ _) | (with_reducible refine Below.drew ?_) | (with_reducible refine Below.trans ?_ (Below.mono (by first | (with_reducible assumption) | exact Grow.below (by assumption)) (by first | omega | (simp; done) | (simp; omega)))))
      · have hkn : k = n := by omega
        have ho := HO.out
        rw [show keptN K k = n - 1 by have := HK.out; unfold keptN; rw [if_neg (by omega), hkn]] at ho
        have HO2 := Lib.hid ho
        clear ho HO
        go_wp2_with fail
        go_ret2
        exact ⟨⟨_, rfl, by simpa using rowOk_of HO2.out (drop_is HV.out)⟩, hbel⟩
end Go.Proofs.Ytnnilmmgdjkdaaa
