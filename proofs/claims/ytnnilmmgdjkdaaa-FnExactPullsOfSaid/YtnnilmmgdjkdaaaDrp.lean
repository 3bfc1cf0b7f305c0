/-
  A list without one of its bodies, of the program. No condition.
-/
import Derived.Test.YtnnilmmgdjkdaaaCat
import Derived.Test.YtnnilmmgdjkdaaaTake
import Derived.Test.YtnnilmmgdjkdaaaHasB
namespace Go.Proofs.Ytnnilmmgdjkdaaa
open Go.RowKit

/-- The values of a list without the body k. -/
def dropV (v : Nat → Option Nat) (k j : Nat) : Option Nat := if j < 7 * k then v j else v (j + 7)
/-- Whether a body can be dropped. -/
def dropB (v : Nat → Option Nat) (n : Nat) (i : Int) : Bool := areB v n && inB i n

theorem without_row (f : Nat → Nat) (n k : Nat) (hk : k < n) :
    (List.range (7 * k)).map (wordV f) ++ (List.range (7 * (n - (k + 1)))).map (wordV fun j => f (7 * (k + 1) + j)) = (List.range (7 * (n - 1))).map (wordV fun j => if j < 7 * k then f j else f (j + 7)) := by
  apply List.ext_getElem
  · simp; omega
  · intro j h1 h2
    simp only [List.length_append, List.length_map, List.length_range] at h1 h2
    by_cases hj : j < 7 * k
    · rw [List.getElem_append_left (by simpa using hj)]
      simp [wordV, hj]
    · rw [List.getElem_append_right (by simp; omega)]
      simp [wordV, hj]
      congr 1
      omega

theorem rowOk_of {w : World} {base n : Nat} {v : Value} {r : Nat → Nat} {u : Nat → Option Nat} {e : TypeId} (h : w.ownsRow base e 7 v n ((List.range (7 * n)).map (wordV r))) (hu : ∀ i, i < 7 * n → Is .f32 (r i) (u i)) : RowOk base w.heap.size w v n u := by
  rcases Nat.eq_zero_or_pos n with rfl | hp
  · rcases h.2 with ⟨rfl, _⟩ | ⟨g, cap, cur, rfl, _⟩
    · exact .inl ⟨rfl, _, _, rfl⟩
    · exact .inl ⟨rfl, _, _, rfl⟩
  · obtain ⟨g, c, rfl, _, _⟩ := h.form hp
    have hlt := h.lt g rfl
    refine .inr ⟨g, c, r, rfl, hlt.1, hlt.2, ⟨hlt.2, fun i hi => ?_, fun i => h.frozenAt i⟩, hu⟩
    have h1 := h.cells (g := g) rfl i (wordV r i) (by simp [hi])
    rw [show (⟨g, 0, none⟩ : Addr).add i = ⟨g, i, none⟩ by unfold Addr.add; split <;> simp_all] at h1
    exact h1

theorem RowOk.lo {lo lo' hi m : Nat} {w : World} {v : Value} {u : Nat → Option Nat} (h : RowOk lo' hi w v m u) (hl : lo ≤ lo') : RowOk lo hi w v m u := by
  rcases h with h | ⟨g, c, r, e, h1, h2, ho, hi⟩
  · exact .inl h
  · exact .inr ⟨g, c, r, e, Nat.le_trans hl h1, h2, ho, hi⟩
theorem drop_is {f : Nat → Nat} {v : Nat → Option Nat} {n k : Nat} (h : ∀ i, i < 7 * n → Is .f32 (f i) (v i)) : ∀ i, i < 7 * (n - 1) → Is .f32 (if i < 7 * k then f i else f (i + 7)) (dropV v k i) := by
  intro i hi
  unfold dropV
  split
  · exact h _ (by omega)
  · exact h _ (by omega)

set_option maxHeartbeats 3200000 in
theorem iWithout (b off n cap k : Nat) (f : Nat → Nat) (v : Nat → Option Nat) (w : World) (hn : n ≤ 1048576) (hk : k < n) (hc : n ≤ cap) (hc2 : cap ≤ maxLen) (hb : b < w.heap.size) (hr : ∀ i, i < 7 * n → w.cell? ⟨b, off + i, none⟩ = some (.float .f32 (f i))) (hv : ∀ i, i < 7 * n → Is .f32 (f i) (v i)) :
    Calls Try.prog 29 #[.slice (some ⟨b, off, none⟩) n cap, .int .i64 k] w fun e w' => (∃ s, e = .returned s ∧ RowOk w.heap.size w'.heap.size w' s (n - 1) (dropV v k)) ∧ Below w.heap.size w w' := by
  have HR := Lib.hid hr
  have HV := Lib.hid hv
  clear hr hv
  have w1 : IntKind.i64.wrap ((k : Int) + 1) = ((k + 1 : Nat) : Int) := by rw [IntKind.wrap_i64]; omega
  obtain ⟨i, hi, he⟩ := Option.map_eq_some_iff.1 infoB
  simp only [Prod.mk.injEq] at he
  have hz : ∀ w, (Go.sizeOf 46).run Try.prog w = .ok 7 w := fun w => by simp [Go.sizeOf, typeInfo, hi, he.1]
  have k0 : ¬ ((k : Int) < 0) := by omega
  have k1 : ¬ ((cap : Int) < k) := by omega
  have k2 : ((k + 1 : Nat) : Int) ≤ (n : Int) := by omega
  have k3 : (0 : Int) ≤ ((k + 1 : Nat) : Int) := by omega
  obtain ⟨a2, hA2, hAb, hAj⟩ : ∃ a2 : Addr, (if cap = k + 1 then some (⟨b, off, none⟩ : Addr) else some ⟨b, off + (k + 1) * 7, none⟩) = some a2 ∧ a2.block = b ∧ ∀ j, j < 7 * (n - (k + 1)) → a2.add j = ⟨b, off + (7 * (k + 1) + j), none⟩ := by
    by_cases e : cap = k + 1
    · exact ⟨⟨b, off, none⟩, by rw [if_pos e], rfl, fun j hj => by omega⟩
    · refine ⟨⟨b, off + (k + 1) * 7, none⟩, by rw [if_neg e], rfl, fun j hj => ?_⟩
      unfold Addr.add
      split <;> simp_all
      omega
  clear hi he
  go_enter Try.func29, Try.ntmps29
  go_wp2
  (refine wp_region_held_drew (S := fun w' => Below w.heap.size w w') (by kernel_rfl) (by (try dsimp only); (repeat' (first | with_reducible assumption | with_reducible exact Below.refl _ _ | with_reducible exact keepW (by with_reducible assumption) (by with_reducible assumption) (by first | exact Nat.le_refl _ | assumption | omega | (simp; done) | (simp; omega)) | with_reducible exact keepS (by with_reducible assumption) (by with_reducible assumption) (by first | exact Nat.le_refl _ | assumption | omega | (simp; done) | (simp; omega)) | (with_reducible refine Below.setCell ?_ (by first | omega | (simp; done) | (simp; omega)) _) | (with_reducible refine below_drewN ?_ _) | (with_reducible refine Below.drew ?_) | (with_reducible refine Below.trans ?_ (Below.mono (by with_reducible assumption) (by first | omega | (simp; done) | (simp; omega)))) | (with_reducible refine Below.trans ?_ (Below.mono (Grow.below (by with_reducible assumption)) (by first | omega | (simp; done) | (simp; omega)))) | (with_reducible refine Below.alloc ?_ (by first | omega | (simp; done) | (simp; omega)) _)))) (fun hHeld => ?_))
  (refine wpTake (i := 0) (some 5) (v := ?_) rfl (by rfl) (by kernel_rfl) (by kernel_rfl) (by kernel_rfl) (fun _ _ _ h => h) (Or.inl ⟨by rfl, ?_⟩) (by assumption) ?_; rotate_left; (focus (intro w hSw; (try dsimp only at hSw); go_simp; (try with_reducible rfl))); (simp only [Act.put, List.setIfInBounds_toArray, List.set_cons_zero, List.set_cons_succ]))
  (refine wpTake (i := 1) (some 6) (v := ?_) rfl (by rfl) (by kernel_rfl) (by kernel_rfl) (by kernel_rfl) (fun _ _ _ h => h) (Or.inl ⟨by rfl, ?_⟩) (by assumption) ?_; rotate_left; (focus (intro w hSw; (try dsimp only at hSw); go_simp; (try with_reducible rfl))); (simp only [Act.put, List.setIfInBounds_toArray, List.set_cons_zero, List.set_cons_succ]))
  (refine wpTake (i := 3) (some 8) (v := ?_) rfl (by rfl) (by kernel_rfl) (by kernel_rfl) (by kernel_rfl) (fun _ _ _ h => h) (Or.inl ⟨by rfl, ?_⟩) (by assumption) ?_; rotate_left; (focus (intro w hSw; (try dsimp only at hSw); go_simp; (try with_reducible rfl))); (simp only [Act.put, List.setIfInBounds_toArray, List.set_cons_zero, List.set_cons_succ]))
  (refine wpTake (i := 4) (some 9) (v := ?_) rfl (by rfl) (by kernel_rfl) (by kernel_rfl) (by kernel_rfl) (fun _ _ _ h => h) (Or.inl ⟨by rfl, ?_⟩) (by assumption) ?_; rotate_left; (focus (intro w hSw; (try dsimp only at hSw); go_simp; (try with_reducible rfl))); (simp only [Act.put, List.setIfInBounds_toArray, List.set_cons_zero, List.set_cons_succ]))
  (refine wpTake (i := 5) (some 10) (v := ?_) rfl (by rfl) (by kernel_rfl) (by kernel_rfl) (by kernel_rfl) (fun _ _ _ h => h) (Or.inl ⟨by rfl, ?_⟩) (by assumption) ?_; rotate_left; (focus (intro w hSw; (try dsimp only at hSw); go_simp; (try with_reducible rfl))); (simp only [Act.put, List.setIfInBounds_toArray, List.set_cons_zero, List.set_cons_succ]))

  (refine wpTake (i := 2) (some 7) (v := .slice (some ⟨b, off, none⟩) k cap) rfl (by rfl) (by kernel_rfl) (by kernel_rfl) (by kernel_rfl) (fun _ _ _ h => h) (Or.inl ⟨by rfl, ?_⟩) (by assumption) ?_)
  · intro w hSw
    (try dsimp only at hSw)
    go_simp
  (simp only [Act.put, List.setIfInBounds_toArray, List.set_cons_zero, List.set_cons_succ])
  (refine wpTake (i := 6) (some 11) (v := .slice (some a2) (n - (k + 1)) (cap - (k + 1))) rfl (by rfl) (by kernel_rfl) (by kernel_rfl) (by kernel_rfl) (fun _ _ _ h => h) (Or.inl ⟨by rfl, ?_⟩) (by assumption) ?_)
  · intro w hSw
    (try dsimp only at hSw)
    go_simp
    have k4 : ((k : Int) + 1).toNat = k + 1 := by omega
    have k5 : (0 : Int) ≤ (k : Int) + 1 ∧ (k : Int) + 1 ≤ (n : Int) := by omega
    intro hq
    exact absurd (hq k5.1) (by have := k5.2; omega)
  (simp only [Act.put, List.setIfInBounds_toArray, List.set_cons_zero, List.set_cons_succ])
  (refine wpAnyH_ready (rs := [7]) (by kernel_rfl) (by simp) ?_; refine AllReadyH.cons rfl (fun K hK => ?_) AllReadyH.nil; go_simp)
  refine hK.out _ _ (by repeat' (first | with_reducible exact Below.refl _ _ | with_reducible assumption | (with_reducible refine Below.setCell ?_ (by first | omega | (simp; done) | (simp; omega)) _) | (with_reducible refine Below.alloc ?_ (by first | omega | (simp; done) | (simp; omega)) _) | (with_reducible refine below_drewN ?_ _) | (with_reducible refine Below.drew ?_) | (with_reducible refine Below.trans ?_ (Below.mono (by first | (with_reducible assumption) | exact Grow.below (by assumption)) (by first | omega | (simp; done) | (simp; omega)))))) (fun hHeld => ?_)
  clear hK K
  (try simp only [Act.put, List.setIfInBounds_toArray, List.set_cons_zero, List.set_cons_succ])
  have hz2 := hHeld.size
  (refine wpAnyH_ready (rs := [8]) (by kernel_rfl) (by simp) ?_; refine AllReadyH.cons rfl (fun K hK => ?_) AllReadyH.nil; go_simp)
  (go_at_call 48; refine (iCat w.heap.size ⟨b, off, none⟩ a2 k (n - (k + 1)) cap (cap - (k + 1)) f (fun j => f (7 * (k + 1) + j)) _ (by omega) (by simp) (by simp) (by simp) (Nat.lt_of_lt_of_le hb hz2) (by rw [hAb]; exact Nat.lt_of_lt_of_le hb hz2) (fun j hj => ?_) (fun j hj => ?_)).mono ?_; rotate_left 2; rintro _ W2 ⟨⟨s, rfl, ho⟩, b2⟩)
  · (go_wp2_with fail; refine hK.out _ _ (by (try dsimp only); (repeat' (first | with_reducible assumption | with_reducible exact Below.refl _ _ | with_reducible exact keepW (by with_reducible assumption) (by with_reducible assumption) (by first | exact Nat.le_refl _ | assumption | omega | (simp; done) | (simp; omega)) | with_reducible exact keepS (by with_reducible assumption) (by with_reducible assumption) (by first | exact Nat.le_refl _ | assumption | omega | (simp; done) | (simp; omega)) | (with_reducible refine Below.setCell ?_ (by first | omega | (simp; done) | (simp; omega)) _) | (with_reducible refine below_drewN ?_ _) | (with_reducible refine Below.drew ?_) | (with_reducible refine Below.trans ?_ (Below.mono (by with_reducible assumption) (by first | omega | (simp; done) | (simp; omega)))) | (with_reducible refine Below.trans ?_ (Below.mono (Grow.below (by with_reducible assumption)) (by first | omega | (simp; done) | (simp; omega)))) | (with_reducible refine Below.alloc ?_ (by first | omega | (simp; done) | (simp; omega)) _)))) (fun hHeld => ?_); clear hK K; try (simp only [Act.put, List.setIfInBounds_toArray, List.set_cons_zero, List.set_cons_succ]))
    (refine wpTake (i := 9) (some 4) (v := ?_) rfl (by rfl) (by kernel_rfl) (by kernel_rfl) (by kernel_rfl) (fun _ _ _ h => h) (Or.inl ⟨by rfl, ?_⟩) (by assumption) ?_; rotate_left; (focus (intro w hSw; (try dsimp only at hSw); go_simp; (try with_reducible rfl))); (simp only [Act.put, List.setIfInBounds_toArray, List.set_cons_zero, List.set_cons_succ]))
    (refine wpAnyH_done (by kernel_rfl) ?_ _)
    go_wp2_with fail
    go_ret
    rw [without_row f n k hk, show k + (n - (k + 1)) = n - 1 by omega] at ho
    exact ⟨⟨s, rfl, (rowOk_of ho (drop_is HV.out)).lo hz2⟩, by with_reducible assumption⟩
  · exact (hHeld.cell (p := (⟨b, off, none⟩ : Addr).add j) (by rw [show ((⟨b, off, none⟩ : Addr).add j).block = b by unfold Addr.add; split <;> rfl]; exact hb)).trans (by rw [show (⟨b, off, none⟩ : Addr).add j = ⟨b, off + j, none⟩ by unfold Addr.add; split <;> simp_all]; exact HR.out j (by omega))
  · rw [hAj j hj]
    exact (hHeld.cell (p := ⟨b, off + (7 * (k + 1) + j), none⟩) hb).trans (HR.out _ (by omega))

set_option maxHeartbeats 3200000 in
theorem iDrop (b off n cap : Nat) (f : Nat → Nat) (v : Nat → Option Nat) (i : Int) (hc : n ≤ cap) (hc2 : cap ≤ maxLen) (w : World) (hn : n ≤ 1048576) (hb : b < w.heap.size) (hr : ∀ i, i < 7 * n → w.cell? ⟨b, off + i, none⟩ = some (.float .f32 (f i))) (hv : ∀ i, i < 7 * n → Is .f32 (f i) (v i)) :
    Calls Try.prog 17 #[.slice (some ⟨b, off, none⟩) n cap, .int .i64 i] w (RetList (dropV v i.toNat) (n - 1) (dropB v n i) w) := by
  have HA := iAre b off n cap f v w hn hb hr hv
  have HR := Lib.hid hr
  have HV := Lib.hid hv
  clear hr hv
  cases ha : areB v n with
  | false =>
    rw [ha] at HA
    rw [show dropB v n i = false by simp [dropB, ha]]
    go_enter Try.func17, Try.ntmps17
    go_wp2_with (go_at_call 20; refine (HA).mono ?_; rintro _ W1 ⟨rfl, b1⟩)
    go_ret2
    exact RetList.no b1
  | true =>
    rw [ha] at HA
    have HH := fun (W : World) => iBodyOf (some ⟨b, off, none⟩) n cap i W
    cases hi : inB i n with
    | true =>
      rw [hi] at HH
      rw [show dropB v n i = true by simp [dropB, ha, hi]]
      simp only [inB, Bool.and_eq_true, decide_eq_true_eq] at hi
      obtain ⟨k, rfl⟩ : ∃ k : Nat, i = k := ⟨i.toNat, by omega⟩
      have HK := Lib.hid (show k < n by omega)
      clear hi
      have HC := Lib.hid hc
      have HM := Lib.hid hc2
      clear hc hc2
      go_enter Try.func17, Try.ntmps17
      go_wp2_with (first | (go_at_call 20; refine (HA).mono ?_; rintro _ W1 ⟨rfl, b1⟩) | (go_at_call 35; refine (HH _).mono ?_; rintro eq wq ⟨nq, rfl, rfl⟩) | (go_at_call 29; refine (iWithout b off n cap k f v _ hn HK.out HC.out HM.out (Nat.lt_of_lt_of_le hb (below_drewN b1 _).size) (fun i hi => ((below_drewN b1 _).cell (p := ⟨b, off + i, none⟩) hb).trans (HR.out i hi)) HV.out).mono ?_; rintro _ W3 ⟨⟨s, rfl, ho⟩, b3⟩))
      go_ret2
      have bN := below_drewN b1 nq
      exact ⟨⟨s, rfl, by simpa using ho.lo bN.size⟩, bN.trans (b3.mono bN.size)⟩
    | false =>
      rw [hi] at HH
      rw [show dropB v n i = false by simp [dropB, hi]]
      clear hi
      go_enter Try.func17, Try.ntmps17
      go_wp2_with (first | (go_at_call 20; refine (HA).mono ?_; rintro _ W1 ⟨rfl, b1⟩) | (go_at_call 35; refine (HH _).mono ?_; rintro eq wq ⟨nq, rfl, rfl⟩))
      go_ret2
      exact RetList.no (below_drewN b1 _)
end Go.Proofs.Ytnnilmmgdjkdaaa
